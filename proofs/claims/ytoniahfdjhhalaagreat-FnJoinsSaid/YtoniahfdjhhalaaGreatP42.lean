/- Texts of this claim, put together. -/
import Derived.Test.YtoniahfdjhhalaaGreatP1
import Derived.Test.YtoniahfdjhhalaaGreatP2
import Derived.Test.YtoniahfdjhhalaaGreatP17
import Derived.Test.YtoniahfdjhhalaaGreatP41

namespace Go.Proofs.YtoniahfdjhhalaaGreat
open Go.RowKit
def WishSaid (B g : Nat) (w : World) (e : Ending) (w' : World) : Prop := ∃ k n t m : Int, e = .returned (.agg #[.int .i64 k, .int .i64 n, .int .i64 t, .int .i64 m]) ∧ deedOk k n t m = true ∧ Keeps g w w' ∧ LDice B g w'
set_option linter.unusedSimpArgs false in
set_option maxHeartbeats 4000000 in
set_option maxRecDepth 100000 in
theorem wish_any (B g : Nat) (nodes : Int) (w : World) (hd : LDice B g w) (h0 : 0 < nodes) (h4 : nodes ≤ 4) :
    Calls Tryz.prog 39 #[.pointer (some ⟨g, 0, none⟩), .int .i64 nodes] w (WishSaid B g w) := by
  have hg := hd.hg
  obtain ⟨wb, hwb⟩ : ∃ x, x = w.alloc (.cells #[.int .i64 0, .int .i64 0, .int .i64 0, .int .i64 0] 60) := ⟨_, rfl⟩
  obtain ⟨gr, hgr0⟩ : ∃ x, x = w.heap.size := ⟨_, rfl⟩
  have hR0 : Blk wb gr 60 #[.int .i64 0, .int .i64 0, .int .i64 0, .int .i64 0] := by rw [hwb, hgr0]; exact Blk.new _ _ _
  have hbb : Below w.heap.size w wb := by rw [hwb]; exact (Below.refl _ _).alloc (Nat.le_refl _) _
  have hgrw : w.heap.size ≤ gr := by omega
  have hgrg : gr ≠ g := by omega
  have hD0 := hd.below hbb hg
  have hK0 : Keeps g w wb := Keeps.of_below hbb
  go_enter Tryz.func39, Tryz.ntmps39
  go_upto_region 1 with fail
  rw [← hwb, ← hgr0]
  clear hwb hgr0
  go_wp2_with fail
  refine (ldBelow_any B g 3 _ hD0 (by decide) (by decide)).mono ?_
  rintro e w1 ⟨r1, rfl, hr1, ho1, hD1⟩
  go_wp2_with fail
  refine (ldBelow_any B g nodes _ hD1 h0 (by omega)).mono ?_
  rintro e w2 ⟨r2, rfl, hr2, ho2, hD2⟩
  go_wp2_with fail
  refine (ldBelow_any B g 40 _ hD2 (by decide) (by decide)).mono ?_
  rintro e w3 ⟨r3, rfl, hr3, ho3, hD3⟩
  have hko := ((ho1.trans ho2).trans ho3).keeps
  have hK3 := hK0.trans hko
  have hR3 := hR0.keeps hko hgrg
  clear hD0 hD1 hD2 hK0 hR0 ho1 ho2 ho3 hko hbb hd
  obtain ⟨n, hn⟩ : ∃ n : Int, (r2 : Int) = n := ⟨_, rfl⟩
  obtain ⟨k, hk⟩ : ∃ k : Int, 1 + (r1 : Int) = k := ⟨_, rfl⟩
  obtain ⟨m, hm⟩ : ∃ m : Int, 1 + (r3 : Int) = m := ⟨_, rfl⟩
  have hn0 : 0 ≤ n ∧ n ≤ 3 := by omega
  have hk0 : 1 ≤ k ∧ k ≤ 3 := by omega
  have hm0 : 1 ≤ m ∧ m ≤ 40 := by omega
  obtain ⟨W4, hW4⟩ : ∃ x, x = w3.alloc (.cells #[.int .i64 k, .int .i64 n, .int .i64 0, .int .i64 m] 60) := ⟨_, rfl⟩
  obtain ⟨gx, hgx0⟩ : ∃ x, x = w3.heap.size := ⟨_, rfl⟩
  have hX : Blk W4 gx 60 #[.int .i64 k, .int .i64 n, .int .i64 0, .int .i64 m] := by rw [hW4, hgx0]; exact Blk.new _ _ _
  have hb4 : Below w3.heap.size w3 W4 := by rw [hW4]; exact (Below.refl _ _).alloc (Nat.le_refl _) _
  have hR := hR3.below hb4 hR3.lt
  have hK := hK3.then_below (hb4.mono hK3.size)
  have hD := hD3.below hb4 (by have := hK3.size; omega)
  have hgxw : w.heap.size ≤ gx := by have := hK3.size; omega
  have hgxg : gx ≠ g := by omega
  have hgrx : gr ≠ gx := by have := hR3.lt; omega
  have HN := Lib.hid hn; have HK0 := Lib.hid hk; have HM := Lib.hid hm; have HW := Lib.hid hW4; have HGX := Lib.hid hgx0
  clear hW4 hgx0 hn hk hm
  go_upto_region 2 with fail
  rw [HN.out, HK0.out, HM.out, ← HW.out, ← HGX.out]
  clear HN HK0 HM HW HGX hR3 hK3 hD3 hb4
  have s0 := hX.cell 0
  by_cases hk2 : k = 2
  · subst hk2
    go_upto_region 3 with fail
    clear s0
    refine wp_region_held_drew (S := (fun w' => w'.cell? ⟨gx, 1, none⟩ = some (.int .i64 n))) (by kernel_rfl) ((hX.drewN 1).cell 1) (fun hHeld => ?_)
    obtain ⟨W0, hW0⟩ : ∃ x, x = W4.drew := ⟨_, rfl⟩
    have hbW : Below W4.heap.size W4 W0 := by rw [hW0]; exact (Below.refl _ _).drew
    rw [← hW0] at hHeld ⊢
    clear hW0
    have hX0 := hX.below hbW hX.lt
    have hR0 := hR.below hbW hR.lt
    have hK0 := hK.then_below (hbW.mono hK.size)
    have hD0 := hD.below hbW (by have := hK.size; omega)
    clear hX hR hK hD
    refine tk (i := 0) (v := ?vs0) rfl (by kernel_rfl) (fun _ _ _ h => h) (Or.inl ⟨by rfl, ?hys0⟩) (by assumption) ?rs0
    case hys0 => (intro w hSw; (try dsimp only at hSw); go_simp; try with_reducible rfl)
    try simp only [Act.put, qGa, qGb, qGc, qSa, qSb, qSc]
    refine tk (i := 1) (v := ?vs1) rfl (by kernel_rfl) (fun _ _ _ h => h) (Or.inl ⟨by rfl, ?hys1⟩) (by assumption) ?rs1
    case hys1 => (intro w hSw; (try dsimp only at hSw); go_simp; try with_reducible rfl)
    try simp only [Act.put, qGa, qGb, qGc, qSa, qSb, qSc]
    refine tk (i := 2) (v := ?vs2) rfl (by kernel_rfl) (fun _ _ _ h => h) (Or.inl ⟨by rfl, ?hys2⟩) (by assumption) ?rs2
    case hys2 => (intro w hSw; (try dsimp only at hSw); go_simp; try with_reducible rfl)
    try simp only [Act.put, qGa, qGb, qGc, qSa, qSb, qSc]
    refine tk (i := 3) (v := ?vs3) rfl (by kernel_rfl) (fun _ _ _ h => h) (Or.inl ⟨by rfl, ?hys3⟩) (by assumption) ?rs3
    case hys3 => (intro w hSw; (try dsimp only at hSw); go_simp; try with_reducible rfl)
    try simp only [Act.put, qGa, qGb, qGc, qSa, qSb, qSc]
    refine wpAnyH_ready (rs := [4]) (by kernel_rfl) (by simp) ?_
    refine AllReadyH.cons rfl (fun Ka hKa => ?_) AllReadyH.nil
    go_simp
    refine (ldBelow_any B g 3 _ hD0 (by decide) (by decide)).mono ?_
    rintro e w5 ⟨r5, rfl, hr5, ho5, hD5⟩
    have hX5 := hX0.keeps ho5.keeps hgxg
    have hR5 := hR0.keeps ho5.keeps hgrg
    have hK5 := hK0.trans ho5.keeps
    go_wp2_with fail
    refine hKa.out _ _ (hX5.cell 1) (fun hHeld => ?_)
    clear hKa Ka
    try simp only [Act.put, qGa, qGb, qGc, qSa, qSb, qSc]
    refine tk (i := 5) (v := ?vt5) rfl (by kernel_rfl) (fun _ _ _ h => h) (Or.inl ⟨by rfl, ?hyt5⟩) (by assumption) ?rt5
    case hyt5 => (intro w hSw; (try dsimp only at hSw); go_simp; try with_reducible rfl)
    try simp only [Act.put, qGa, qGb, qGc, qSa, qSb, qSc]
    refine tk (i := 6) (v := ?vt6) rfl (by kernel_rfl) (fun _ _ _ h => h) (Or.inl ⟨by rfl, ?hyt6⟩) (by assumption) ?rt6
    case hyt6 => (intro w hSw; (try dsimp only at hSw); go_simp; try with_reducible rfl)
    try simp only [Act.put, qGa, qGb, qGc, qSa, qSb, qSc]
    refine tk (i := 7) (v := ?vt7) rfl (by kernel_rfl) (fun _ _ _ h => h) (Or.inl ⟨by rfl, ?hyt7⟩) (by assumption) ?rt7
    case hyt7 => (intro w hSw; (try dsimp only at hSw); go_simp; try with_reducible rfl)
    try simp only [Act.put, qGa, qGb, qGc, qSa, qSb, qSc]
    obtain ⟨t, ht⟩ : ∃ t, (IntKind.i64.wrap (IntKind.i64.wrap (n + 1) + (r5 : Int))).tmod 4 = t := ⟨_, rfl⟩
    have hok : deedOk 2 n t m = true := by
      have e1 : IntKind.i64.wrap (n + 1) = n + 1 := by rw [IntKind.wrap_i64]; omega
      have e2 : IntKind.i64.wrap (n + 1 + (r5 : Int)) = n + 1 + (r5 : Int) := by rw [IntKind.wrap_i64]; omega
      have hmod : 0 ≤ t ∧ t ≤ 3 ∧ ¬ t = n := by
        rw [← ht, e1, e2, Int.tmod_eq_emod_of_nonneg (by omega)]
        omega
      simp [deedOk, inB]
      omega
    have HOK := Lib.hid hok; clear hok
    have z2 := hX5.cell 2; have y2 := hX5.frozen 2
    have hX : Blk (w5.setCell ⟨gx, 2, none⟩ (.int .i64 t)) gx 60 #[.int .i64 2, .int .i64 n, .int .i64 t, .int .i64 m] := by
      have h := hX5.set_ 2 (.int .i64 t)
      simpa using h
    have hOX := (Only.refl gx w5).setCell 2 (.int .i64 t)
    have hR := hR5.keeps hOX.keeps hgrx
    have hbX := (Below.refl w.heap.size w5).setCell (p := ⟨gx, 2, none⟩) hgxw (.int .i64 t)
    have hK := hK5.then_below hbX
    have hD := hD5.below hbX hg
    have HT := Lib.hid ht; clear ht
    refine wpAnyH_ready (rs := [8]) (by kernel_rfl) (by simp) ?_
    refine AllReadyH.cons rfl (fun Kb hKb => ?_) AllReadyH.nil
    go_simp
    rw [HT.out]
    refine hKb.out _ _ (hX.cell 1) (fun hHeld => ?_)
    clear hKb Kb
    try simp only [Act.put, qGa, qGb, qGc, qSa, qSb, qSc]
    refine wpAnyH_done (by kernel_rfl) ?_ _
    obtain ⟨W7, hW7⟩ : ∃ x, x = w5.setCell ⟨gx, 2, none⟩ (.int .i64 t) := ⟨_, rfl⟩
    rw [← hW7] at hX hR hK hD ⊢
    clear hW7 hbX hOX z2 y2
    have c0 := hX.cell 0; have c1 := hX.cell 1; have c2 := hX.cell 2; have c3 := hX.cell 3
    have z0 := hR.cell 0; have z1 := hR.cell 1; have z2 := hR.cell 2; have z3 := hR.cell 3
    have y0 := hR.frozen 0; have y1 := hR.frozen 1; have y2 := hR.frozen 2; have y3 := hR.frozen 3
    have hZ := Blk.set4 hR (.int .i64 2) (.int .i64 n) (.int .i64 t) (.int .i64 m)
    have p0 := hZ.cell 0; have p1 := hZ.cell 1; have p2 := hZ.cell 2; have p3 := hZ.cell 3
    have hBZ := below_set4 (Below.refl w.heap.size W7) hgrw (.int .i64 2) (.int .i64 n) (.int .i64 t) (.int .i64 m)
    have HK := Lib.hid (hK.then_below hBZ); have HD := Lib.hid (hD.below hBZ hg)
    clear hBZ hZ
    go_wp2_with fail
    refine bodyPost_ret (v := .agg #[.int .i64 2, .int .i64 n, .int .i64 t, .int .i64 m]) (by simp [results, Tryz.results39, go_sem, p0, p1, p2, p3]) rfl ?_
    exact ⟨2, n, t, m, rfl, HOK.out, HK.out, HD.out⟩
  · have hok : deedOk k n 0 m = true := by
      have hkk : k = 1 ∨ k = 3 := by omega
      rcases hkk with rfl | rfl
      · simp [deedOk, inB]; omega
      · simp [deedOk, inB]; omega
    have HOK := Lib.hid hok; clear hok
    clear s0
    have c0 := hX.cell 0; have c1 := hX.cell 1; have c2 := hX.cell 2; have c3 := hX.cell 3
    have z0 := hR.cell 0; have z1 := hR.cell 1; have z2 := hR.cell 2; have z3 := hR.cell 3
    have y0 := hR.frozen 0; have y1 := hR.frozen 1; have y2 := hR.frozen 2; have y3 := hR.frozen 3
    have hZ := Blk.set4 hR (.int .i64 k) (.int .i64 n) (.int .i64 0) (.int .i64 m)
    have p0 := hZ.cell 0; have p1 := hZ.cell 1; have p2 := hZ.cell 2; have p3 := hZ.cell 3
    have hBZ := below_set4 (Below.refl w.heap.size W4) hgrw (.int .i64 k) (.int .i64 n) (.int .i64 0) (.int .i64 m)
    have HK := Lib.hid (hK.then_below hBZ); have HD := Lib.hid (hD.below hBZ hg)
    clear hBZ hZ
    go_wp2_with fail
    refine bodyPost_ret (v := .agg #[.int .i64 k, .int .i64 n, .int .i64 0, .int .i64 m]) (by simp [results, Tryz.results39, go_sem, p0, p1, p2, p3]) rfl ?_
    exact ⟨k, n, 0, m, rfl, HOK.out, HK.out, HD.out⟩
end Go.Proofs.YtoniahfdjhhalaaGreat
