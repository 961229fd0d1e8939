/- Texts of this claim, put together. -/
import Derived.Test.YtccoljbnddfmpaaGreatDoorP1
import Derived.Test.YtccoljbnddfmpaaGreatDoorP3
import Derived.Test.YtccoljbnddfmpaaGreatDoorP4
import Derived.Test.YtccoljbnddfmpaaGreatDoorP9
import Derived.Test.YtccoljbnddfmpaaGreatDoorP34
import Derived.Test.YtccoljbnddfmpaaGreatDoorP38
import Derived.BigQuiet
import Derived.Deep.DeepCutAuto
import Derived.Deep.RegionHeld3
import Derived.Laws.EntriesVeiled

namespace Go.Proofs.YtccoljbnddfmpaaGreatDoor
open Go.RowKit
def WishSaid (B g : Nat) (w : World) (e : Ending) (w' : World) : Prop := ∃ k n t m : Int, e = .returned (.agg #[.int .i64 k, .int .i64 n, .int .i64 t, .int .i64 m]) ∧ deedOk k n t m = true ∧ Keeps g w w' ∧ LDice B g w'
set_option linter.unusedSimpArgs false in
set_option maxHeartbeats 4000000 in
set_option maxRecDepth 100000 in
theorem wish_any (B g : Nat) (nodes : Int) (w : World) (hd : LDice B g w) (h0 : 0 < nodes) (h4 : nodes ≤ 4) :
    Calls Tryz.prog 19 #[.pointer (some ⟨g, 0, none⟩), .int .i64 nodes] w (WishSaid B g w) := by
  have hg := hd.hg
  obtain ⟨wb, hwb⟩ : ∃ x, x = w.alloc (.cells #[.int .i64 0, .int .i64 0, .int .i64 0, .int .i64 0] 26) := ⟨_, rfl⟩
  obtain ⟨gr, hgr0⟩ : ∃ x, x = w.heap.size := ⟨_, rfl⟩
  have hR0 : Blk wb gr 26 #[.int .i64 0, .int .i64 0, .int .i64 0, .int .i64 0] := by rw [hwb, hgr0]; exact Blk.new _ _ _
  have hbb : Below w.heap.size w wb := by rw [hwb]; exact (Below.refl _ _).alloc (Nat.le_refl _) _
  have hgrw : w.heap.size ≤ gr := by omega
  have hgrg : gr ≠ g := by omega
  have hD0 := hd.below hbb hg
  have hK0 : Keeps g w wb := Keeps.of_below hbb
  go_enter Tryz.func19, Tryz.ntmps19
  go_upto_region 1 with fail
  rw [← hwb, ← hgr0]
  clear hwb hgr0
  go_wp2_with fail
  refine (ldBelow_any B g 3 _ hD0 (by decide) (by decide)).mono ?_
  rintro e w1 ⟨r1, rfl, hr1, ho1, hD1⟩
  go_wp2_with fail
  refine (ldBelow_any B g nodes _ hD1 h0 (by omega)).mono ?_
  rintro e w2 ⟨r2, rfl, hr2, ho2, hD2⟩
  go_wp2_with fail
  refine (ldBelow_any B g 40 _ hD2 (by decide) (by decide)).mono ?_
  rintro e w3 ⟨r3, rfl, hr3, ho3, hD3⟩
  have hko := ((ho1.trans ho2).trans ho3).keeps
  have hK3 := hK0.trans hko
  have hR3 := hR0.keeps hko hgrg
  clear hD0 hD1 hD2 hK0 hR0 ho1 ho2 ho3 hko hbb hd
  obtain ⟨n, hn⟩ : ∃ n : Int, (r2 : Int) = n := ⟨_, rfl⟩
  obtain ⟨k, hk⟩ : ∃ k : Int, 1 + (r1 : Int) = k := ⟨_, rfl⟩
  obtain ⟨m, hm⟩ : ∃ m : Int, 1 + (r3 : Int) = m := ⟨_, rfl⟩
  have hn0 : 0 ≤ n ∧ n ≤ 3 := by omega
  have hk0 : 1 ≤ k ∧ k ≤ 3 := by omega
  have hm0 : 1 ≤ m ∧ m ≤ 40 := by omega
  obtain ⟨W4, hW4⟩ : ∃ x, x = w3.alloc (.cells #[.int .i64 k, .int .i64 n, .int .i64 0, .int .i64 m] 26) := ⟨_, rfl⟩
  obtain ⟨gx, hgx0⟩ : ∃ x, x = w3.heap.size := ⟨_, rfl⟩
  have hX : Blk W4 gx 26 #[.int .i64 k, .int .i64 n, .int .i64 0, .int .i64 m] := by rw [hW4, hgx0]; exact Blk.new _ _ _
  have hb4 : Below w3.heap.size w3 W4 := by rw [hW4]; exact (Below.refl _ _).alloc (Nat.le_refl _) _
  have hR := hR3.below hb4 hR3.lt
  have hK := hK3.then_below (hb4.mono hK3.size)
  have hD := hD3.below hb4 (by have := hK3.size; omega)
  have hgxw : w.heap.size ≤ gx := by have := hK3.size; omega
  have hgxg : gx ≠ g := by omega
  have hgrx : gr ≠ gx := by have := hR3.lt; omega
  have HN := Lib.hid hn; have HK0 := Lib.hid hk; have HM := Lib.hid hm; have HW := Lib.hid hW4; have HGX := Lib.hid hgx0
  clear hW4 hgx0 hn hk hm
  go_upto_region 2 with fail
  rw [HN.out, HK0.out, HM.out, ← HW.out, ← HGX.out]
  clear HN HK0 HM HW HGX hR3 hK3 hD3 hb4
  have s0 := hX.cell 0
  by_cases hk2 : k = 2
  · subst hk2
    go_upto_region 3 with fail
    clear s0
    refine wp_region_held_drew (S := (fun w' => w'.cell? ⟨gx, 1, none⟩ = some (.int .i64 n))) (by kernel_rfl) ((hX.drewN 1).cell 1) (fun hHeld => ?_)
    obtain ⟨W0, hW0⟩ : ∃ x, x = W4.drew := ⟨_, rfl⟩
    have hbW : Below W4.heap.size W4 W0 := by rw [hW0]; exact (Below.refl _ _).drew
    rw [← hW0] at hHeld ⊢
    clear hW0
    have hX0 := hX.below hbW hX.lt
    have hR0 := hR.below hbW hR.lt
    have hK0 := hK.then_below (hbW.mono hK.size)
    have hD0 := hD.below hbW (by have := hK.size; omega)
    clear hX hR hK hD
    refine wpAnyH_take (i := 0) (v := ?vs0) rfl (by kernel_rfl) (by kernel_rfl) (by kernel_rfl) (fun _ _ _ h => h) (Or.inl ⟨by rfl, ?hys0⟩) (by assumption) ?rs0
    case hys0 => (intro w hSw; (try dsimp only at hSw); go_simp; try with_reducible rfl)
    try simp only [Act.put, qGa, qGb, qGc, qSa, qSb, qSc]
    refine wpAnyH_take (i := 1) (v := ?vs1) rfl (by kernel_rfl) (by kernel_rfl) (by kernel_rfl) (fun _ _ _ h => h) (Or.inl ⟨by rfl, ?hys1⟩) (by assumption) ?rs1
    case hys1 => (intro w hSw; (try dsimp only at hSw); go_simp; try with_reducible rfl)
    try simp only [Act.put, qGa, qGb, qGc, qSa, qSb, qSc]
    refine wpAnyH_take (i := 2) (v := ?vs2) rfl (by kernel_rfl) (by kernel_rfl) (by kernel_rfl) (fun _ _ _ h => h) (Or.inl ⟨by rfl, ?hys2⟩) (by assumption) ?rs2
    case hys2 => (intro w hSw; (try dsimp only at hSw); go_simp; try with_reducible rfl)
    try simp only [Act.put, qGa, qGb, qGc, qSa, qSb, qSc]
    refine wpAnyH_take (i := 3) (v := ?vs3) rfl (by kernel_rfl) (by kernel_rfl) (by kernel_rfl) (fun _ _ _ h => h) (Or.inl ⟨by rfl, ?hys3⟩) (by assumption) ?rs3
    case hys3 => (intro w hSw; (try dsimp only at hSw); go_simp; try with_reducible rfl)
    try simp only [Act.put, qGa, qGb, qGc, qSa, qSb, qSc]
    refine wpAnyH_ready (rs := [4]) (by kernel_rfl) (by simp) ?_
    refine AllReadyH.cons rfl (fun Ka hKa => ?_) AllReadyH.nil
    go_simp
    refine (ldBelow_any B g 3 _ hD0 (by decide) (by decide)).mono ?_
    rintro e w5 ⟨r5, rfl, hr5, ho5, hD5⟩
    have hX5 := hX0.keeps ho5.keeps hgxg
    have hR5 := hR0.keeps ho5.keeps hgrg
    have hK5 := hK0.trans ho5.keeps
    go_wp2_with fail
    refine hKa.out _ _ (hX5.cell 1) (fun hHeld => ?_)
    clear hKa Ka
    try simp only [Act.put, qGa, qGb, qGc, qSa, qSb, qSc]
    refine wpAnyH_take (i := 5) (v := ?vt5) rfl (by kernel_rfl) (by kernel_rfl) (by kernel_rfl) (fun _ _ _ h => h) (Or.inl ⟨by rfl, ?hyt5⟩) (by assumption) ?rt5
    case hyt5 => (intro w hSw; (try dsimp only at hSw); go_simp; try with_reducible rfl)
    try simp only [Act.put, qGa, qGb, qGc, qSa, qSb, qSc]
    refine wpAnyH_take (i := 6) (v := ?vt6) rfl (by kernel_rfl) (by kernel_rfl) (by kernel_rfl) (fun _ _ _ h => h) (Or.inl ⟨by rfl, ?hyt6⟩) (by assumption) ?rt6
    case hyt6 => (intro w hSw; (try dsimp only at hSw); go_simp; try with_reducible rfl)
    try simp only [Act.put, qGa, qGb, qGc, qSa, qSb, qSc]
    refine wpAnyH_take (i := 7) (v := ?vt7) rfl (by kernel_rfl) (by kernel_rfl) (by kernel_rfl) (fun _ _ _ h => h) (Or.inl ⟨by rfl, ?hyt7⟩) (by assumption) ?rt7
    case hyt7 => (intro w hSw; (try dsimp only at hSw); go_simp; try with_reducible rfl)
    try simp only [Act.put, qGa, qGb, qGc, qSa, qSb, qSc]
    obtain ⟨t, ht⟩ : ∃ t, (IntKind.i64.wrap (IntKind.i64.wrap (n + 1) + (r5 : Int))).tmod 4 = t := ⟨_, rfl⟩
    have hok : deedOk 2 n t m = true := by
      have e1 : IntKind.i64.wrap (n + 1) = n + 1 := by rw [IntKind.wrap_i64]; omega
      have e2 : IntKind.i64.wrap (n + 1 + (r5 : Int)) = n + 1 + (r5 : Int) := by rw [IntKind.wrap_i64]; omega
      have hmod : 0 ≤ t ∧ t ≤ 3 ∧ ¬ t = n := by
        rw [← ht, e1, e2, Int.tmod_eq_emod_of_nonneg (by omega)]
        omega
      simp [deedOk, inB]
      omega
    have HOK := Lib.hid hok; clear hok
    have z2 := hX5.cell 2; have y2 := hX5.frozen 2
    have hX : Blk (w5.setCell ⟨gx, 2, none⟩ (.int .i64 t)) gx 26 #[.int .i64 2, .int .i64 n, .int .i64 t, .int .i64 m] := by
      have h := hX5.set_ 2 (.int .i64 t)
      simpa using h
    have hOX := (Only.refl gx w5).setCell 2 (.int .i64 t)
    have hR := hR5.keeps hOX.keeps hgrx
    have hbX := (Below.refl w.heap.size w5).setCell (p := ⟨gx, 2, none⟩) hgxw (.int .i64 t)
    have hK := hK5.then_below hbX
    have hD := hD5.below hbX hg
    have HT := Lib.hid ht; clear ht
    refine wpAnyH_ready (rs := [8]) (by kernel_rfl) (by simp) ?_
    refine AllReadyH.cons rfl (fun Kb hKb => ?_) AllReadyH.nil
    go_simp
    rw [HT.out]
    refine hKb.out _ _ (hX.cell 1) (fun hHeld => ?_)
    clear hKb Kb
    try simp only [Act.put, qGa, qGb, qGc, qSa, qSb, qSc]
    refine wpAnyH_done (by kernel_rfl) ?_ _
    obtain ⟨W7, hW7⟩ : ∃ x, x = w5.setCell ⟨gx, 2, none⟩ (.int .i64 t) := ⟨_, rfl⟩
    rw [← hW7] at hX hR hK hD ⊢
    clear hW7 hbX hOX z2 y2
    have c0 := hX.cell 0; have c1 := hX.cell 1; have c2 := hX.cell 2; have c3 := hX.cell 3
    have z0 := hR.cell 0; have z1 := hR.cell 1; have z2 := hR.cell 2; have z3 := hR.cell 3
    have y0 := hR.frozen 0; have y1 := hR.frozen 1; have y2 := hR.frozen 2; have y3 := hR.frozen 3
    have hZ := Blk.set4 hR (.int .i64 2) (.int .i64 n) (.int .i64 t) (.int .i64 m)
    have p0 := hZ.cell 0; have p1 := hZ.cell 1; have p2 := hZ.cell 2; have p3 := hZ.cell 3
    have hBZ := below_set4 (Below.refl w.heap.size W7) hgrw (.int .i64 2) (.int .i64 n) (.int .i64 t) (.int .i64 m)
    have HK := Lib.hid (hK.then_below hBZ); have HD := Lib.hid (hD.below hBZ hg)
    clear hBZ hZ
    go_wp2_with fail
    refine bodyPost_ret (v := .agg #[.int .i64 2, .int .i64 n, .int .i64 t, .int .i64 m]) (by simp [results, Tryz.results19, go_sem, p0, p1, p2, p3]) rfl ?_
    exact ⟨2, n, t, m, rfl, HOK.out, HK.out, HD.out⟩
  · have hok : deedOk k n 0 m = true := by
      have hkk : k = 1 ∨ k = 3 := by omega
      rcases hkk with rfl | rfl
      · simp [deedOk, inB]; omega
      · simp [deedOk, inB]; omega
    have HOK := Lib.hid hok; clear hok
    clear s0
    have c0 := hX.cell 0; have c1 := hX.cell 1; have c2 := hX.cell 2; have c3 := hX.cell 3
    have z0 := hR.cell 0; have z1 := hR.cell 1; have z2 := hR.cell 2; have z3 := hR.cell 3
    have y0 := hR.frozen 0; have y1 := hR.frozen 1; have y2 := hR.frozen 2; have y3 := hR.frozen 3
    have hZ := Blk.set4 hR (.int .i64 k) (.int .i64 n) (.int .i64 0) (.int .i64 m)
    have p0 := hZ.cell 0; have p1 := hZ.cell 1; have p2 := hZ.cell 2; have p3 := hZ.cell 3
    have hBZ := below_set4 (Below.refl w.heap.size W4) hgrw (.int .i64 k) (.int .i64 n) (.int .i64 0) (.int .i64 m)
    have HK := Lib.hid (hK.then_below hBZ); have HD := Lib.hid (hD.below hBZ hg)
    clear hBZ hZ
    go_wp2_with fail
    refine bodyPost_ret (v := .agg #[.int .i64 k, .int .i64 n, .int .i64 0, .int .i64 m]) (by simp [results, Tryz.results19, go_sem, p0, p1, p2, p3]) rfl ?_
    exact ⟨k, n, 0, m, rfl, HOK.out, HK.out, HD.out⟩
end Go.Proofs.YtccoljbnddfmpaaGreatDoor

namespace Go.Proofs.YtccoljbnddfmpaaGreatDoor
open Go.RowKit
end Go.Proofs.YtccoljbnddfmpaaGreatDoor

namespace Go.Proofs.YtccoljbnddfmpaaGreatDoor
def contrib (e : Ent) (node : Int) : Int := if e.s = node then e.a else if e.o = node then -e.a else 0
def hsum : List Ent → Int → Int
  | [], _ => 0
  | e :: r, node => contrib e node + hsum r node
end Go.Proofs.YtccoljbnddfmpaaGreatDoor

namespace Go.Proofs.YtccoljbnddfmpaaGreatDoor
open Go.RowKit
def lastKey (es : List Ent) (i : Nat) : Int := if i = 0 then -1 else (E es (i - 1)).key
def Rise (es : List Ent) (k : Nat) : Prop := ∀ i, i < k → lastKey es i < (E es i).key
instance (es : List Ent) (k : Nat) : Decidable (Rise es k) := by unfold Rise; infer_instance
def rises (es : List Ent) : Bool := decide (Rise es es.length)
theorem rise_zero (es : List Ent) : Rise es 0 := fun i hi => absurd hi (by omega)
theorem rise_succ {es : List Ent} {k : Nat} (h : Rise es k) (hg : lastKey es k < (E es k).key) : Rise es (k + 1) := fun i hi => by
  by_cases e : i = k
  · subst e; exact hg
  · exact h i (by omega)
theorem rise_bad {es : List Ent} {k : Nat} (hk : k < es.length) (h : ¬ lastKey es k < (E es k).key) : rises es = false := decide_eq_false (fun hr => h (hr k hk))
theorem lastKey_succ (es : List Ent) (k : Nat) : lastKey es (k + 1) = (E es k).key := by simp [lastKey]
set_option maxHeartbeats 1000000 in
set_option maxRecDepth 100000 in
theorem rises_any (B : Nat) (ao : Option Addr) (n cap : Nat) (es : List Ent) (w : World) (hx : Ents B w ao n cap es) (hB : B ≤ w.heap.size) :
    Calls Tryz.prog 61 #[.agg #[.slice ao n cap, .func (.func 85) #[] #[]]] w (Says (.bool (rises es)) w) := by
  have hx0 := hx.hlen; have hx1 := hx.hcap; have hx2 := hx.hmax
  unfold maxLen at hx2
  have HX := Lib.hid hx0; clear hx0
  generalize hb : rises es = bb
  have HB := Lib.hid hb; clear hb
  have hb0 : Below w.heap.size w (w.alloc (.cells #[.slice ao n cap, .func (.func 85) #[] #[]] 93)) := (Below.refl _ _).alloc (Nat.le_refl _) _
  have hk0 : Blk (w.alloc (.cells #[.slice ao n cap, .func (.func 85) #[] #[]] 93)) w.heap.size 93 #[.slice ao n cap, .func (.func 85) #[] #[]] := Blk.new _ _ _
  go_enter Tryz.func61, Tryz.ntmps61
  go_wp2
  go_loopw [3, 10] (fun sl si wr => ∃ i : Nat, i ≤ n ∧ si = .int .i64 i ∧ sl = .int .i64 (lastKey es i) ∧ Hid (Rise es i) ∧ Below w.heap.size w wr ∧ Blk wr w.heap.size 93 #[.slice ao n cap, .func (.func 85) #[] #[]]) (fun _ si _ => n - (intOf si).toNat)
  case atStart => exact ⟨0, Nat.zero_le _, rfl, rfl, Lib.hid (rise_zero es), hb0, hk0⟩
  case round =>
    obtain ⟨i, hi, rfl, rfl, hr, hbel, hblk⟩ := hrel
    by_cases hlt : i < n
    · have hxr := hx.below hbel hB hB
      obtain ⟨b, off, rfl, hbB, hc⟩ := hxr.at i hlt
      have g1 := hc i hlt
      clear hc
      have hK := fun w => implKeyOf_any (E es i).o (E es i).s (E es i).a (E es i).d w
      have hkE : keyOf (E es i).o (E es i).s (E es i).a (E es i).d = (E es i).key := rfl
      rw [hkE] at hK
      clear hkE
      have hbad : ¬ lastKey es i < (E es i).key → bb = false := fun h => by rw [← HB.out]; exact rise_bad (by have := HX.out; omega) h
      have hgood : lastKey es i < (E es i).key → Rise es (i + 1) := rise_succ hr.out
      have hlast := lastKey_succ es i
      generalize lastKey es i = lk at hbad hgood
      generalize (E es i).key = ky at hK hbad hgood hlast
      generalize E es i = x at g1 hK
      have HBAD := Lib.hid hbad; have HGOOD := Lib.hid hgood; have HLAST := Lib.hid hlast; clear hbad hgood hlast
      obtain ⟨c0, c1, c2, c3⟩ := g1
      have hsz := hbel.size
      have hkl := hblk.lt
      have f0 := hblk.cell 0
      have f1 := hblk.cell 1
      have i1 : (0 : Int) ≤ i := by omega
      have i2 : (i : Int) < n := by omega
      go_wp2_with fail
      refine (hK _).mono ?_
      rintro e w1 ⟨rfl, hb1⟩
      have hB1 : Below w.heap.size w w1 := (hbel.alloc hsz _).trans (hb1.mono (by simp; omega))
      have hk1 := (hblk.alloc (.cells #[.int .i64 x.o, .int .i64 x.s, .int .i64 x.a, .int .i64 x.d] 47)).below hb1 (by simp; omega)
      clear hb1 hblk hbel f0 f1 c0 c1 c2 c3 hK hb0 hk0
      by_cases hlk : lk < ky
      · have d1 : decide (ky ≤ lk) = false := decide_eq_false (by omega)
        have hnext := Lib.hid (HGOOD.out hlk)
        clear HGOOD HBAD
        go_wp2
        go_roundw
        case rel => exact ⟨i + 1, by omega, by go_num, by rw [HLAST.out], hnext, hB1, hk1⟩
        case measure => simp [intOf]; omega
      · have d1 : decide (ky ≤ lk) = true := decide_eq_true (by omega)
        have hbb := Lib.hid (HBAD.out (by omega))
        clear HGOOD HBAD HLAST
        go_wp2
        go_ret
        exact ⟨ret_bool hbb.out.symm, hB1⟩
    · have ei : i = n := by omega
      subst ei
      have hgo : rises es = true := decide_eq_true (by rw [HX.out]; exact hr.out)
      rw [HB.out] at hgo
      go_wp2
      go_ret
      exact ⟨ret_bool hgo.symm, hbel⟩
end Go.Proofs.YtccoljbnddfmpaaGreatDoor

namespace Go.Proofs.YtccoljbnddfmpaaGreatDoor
open Go.RowKit
def Differ (es : List Ent) (k : Nat) : Prop := ∀ i, i < k → ∀ j, j < i → ¬ ((E es j).o = (E es i).o ∧ (E es j).d = (E es i).d)
instance (es : List Ent) (k : Nat) : Decidable (Differ es k) := by unfold Differ; infer_instance
def differ (es : List Ent) : Bool := decide (Differ es es.length)
theorem differ_zero (es : List Ent) : Differ es 0 := fun i hi => absurd hi (by omega)
theorem differ_succ {es : List Ent} {k : Nat} (h : Differ es k) (hg : ∀ j, j < k → ¬ ((E es j).o = (E es k).o ∧ (E es j).d = (E es k).d)) : Differ es (k + 1) := fun i hi => by
  by_cases e : i = k
  · subst e; exact hg
  · exact h i (by omega)
set_option maxHeartbeats 1000000 in
set_option maxRecDepth 100000 in
theorem dotsDiffer_any (B : Nat) (ao : Option Addr) (n cap : Nat) (es : List Ent) (w : World) (hx : Ents B w ao n cap es) (hB : B ≤ w.heap.size) :
    Calls Tryz.prog 62 #[.slice ao n cap] w (Says (.bool (differ es)) w) := by
  have hx0 := hx.hlen; have hx1 := hx.hcap; have hx2 := hx.hmax
  unfold maxLen at hx2
  have HX := Lib.hid hx0; clear hx0
  generalize hb : differ es = bb
  have HB := Lib.hid hb; clear hb
  go_enter Tryz.func62, Tryz.ntmps62
  go_wp2
  go_loopw [9] (fun si wr => ∃ i : Nat, i ≤ n ∧ si = .int .i64 i ∧ Hid (Differ es i) ∧ Below w.heap.size w wr) (fun si _ => n - (intOf si).toNat)
  case atStart => exact ⟨0, Nat.zero_le _, rfl, Lib.hid (differ_zero es), Below.refl _ _⟩
  case round =>
    obtain ⟨i, hi, rfl, hr, hbel⟩ := hrel
    by_cases hlt : i < n
    · have hxr := hx.below hbel hB hB
      obtain ⟨b, off, rfl, hbB, hc⟩ := hxr.at i hlt
      obtain ⟨c0, c1, c2, c3⟩ := hc i hlt
      have HC := Lib.hid hc; clear hc
      have hsz := hbel.size
      have hbad : ∀ j, j < i → ((E es j).o = (E es i).o ∧ (E es j).d = (E es i).d) → bb = false := fun j hj h => by
        rw [← HB.out]; exact decide_eq_false (fun hd => hd i (by have := HX.out; omega) j hj h)
      have hgood : (∀ j, j < i → ¬ ((E es j).o = (E es i).o ∧ (E es j).d = (E es i).d)) → Differ es (i + 1) := differ_succ hr.out
      generalize E es i = x at c0 c1 c2 c3 hbad hgood
      have HBAD := Lib.hid hbad; have HGOOD := Lib.hid hgood; clear hbad hgood
      have i1 : (0 : Int) ≤ i := by omega
      have i2 : (i : Int) < n := by omega
      have i3 : (i : Int) ≤ cap := by omega
      obtain ⟨W, hW⟩ : ∃ W, W = wr.alloc (.cells #[.int .i64 x.o, .int .i64 x.s, .int .i64 x.a, .int .i64 x.d] 47) := ⟨_, rfl⟩
      have hk0 : Blk W wr.heap.size 47 #[.int .i64 x.o, .int .i64 x.s, .int .i64 x.a, .int .i64 x.d] := by rw [hW]; exact Blk.new _ _ _
      have hWb : Below w.heap.size w W := by rw [hW]; exact hbel.alloc hsz _
      have hWr : Below wr.heap.size wr W := by rw [hW]; exact (Below.refl _ _).alloc (Nat.le_refl _) _
      go_wp2
      rw [← hW]
      go_loopw [18] (fun sj wq => ∃ j : Nat, j ≤ i ∧ sj = .int .i64 j ∧ Hid (∀ k, k < j → ¬ ((E es k).o = x.o ∧ (E es k).d = x.d)) ∧ Below w.heap.size w wq ∧ Blk wq wr.heap.size 47 #[.int .i64 x.o, .int .i64 x.s, .int .i64 x.a, .int .i64 x.d]) (fun sj _ => i - (intOf sj).toNat)
      case atStart => exact ⟨0, Nat.zero_le _, rfl, Lib.hid (fun k hk => absurd hk (by omega)), hWb, hk0⟩
      case round =>
        obtain ⟨j, hj, rfl, hno, hbq, hkq⟩ := hrel
        by_cases hji : j < i
        · have hxq := hx.below hbq hB hB
          obtain ⟨b', off', e', hbB', hc'⟩ := hxq.at j (by omega)
          cases e'
          obtain ⟨a0, a1, a2, a3⟩ := hc' j (by omega)
          clear hc'
          have htwin := HBAD.out j hji
          have hstep : ¬ ((E es j).o = x.o ∧ (E es j).d = x.d) → ∀ k, k < j + 1 → ¬ ((E es k).o = x.o ∧ (E es k).d = x.d) := fun h k hk => by
            by_cases e : k = j
            · subst e; exact h
            · exact hno.out k (by omega)
          generalize E es j = y at a0 a1 a2 a3 htwin hstep
          have HT := Lib.hid htwin; have HST := Lib.hid hstep; clear htwin hstep
          have hsq := hbq.size
          have hkl := hkq.lt
          have hkq2 := hkq.alloc (.cells #[.int .i64 y.o, .int .i64 y.s, .int .i64 y.a, .int .i64 y.d] 47)
          have hbq2 := hbq.alloc hsq (.cells #[.int .i64 y.o, .int .i64 y.s, .int .i64 y.a, .int .i64 y.d] 47)
          have f0 := hkq2.cell 0
          have f3 := hkq2.cell 3
          have k1 : (0 : Int) ≤ j := by omega
          have k2 : (j : Int) < i := by omega
          by_cases ho : x.o = y.o
          · have ho' : (x.o == y.o) = true := by simpa using ho
            by_cases hd : x.d = y.d
            · have hd' : (x.d == y.d) = true := by simpa using hd
              have hbb := Lib.hid (HT.out ⟨ho.symm, hd.symm⟩)
              clear ho hd HT HST HBAD HGOOD
              go_wp2
              go_ret
              exact ⟨ret_bool hbb.out.symm, hbq2⟩
            · have hd' : (x.d == y.d) = false := by simpa using hd
              have hs := Lib.hid (HST.out (fun h => hd h.2.symm))
              clear ho hd HT HST HBAD HGOOD
              go_wp2
              go_roundw
              case rel => exact ⟨j + 1, by omega, by go_num, hs, hbq2, hkq2⟩
              case measure => simp [intOf]; omega
          · have ho' : (x.o == y.o) = false := by simpa using ho
            have hs := Lib.hid (HST.out (fun h => ho h.1.symm))
            clear ho HT HST HBAD HGOOD
            go_wp2
            go_roundw
            case rel => exact ⟨j + 1, by omega, by go_num, hs, hbq2, hkq2⟩
            case measure => simp [intOf]; omega
        · have ej : j = i := by omega
          have hgo := Lib.hid (HGOOD.out (fun k hk => hno.out k (by omega)))
          subst ej
          clear HBAD HGOOD
          go_wp2
          go_roundw
          case rel => exact ⟨j + 1, by omega, by go_num, hgo, hbq⟩
          case measure => simp [intOf]; omega
    · have ei : i = n := by omega
      subst ei
      have hgo : differ es = true := decide_eq_true (by rw [HX.out]; exact hr.out)
      rw [HB.out] at hgo
      go_wp2
      go_ret
      exact ⟨ret_bool hgo.symm, hbel⟩
end Go.Proofs.YtccoljbnddfmpaaGreatDoor

namespace Go.Proofs.YtccoljbnddfmpaaGreatDoor
open Go.RowKit
theorem good_parts {es : List Ent} {i : Nat} (hr : Rise es (i + 1)) (hd : Differ es (i + 1)) : Good es i := by
  have h1 := hr i (by omega)
  refine ⟨?_, fun h0 => ?_, fun j hj => hd i (by omega) j hj⟩
  · have hge : 0 ≤ lastKey es i + 1 := by
      unfold lastKey
      split
      · omega
      · have h2 := hr (i - 1) (by omega)
        have h3 : -1 ≤ lastKey es (i - 1) := by
          clear h1 h2
          generalize i - 1 = k
          unfold lastKey
          split
          · omega
          · unfold Ent.key keyOf
            split
            · rename_i h
              have := Ent.ok_all (e := E es (k - 1)) h
              omega
            · omega
        omega
    cases hk : (E es i).ok with
    | true => rfl
    | false =>
      have h4 : (E es i).key = -1 := by unfold Ent.key; exact keyOf_no hk
      omega
  · unfold lastKey at h1
    rw [if_neg (by omega)] at h1
    exact h1
theorem parts_right {es : List Ent} {k : Nat} (h : Right es k) : Rise es k ∧ Differ es k := by
  refine ⟨fun i hi => ?_, fun i hi j hj => (h i hi).2.2 j hj⟩
  have h1 := Ent.key_ok (h i hi).1
  unfold lastKey
  split
  · omega
  · exact (h i hi).2.1 (by omega)
theorem book_parts (es : List Ent) : bookOk es = (rises es && differ es) := by
  rw [Bool.eq_iff_iff, Bool.and_eq_true]
  unfold bookOk rises differ
  rw [decide_eq_true_eq, decide_eq_true_eq, decide_eq_true_eq]
  refine ⟨fun h => parts_right h, fun ⟨h1, h2⟩ i hi => good_parts (fun j hj => h1 j (by omega)) (fun j hj => h2 j (by omega))⟩
set_option maxHeartbeats 400000 in
theorem entriesByKey_any (ao : Option Addr) (n cap : Nat) (w : World) :
    Calls Tryz.prog 50 #[.slice ao n cap] w (Says (.agg #[.slice ao n cap, .func (.func 85) #[] #[]]) w) := by
  go_enter Tryz.func50, Tryz.ntmps50
  go_wp2_with fail
  refine bodyPost_ret (v := .agg #[.slice ao n cap, .func (.func 85) #[] #[]]) (by simp [results, Tryz.results50, go_sem]) rfl ?_
  exact ⟨rfl, (Below.refl _ _).alloc (Nat.le_refl _) _⟩
set_option maxHeartbeats 400000 in
theorem implBookOk_any (B : Nat) (ao : Option Addr) (n cap : Nat) (es : List Ent) (w : World) (hx : Ents B w ao n cap es) (hB : B ≤ w.heap.size) :
    Calls Tryz.prog 36 #[.slice ao n cap] w (Says (.bool (bookOk es)) w) := by
  have h0 := fun w => entriesByKey_any ao n cap w
  have e1 : rises es = false → bookOk es = false := fun h => by rw [book_parts, h]; rfl
  have e2 : rises es = true → bookOk es = differ es := fun h => by rw [book_parts, h]; rfl
  generalize bookOk es = bb at e1 e2
  have E1 := Lib.hid e1; have E2 := Lib.hid e2; clear e1 e2
  go_enter Tryz.func36, Tryz.ntmps36
  go_wp2_with fail
  refine (h0 _).mono ?_
  rintro e w1 ⟨rfl, hb1⟩
  have hx1 := hx.below hb1 hB (Nat.le_refl B)
  have hs1 := hb1.size
  have h1 := rises_any B ao n cap es w1 hx1 (by omega)
  generalize rises es = b1 at h1 E1 E2
  go_wp2_with fail
  refine h1.mono ?_
  rintro e w2 ⟨rfl, hb2⟩
  have hb2' := hb1.trans (hb2.mono hs1)
  rcases b1 with _ | _
  · go_wp2_with fail
    go_ret
    exact ⟨ret_bool (E1.out (by first | rfl | trivial)).symm, hb2'⟩
  · have hx2 := hx.below hb2' hB (Nat.le_refl B)
    have hs2 := hb2'.size
    have h2 := dotsDiffer_any B ao n cap es w2 hx2 (by omega)
    have HE := Lib.hid (E2.out (by first | rfl | trivial)); clear E1 E2
    generalize differ es = b2 at h2 HE
    go_wp2_with fail
    refine h2.mono ?_
    rintro e w3 ⟨rfl, hb3⟩
    have hb3' := hb2'.trans (hb3.mono hs2)
    go_wp2_with fail
    go_ret
    exact ⟨ret_bool HE.out.symm, hb3'⟩
end Go.Proofs.YtccoljbnddfmpaaGreatDoor

namespace Go.Proofs.YtccoljbnddfmpaaGreatDoor
open Go.RowKit
end Go.Proofs.YtccoljbnddfmpaaGreatDoor
