/- Texts of this claim, put together. -/
import Derived.Test.YtccoljbnddfmpaaGreatDoorQ1
import Derived.Test.YtccoljbnddfmpaaGreatDoorQ48

namespace Go.Proofs.YtccoljbnddfmpaaGreatDoor
open Go.RowKit
def EsDeedDrawn (w : World) (e : Ending) (w' : World) : Prop := ∃ v es k n t m, e = .returned (.tuple #[v, .agg #[.int .i64 k, .int .i64 n, .int .i64 t, .int .i64 m]]) ∧ OwnE w.heap.size w' v es ∧ AllE es ∧ es.length ≤ 21 ∧ Below w.heap.size w w'
theorem Blk.offG {w : World} {g gr : Nat} {t t' : TypeId} {cs cs' : Array Value} (h : Blk w g t cs) (_hr : Blk w gr t' cs') (hne : g ≠ gr) (k nd tt m : Int) : Blk ((((w.setCell ⟨gr, 0, none⟩ (.int .i64 k)).setCell ⟨gr, 1, none⟩ (.int .i64 nd)).setCell ⟨gr, 2, none⟩ (.int .i64 tt)).setCell ⟨gr, 3, none⟩ (.int .i64 m)) g t cs :=
  (((h.far (p := ⟨gr, 0, none⟩) hne _).far (p := ⟨gr, 1, none⟩) hne _).far (p := ⟨gr, 2, none⟩) hne _).far (p := ⟨gr, 3, none⟩) hne _
theorem cell_offG {w : World} {gr : Nat} {t' : TypeId} {cs' : Array Value} {a : Addr} {v : Value} (_hr : Blk w gr t' cs') (hne : a.block ≠ gr) (k nd tt m : Int) (h : w.cell? a = some v) : ((((w.setCell ⟨gr, 0, none⟩ (.int .i64 k)).setCell ⟨gr, 1, none⟩ (.int .i64 nd)).setCell ⟨gr, 2, none⟩ (.int .i64 tt)).setCell ⟨gr, 3, none⟩ (.int .i64 m)).cell? a = some v := by
  rw [World.cell?_setCell_far _ _ _ _ (Ne.symm hne), World.cell?_setCell_far _ _ _ _ (Ne.symm hne), World.cell?_setCell_far _ _ _ _ (Ne.symm hne), World.cell?_setCell_far _ _ _ _ (Ne.symm hne)]
  exact h
theorem keeps_cell {g : Nat} {w w' : World} {a : Addr} {v : Value} (hk : Keeps g w w') (hne : a.block ≠ g) (h : w.cell? a = some v) : w'.cell? a = some v := by
  exact (show w.grownBy w' (some g) from hk).cell h (fun e => hne (Option.some.inj e))
set_option linter.unusedSimpArgs false in
set_option maxHeartbeats 8000000 in
set_option maxRecDepth 100000 in
theorem drawDone_any (B : Nat) (ao : Option Addr) (n cap : Nat) (bs : List Int) (w : World) (hb : Bytes B w ao n cap bs) (hB : B ≤ w.heap.size) (hn : n ≤ 1099511627776) :
    Calls Tryz.prog 6 #[.slice ao n cap] w (EsDeedDrawn w) := by
  obtain ⟨wb, hwb⟩ : ∃ x, x = w.alloc (.cells #[.int .i64 0, .int .i64 0, .int .i64 0, .int .i64 0] 26) := ⟨_, rfl⟩
  obtain ⟨gr, hgr0⟩ : ∃ x, x = w.heap.size := ⟨_, rfl⟩
  have hr := Blk.new w 26 #[.int .i64 0, .int .i64 0, .int .i64 0, .int .i64 0]
  have hb0 : Below w.heap.size w wb := by rw [hwb]; exact (Below.refl _ _).alloc (Nat.le_refl _) _
  rw [← hwb, ← hgr0] at hr
  have hgrw : w.heap.size ≤ gr := by omega
  have hbb := hb.below hb0 hB (Nat.le_refl B)
  have hs0 := hb0.size
  go_enter Tryz.func6, Tryz.ntmps6
  go_upto_region 1 with fail
  rw [← hwb, ← hgr0]
  clear hwb hgr0
  go_wp2_with fail
  refine (l1New_any B _ _ _ bs _ hbb (by omega) hn).mono ?_
  rintro e w1 ⟨he1, hd1, hb1⟩
  subst he1
  obtain ⟨g, hg0⟩ : ∃ x, wb.heap.size = x := ⟨_, rfl⟩
  rw [hg0] at hd1 hb1 ⊢
  have hgrg : gr ≠ g := by have := hr.lt; omega
  have hr1 := hr.below hb1 (by have := hr.lt; omega)
  replace hb1 := hb0.trans (hb1.mono (by omega))
  have hgw : w.heap.size ≤ g := by omega
  have hs1 := hb1.size
  have hg := hd1.hg
  go_wp2_with fail
  refine (l1Once_any _ _ 3 _ hd1 ⟨by decide, by decide⟩).mono ?_
  rintro e w2 ⟨b2, rfl, ho2, hd2⟩
  have hk2 := ho2.keeps
  have hr2 := hr1.keeps hk2 hgrg
  have hw12 : w1.heap.size ≤ w2.heap.size := hk2.size
  clear hd1 ho2
  rcases b2 with _ | _
  · go_wp2_with fail
    refine (l16Draw_any _ _ _ hd2).mono ?_
    rintro e w3 ⟨nds, fl, v, rfl, ⟨nv, fv, rfl, q1, q2⟩, hgood, hk3, hd3⟩
    obtain ⟨gd, cd, rfl, hgdw, -⟩ := q1.ptr (by have := hgood.one; omega)
    obtain ⟨af, cf, rfl⟩ := q2.slice
    obtain ⟨bv, hbc, hbo⟩ := q1.firstBook (by have := hgood.one; omega)
    obtain ⟨hbw, hbl, -⟩ := hgood.book0
    have hn1 := hgood.one
    have i0 : (0 : Int) < nds.length := by omega
    have i0n : 0 < nds.length := by omega
    have hgdlt : gd < w3.heap.size := World.block_lt_of_cell? w3 _ hbc
    generalize (ND nds 0).book = es at hbw hbl hbo
    obtain ⟨ab, cb, rfl, -, -⟩ := hbo.ents hbw
    obtain ⟨gn, hgn0⟩ : ∃ x, x = w3.heap.size := ⟨_, rfl⟩
    obtain ⟨W4, hW4⟩ : ∃ x, x = w3.alloc (.cells #[.slice (some ⟨gd, 0, none⟩) nds.length cd, .slice af fl.length cf] 52) := ⟨_, rfl⟩
    have hN : Blk W4 gn 52 #[.slice (some ⟨gd, 0, none⟩) nds.length cd, .slice af fl.length cf] := by rw [hW4, hgn0]; exact Blk.new _ _ _
    have hb4 : Below w3.heap.size w3 W4 := by rw [hW4]; exact (Below.refl _ _).alloc (Nat.le_refl _) _
    have hk04 := (hk2.trans hk3).then_below (hb4.mono (by have := hk3.size; omega))
    have hr4 := (hr2.keeps hk3 hgrg).below hb4 (hr2.keeps hk3 hgrg).lt
    have hbc4 := (hb4.cell (p := ⟨gd, 1, none⟩) hgdlt).trans hbc
    have hbo4 := (hbo.below hb4 (Nat.le_refl _)).mono hw12
    have hd4 := hd3.below hb4
    have hgng : gn ≠ g := by have := hd3.hg; omega
    have hgngr : gn ≠ gr := by have := (hr2.keeps hk3 hgrg).lt; omega
    have hgdg : gd ≠ g := by have := hd2.hg; omega
    have hgdgr : gd ≠ gr := by have := hr2.lt; omega
    clear hgood q1 q2 hbc hbo hd3 hk3
    go_upto_region 8 with fail
    rw [← hW4, ← hgn0]
    clear hW4 hgn0
    go_wp2_with fail
    refine (l8DrawAny_any _ _ _ hd4).mono ?_
    rintro e w5 ⟨k, nd, t, m, rfl, -, -, -, -, hk5, hd5⟩
    have hbc5 := keeps_cell hk5 hgdg hbc4
    obtain ⟨gx, hgx0⟩ : ∃ x, x = w5.heap.size := ⟨_, rfl⟩
    obtain ⟨W6, hW6⟩ : ∃ x, x = w5.alloc (.cells #[.int .i64 k, .int .i64 nd, .int .i64 t, .int .i64 m] 26) := ⟨_, rfl⟩
    have hX : Blk W6 gx 26 #[.int .i64 k, .int .i64 nd, .int .i64 t, .int .i64 m] := by rw [hW6, hgx0]; exact Blk.new _ _ _
    have hb6 : Below w5.heap.size w5 W6 := by rw [hW6]; exact (Below.refl _ _).alloc (Nat.le_refl _) _
    have hk06 := (hk04.trans hk5).then_below (hb6.mono (by have := hk04.size; have := hk5.size; omega))
    have hr6 := (hr4.keeps hk5 hgrg).below hb6 (hr4.keeps hk5 hgrg).lt
    have hN6 := (hN.keeps hk5 hgng).below hb6 (hN.keeps hk5 hgng).lt
    have hbc6 := (hb6.cell (World.block_lt_of_cell? w5 _ hbc5)).trans hbc5
    have hbo6 := (hbo4.keeps hk5 hg).below hb6 (Nat.le_refl _)
    have hd6 := hd5.below hb6
    have hgxg : gx ≠ g := by have := hd5.hg; omega
    have hgxgr : gx ≠ gr := by have := (hr4.keeps hk5 hgrg).lt; omega
    have hgngx : gn ≠ gx := by have := (hN.keeps hk5 hgng).lt; omega
    have hgdgx : gd ≠ gx := by have := World.block_lt_of_cell? w5 _ hbc5; dsimp only at this; omega
    have hgxw : w1.heap.size ≤ gx := by have := hk04.size; have := hk5.size; omega
    clear hN hr4 hbc4 hbc5 hbo4 hd4 hd5 hk04
    go_upto_region 9 with fail
    rw [← hW6, ← hgx0]
    clear hW6 hgx0 hk5 hb6
    go_wp2_with fail
    refine (l1Once_any _ _ 10 _ hd6 ⟨by decide, by decide⟩).mono ?_
    rintro e w9 ⟨b9, rfl, ho9, hd9⟩
    have hX9 := hX.keeps ho9.keeps hgxg
    have hr9 := hr6.keeps ho9.keeps hgrg
    have hN9 := hN6.keeps ho9.keeps hgng
    have hbc9 := keeps_cell ho9.keeps hgdg hbc6
    have hbo9 := hbo6.keeps ho9.keeps hg
    have hbb9 := hb1.trans ((hk06.trans ho9.keeps).below hgw hs1)
    clear hX hr6 hN6 hbc6 hbo6 hd6 hk06 ho9 hd9
    have c0 := hX9.cell 0
    rcases b9 with _ | _
    · go_upto_region 11 with fail
      refine wp_region_held_drew (S := (fun w' => w'.cell? ⟨gn, 0, none⟩ = some (.slice (some ⟨gd, 0, none⟩) nds.length cd) ∧ w'.cell? ⟨gd, 1, none⟩ = some (.slice ab es.length cb) ∧ w'.cell? ⟨gx, 0, none⟩ = some (.int .i64 k) ∧ w'.cell? ⟨gx, 1, none⟩ = some (.int .i64 nd) ∧ w'.cell? ⟨gx, 2, none⟩ = some (.int .i64 t) ∧ w'.cell? ⟨gx, 3, none⟩ = some (.int .i64 m))) (by kernel_rfl) ⟨(hN9.drewN 1).cell 0, hbc9, (hX9.drewN 1).cell 0, (hX9.drewN 1).cell 1, (hX9.drewN 1).cell 2, (hX9.drewN 1).cell 3⟩ (fun hHeld => ?_)
      obtain ⟨W0, hW0⟩ : ∃ x, x = w9.drew := ⟨_, rfl⟩
      have hbW : Below w9.heap.size w9 W0 := by rw [hW0]; exact (Below.refl _ _).drew
      rw [← hW0] at hHeld ⊢
      clear hW0
      have hN0 := hN9.below hbW hN9.lt
      have hbc0 := (hbW.cell (World.block_lt_of_cell? _ _ hbc9)).trans hbc9
      have hX0 := hX9.below hbW hX9.lt
      have hr0 := hr9.below hbW hr9.lt
      have ho0 := hbo9.below hbW (Nat.le_refl _)
      have hbb0 := hbb9.trans (hbW.mono hbb9.size)
      refine tk (i := 0) (v := ?vfw90) rfl (by kernel_rfl) (fun _ _ _ h => h) (Or.inl ⟨by rfl, ?hyfw90⟩) (by assumption) ?rfw90
      case hyfw90 => (intro w hSw; (try dsimp only at hSw); go_simp; try with_reducible rfl)
      try simp only [Act.put, qGa, qGb, qGc, qSa, qSb, qSc]
      refine tk (i := 1) (v := ?vfw91) rfl (by kernel_rfl) (fun _ _ _ h => h) (Or.inl ⟨by rfl, ?hyfw91⟩) (by assumption) ?rfw91
      case hyfw91 => (intro w hSw; (try dsimp only at hSw); go_simp; try with_reducible rfl)
      try simp only [Act.put, qGa, qGb, qGc, qSa, qSb, qSc]
      refine tk (i := 2) (v := ?vfw92) rfl (by kernel_rfl) (fun _ _ _ h => h) (Or.inl ⟨by rfl, ?hyfw92⟩) (by assumption) ?rfw92
      case hyfw92 => (intro w hSw; (try dsimp only at hSw); go_simp; try with_reducible rfl)
      try simp only [Act.put, qGa, qGb, qGc, qSa, qSb, qSc]
      refine tk (i := 3) (v := ?vfw93) rfl (by kernel_rfl) (fun _ _ _ h => h) (Or.inl ⟨by rfl, ?hyfw93⟩) (by assumption) ?rfw93
      case hyfw93 => (intro w hSw; (try dsimp only at hSw); go_simp; try with_reducible rfl)
      try simp only [Act.put, qGa, qGb, qGc, qSa, qSb, qSc]
      refine tk (i := 4) (v := ?vfw94) rfl (by kernel_rfl) (fun _ _ _ h => h) (Or.inl ⟨by rfl, ?hyfw94⟩) (by assumption) ?rfw94
      case hyfw94 => (intro w hSw; (try dsimp only at hSw); go_simp; try with_reducible rfl)
      try simp only [Act.put, qGa, qGb, qGc, qSa, qSb, qSc]
      refine tk (i := 5) (v := ?vfw95) rfl (by kernel_rfl) (fun _ _ _ h => h) (Or.inl ⟨by rfl, ?hyfw95⟩) (by assumption) ?rfw95
      case hyfw95 => (intro w hSw; (try dsimp only at hSw); go_simp; try with_reducible rfl)
      try simp only [Act.put, qGa, qGb, qGc, qSa, qSb, qSc]
      refine tk (i := 6) (v := ?vgw96) rfl (by kernel_rfl) (fun _ _ _ h => h) (Or.inl ⟨by rfl, ?hygw96⟩) (by assumption) ?rgw96
      case hygw96 => (intro w hSw; (try dsimp only at hSw); go_simp; try with_reducible rfl)
      try simp only [Act.put, qGa, qGb, qGc, qSa, qSb, qSc]
      have z0 := hr0.cell 0; have z1 := hr0.cell 1; have z2 := hr0.cell 2; have z3 := hr0.cell 3
      have y0 := hr0.frozen 0; have y1 := hr0.frozen 1; have y2 := hr0.frozen 2; have y3 := hr0.frozen 3
      have hZ := Blk.set4 hr0 (.int .i64 k) (.int .i64 nd) (.int .i64 t) (.int .i64 m)
      have p0 := hZ.cell 0; have p1 := hZ.cell 1; have p2 := hZ.cell 2; have p3 := hZ.cell 3
      have hOZ : Keeps gr W0 ((((W0.setCell ⟨gr, 0, none⟩ (.int .i64 k)).setCell ⟨gr, 1, none⟩ (.int .i64 nd)).setCell ⟨gr, 2, none⟩ (.int .i64 t)).setCell ⟨gr, 3, none⟩ (.int .i64 m)) := (((((Only.refl gr W0).setCell 0 _).setCell 1 _).setCell 2 _).setCell 3 _).keeps
      have HO := Lib.hid ((OwnE.off ho0 hr0 hOZ (by decide)).mono hs1)
      have HB := Lib.hid (below_set4 hbb0 hgrw (.int .i64 k) (.int .i64 nd) (.int .i64 t) (.int .i64 m))
      clear hZ hOZ
      have hNZ := hN0.offG hr0 hgngr k nd t m
      have hXZ := hX0.offG hr0 hgxgr k nd t m
      have hbcZ := cell_offG hr0 hgdgr k nd t m hbc0
      refine wpAnyH_ready (rs := [7]) (by kernel_rfl) (by simp) ?_
      refine AllReadyH.cons rfl (fun Kzw9 hKzw9 => ?_) AllReadyH.nil
      go_simp
      refine hKzw9.out _ _ ⟨hNZ.cell 0, hbcZ, hXZ.cell 0, hXZ.cell 1, hXZ.cell 2, hXZ.cell 3⟩ (fun hHeld => ?_)
      clear hKzw9 Kzw9
      try simp only [Act.put, qGa, qGb, qGc, qSa, qSb, qSc]
      refine wpAnyH_done (by kernel_rfl) ?_ _
      go_wp2_with fail
      refine bodyPost_ret (v := .tuple #[.slice ab es.length cb, .agg #[.int .i64 k, .int .i64 nd, .int .i64 t, .int .i64 m]]) (by simp [results, Tryz.results6, go_sem, p0, p1, p2, p3]) rfl ?_
      exact ⟨_, es, k, nd, t, m, rfl, HO.out, hbw, by omega, HB.out⟩
    · by_cases hk1 : k = 1
      · subst hk1
        have f3 := hX9.frozen 3
        have c3 := hX9.cell 3
        have hX7 : Blk (w9.setCell ⟨gx, 3, none⟩ (.int .i64 1000000)) gx 26 #[.int .i64 1, .int .i64 nd, .int .i64 t, .int .i64 1000000] := by
          have h := hX9.set_ 3 (.int .i64 1000000)
          simpa using h
        have hO7 := (Only.refl gx w9).setCell 3 (.int .i64 1000000)
        have hr7 := hr9.keeps hO7.keeps (Ne.symm hgxgr)
        have hN7 := hN9.keeps hO7.keeps hgngx
        have hbc7 := keeps_cell hO7.keeps hgdgx hbc9
        have hbo7 := OwnE.off hbo9 hX9 hO7.keeps (by decide)
        have hbb7 := hbb9.setCell (p := ⟨gx, 3, none⟩) (by show w.heap.size ≤ gx; omega) (.int .i64 1000000)
        obtain ⟨w7, hw7⟩ : ∃ x, x = w9.setCell ⟨gx, 3, none⟩ (.int .i64 1000000) := ⟨_, rfl⟩
        rw [← hw7] at hX7 hr7 hN7 hbc7 hbo7 hbb7
        go_upto_region 11 with fail
        rw [← hw7]
        clear hw7 hO7 f3 c3 c0 hr9 hN9 hbc9 hbo9 hbb9
        have hr9 := hr7; have hN9 := hN7; have hbc9 := hbc7; have hbo9 := hbo7; have hbb9 := hbb7
        obtain ⟨k, hk1⟩ : ∃ k : Int, (1 : Int) = k := ⟨_, rfl⟩
        obtain ⟨m, hm1⟩ : ∃ k : Int, (1000000 : Int) = k := ⟨_, rfl⟩
        rw [hk1, hm1] at hX7
        clear hk1 hm1
        refine wp_region_held_drew (S := (fun w' => w'.cell? ⟨gn, 0, none⟩ = some (.slice (some ⟨gd, 0, none⟩) nds.length cd) ∧ w'.cell? ⟨gd, 1, none⟩ = some (.slice ab es.length cb) ∧ w'.cell? ⟨gx, 0, none⟩ = some (.int .i64 k) ∧ w'.cell? ⟨gx, 1, none⟩ = some (.int .i64 nd) ∧ w'.cell? ⟨gx, 2, none⟩ = some (.int .i64 t) ∧ w'.cell? ⟨gx, 3, none⟩ = some (.int .i64 m))) (by kernel_rfl) ⟨(hN9.drewN 1).cell 0, hbc9, (hX7.drewN 1).cell 0, (hX7.drewN 1).cell 1, (hX7.drewN 1).cell 2, (hX7.drewN 1).cell 3⟩ (fun hHeld => ?_)
        obtain ⟨W0, hW0⟩ : ∃ x, x = w7.drew := ⟨_, rfl⟩
        have hbW : Below w7.heap.size w7 W0 := by rw [hW0]; exact (Below.refl _ _).drew
        rw [← hW0] at hHeld ⊢
        clear hW0
        have hN0 := hN9.below hbW hN9.lt
        have hbc0 := (hbW.cell (World.block_lt_of_cell? _ _ hbc9)).trans hbc9
        have hX0 := hX7.below hbW hX7.lt
        have hr0 := hr9.below hbW hr9.lt
        have ho0 := hbo9.below hbW (Nat.le_refl _)
        have hbb0 := hbb9.trans (hbW.mono hbb9.size)
        refine tk (i := 0) (v := ?vfw70) rfl (by kernel_rfl) (fun _ _ _ h => h) (Or.inl ⟨by rfl, ?hyfw70⟩) (by assumption) ?rfw70
        case hyfw70 => (intro w hSw; (try dsimp only at hSw); go_simp; try with_reducible rfl)
        try simp only [Act.put, qGa, qGb, qGc, qSa, qSb, qSc]
        refine tk (i := 1) (v := ?vfw71) rfl (by kernel_rfl) (fun _ _ _ h => h) (Or.inl ⟨by rfl, ?hyfw71⟩) (by assumption) ?rfw71
        case hyfw71 => (intro w hSw; (try dsimp only at hSw); go_simp; try with_reducible rfl)
        try simp only [Act.put, qGa, qGb, qGc, qSa, qSb, qSc]
        refine tk (i := 2) (v := ?vfw72) rfl (by kernel_rfl) (fun _ _ _ h => h) (Or.inl ⟨by rfl, ?hyfw72⟩) (by assumption) ?rfw72
        case hyfw72 => (intro w hSw; (try dsimp only at hSw); go_simp; try with_reducible rfl)
        try simp only [Act.put, qGa, qGb, qGc, qSa, qSb, qSc]
        refine tk (i := 3) (v := ?vfw73) rfl (by kernel_rfl) (fun _ _ _ h => h) (Or.inl ⟨by rfl, ?hyfw73⟩) (by assumption) ?rfw73
        case hyfw73 => (intro w hSw; (try dsimp only at hSw); go_simp; try with_reducible rfl)
        try simp only [Act.put, qGa, qGb, qGc, qSa, qSb, qSc]
        refine tk (i := 4) (v := ?vfw74) rfl (by kernel_rfl) (fun _ _ _ h => h) (Or.inl ⟨by rfl, ?hyfw74⟩) (by assumption) ?rfw74
        case hyfw74 => (intro w hSw; (try dsimp only at hSw); go_simp; try with_reducible rfl)
        try simp only [Act.put, qGa, qGb, qGc, qSa, qSb, qSc]
        refine tk (i := 5) (v := ?vfw75) rfl (by kernel_rfl) (fun _ _ _ h => h) (Or.inl ⟨by rfl, ?hyfw75⟩) (by assumption) ?rfw75
        case hyfw75 => (intro w hSw; (try dsimp only at hSw); go_simp; try with_reducible rfl)
        try simp only [Act.put, qGa, qGb, qGc, qSa, qSb, qSc]
        refine tk (i := 6) (v := ?vgw76) rfl (by kernel_rfl) (fun _ _ _ h => h) (Or.inl ⟨by rfl, ?hygw76⟩) (by assumption) ?rgw76
        case hygw76 => (intro w hSw; (try dsimp only at hSw); go_simp; try with_reducible rfl)
        try simp only [Act.put, qGa, qGb, qGc, qSa, qSb, qSc]
        have z0 := hr0.cell 0; have z1 := hr0.cell 1; have z2 := hr0.cell 2; have z3 := hr0.cell 3
        have y0 := hr0.frozen 0; have y1 := hr0.frozen 1; have y2 := hr0.frozen 2; have y3 := hr0.frozen 3
        have hZ := Blk.set4 hr0 (.int .i64 k) (.int .i64 nd) (.int .i64 t) (.int .i64 m)
        have p0 := hZ.cell 0; have p1 := hZ.cell 1; have p2 := hZ.cell 2; have p3 := hZ.cell 3
        have hOZ : Keeps gr W0 ((((W0.setCell ⟨gr, 0, none⟩ (.int .i64 k)).setCell ⟨gr, 1, none⟩ (.int .i64 nd)).setCell ⟨gr, 2, none⟩ (.int .i64 t)).setCell ⟨gr, 3, none⟩ (.int .i64 m)) := (((((Only.refl gr W0).setCell 0 _).setCell 1 _).setCell 2 _).setCell 3 _).keeps
        have HO := Lib.hid ((OwnE.off ho0 hr0 hOZ (by decide)).mono hs1)
        have HB := Lib.hid (below_set4 hbb0 hgrw (.int .i64 k) (.int .i64 nd) (.int .i64 t) (.int .i64 m))
        clear hZ hOZ
        have hNZ := hN0.offG hr0 hgngr k nd t m
        have hXZ := hX0.offG hr0 hgxgr k nd t m
        have hbcZ := cell_offG hr0 hgdgr k nd t m hbc0
        refine wpAnyH_ready (rs := [7]) (by kernel_rfl) (by simp) ?_
        refine AllReadyH.cons rfl (fun Kzw7 hKzw7 => ?_) AllReadyH.nil
        go_simp
        refine hKzw7.out _ _ ⟨hNZ.cell 0, hbcZ, hXZ.cell 0, hXZ.cell 1, hXZ.cell 2, hXZ.cell 3⟩ (fun hHeld => ?_)
        clear hKzw7 Kzw7
        try simp only [Act.put, qGa, qGb, qGc, qSa, qSb, qSc]
        refine wpAnyH_done (by kernel_rfl) ?_ _
        go_wp2_with fail
        refine bodyPost_ret (v := .tuple #[.slice ab es.length cb, .agg #[.int .i64 k, .int .i64 nd, .int .i64 t, .int .i64 m]]) (by simp [results, Tryz.results6, go_sem, p0, p1, p2, p3]) rfl ?_
        exact ⟨_, es, k, nd, t, m, rfl, HO.out, hbw, by omega, HB.out⟩
      · have hk1' : (k == 1) = false := by simpa using hk1
        go_upto_region 11 with fail
        refine wp_region_held_drew (S := (fun w' => w'.cell? ⟨gn, 0, none⟩ = some (.slice (some ⟨gd, 0, none⟩) nds.length cd) ∧ w'.cell? ⟨gd, 1, none⟩ = some (.slice ab es.length cb) ∧ w'.cell? ⟨gx, 0, none⟩ = some (.int .i64 k) ∧ w'.cell? ⟨gx, 1, none⟩ = some (.int .i64 nd) ∧ w'.cell? ⟨gx, 2, none⟩ = some (.int .i64 t) ∧ w'.cell? ⟨gx, 3, none⟩ = some (.int .i64 m))) (by kernel_rfl) ⟨(hN9.drewN 1).cell 0, hbc9, (hX9.drewN 1).cell 0, (hX9.drewN 1).cell 1, (hX9.drewN 1).cell 2, (hX9.drewN 1).cell 3⟩ (fun hHeld => ?_)
        obtain ⟨W0, hW0⟩ : ∃ x, x = w9.drew := ⟨_, rfl⟩
        have hbW : Below w9.heap.size w9 W0 := by rw [hW0]; exact (Below.refl _ _).drew
        rw [← hW0] at hHeld ⊢
        clear hW0
        have hN0 := hN9.below hbW hN9.lt
        have hbc0 := (hbW.cell (World.block_lt_of_cell? _ _ hbc9)).trans hbc9
        have hX0 := hX9.below hbW hX9.lt
        have hr0 := hr9.below hbW hr9.lt
        have ho0 := hbo9.below hbW (Nat.le_refl _)
        have hbb0 := hbb9.trans (hbW.mono hbb9.size)
        refine tk (i := 0) (v := ?vhw90) rfl (by kernel_rfl) (fun _ _ _ h => h) (Or.inl ⟨by rfl, ?hyhw90⟩) (by assumption) ?rhw90
        case hyhw90 => (intro w hSw; (try dsimp only at hSw); go_simp; try with_reducible rfl)
        try simp only [Act.put, qGa, qGb, qGc, qSa, qSb, qSc]
        refine tk (i := 1) (v := ?vhw91) rfl (by kernel_rfl) (fun _ _ _ h => h) (Or.inl ⟨by rfl, ?hyhw91⟩) (by assumption) ?rhw91
        case hyhw91 => (intro w hSw; (try dsimp only at hSw); go_simp; try with_reducible rfl)
        try simp only [Act.put, qGa, qGb, qGc, qSa, qSb, qSc]
        refine tk (i := 2) (v := ?vhw92) rfl (by kernel_rfl) (fun _ _ _ h => h) (Or.inl ⟨by rfl, ?hyhw92⟩) (by assumption) ?rhw92
        case hyhw92 => (intro w hSw; (try dsimp only at hSw); go_simp; try with_reducible rfl)
        try simp only [Act.put, qGa, qGb, qGc, qSa, qSb, qSc]
        refine tk (i := 3) (v := ?vhw93) rfl (by kernel_rfl) (fun _ _ _ h => h) (Or.inl ⟨by rfl, ?hyhw93⟩) (by assumption) ?rhw93
        case hyhw93 => (intro w hSw; (try dsimp only at hSw); go_simp; try with_reducible rfl)
        try simp only [Act.put, qGa, qGb, qGc, qSa, qSb, qSc]
        refine tk (i := 4) (v := ?vhw94) rfl (by kernel_rfl) (fun _ _ _ h => h) (Or.inl ⟨by rfl, ?hyhw94⟩) (by assumption) ?rhw94
        case hyhw94 => (intro w hSw; (try dsimp only at hSw); go_simp; try with_reducible rfl)
        try simp only [Act.put, qGa, qGb, qGc, qSa, qSb, qSc]
        refine tk (i := 5) (v := ?vhw95) rfl (by kernel_rfl) (fun _ _ _ h => h) (Or.inl ⟨by rfl, ?hyhw95⟩) (by assumption) ?rhw95
        case hyhw95 => (intro w hSw; (try dsimp only at hSw); go_simp; try with_reducible rfl)
        try simp only [Act.put, qGa, qGb, qGc, qSa, qSb, qSc]
        refine tk (i := 6) (v := ?viw96) rfl (by kernel_rfl) (fun _ _ _ h => h) (Or.inl ⟨by rfl, ?hyiw96⟩) (by assumption) ?riw96
        case hyiw96 => (intro w hSw; (try dsimp only at hSw); go_simp; try with_reducible rfl)
        try simp only [Act.put, qGa, qGb, qGc, qSa, qSb, qSc]
        have z0 := hr0.cell 0; have z1 := hr0.cell 1; have z2 := hr0.cell 2; have z3 := hr0.cell 3
        have y0 := hr0.frozen 0; have y1 := hr0.frozen 1; have y2 := hr0.frozen 2; have y3 := hr0.frozen 3
        have hZ := Blk.set4 hr0 (.int .i64 k) (.int .i64 nd) (.int .i64 t) (.int .i64 m)
        have p0 := hZ.cell 0; have p1 := hZ.cell 1; have p2 := hZ.cell 2; have p3 := hZ.cell 3
        have hOZ : Keeps gr W0 ((((W0.setCell ⟨gr, 0, none⟩ (.int .i64 k)).setCell ⟨gr, 1, none⟩ (.int .i64 nd)).setCell ⟨gr, 2, none⟩ (.int .i64 t)).setCell ⟨gr, 3, none⟩ (.int .i64 m)) := (((((Only.refl gr W0).setCell 0 _).setCell 1 _).setCell 2 _).setCell 3 _).keeps
        have HO := Lib.hid ((OwnE.off ho0 hr0 hOZ (by decide)).mono hs1)
        have HB := Lib.hid (below_set4 hbb0 hgrw (.int .i64 k) (.int .i64 nd) (.int .i64 t) (.int .i64 m))
        clear hZ hOZ
        have hNZ := hN0.offG hr0 hgngr k nd t m
        have hXZ := hX0.offG hr0 hgxgr k nd t m
        have hbcZ := cell_offG hr0 hgdgr k nd t m hbc0
        refine wpAnyH_ready (rs := [7]) (by kernel_rfl) (by simp) ?_
        refine AllReadyH.cons rfl (fun Kyw9 hKyw9 => ?_) AllReadyH.nil
        go_simp
        refine hKyw9.out _ _ ⟨hNZ.cell 0, hbcZ, hXZ.cell 0, hXZ.cell 1, hXZ.cell 2, hXZ.cell 3⟩ (fun hHeld => ?_)
        clear hKyw9 Kyw9
        try simp only [Act.put, qGa, qGb, qGc, qSa, qSb, qSc]
        refine wpAnyH_done (by kernel_rfl) ?_ _
        go_wp2_with fail
        refine bodyPost_ret (v := .tuple #[.slice ab es.length cb, .agg #[.int .i64 k, .int .i64 nd, .int .i64 t, .int .i64 m]]) (by simp [results, Tryz.results6, go_sem, p0, p1, p2, p3]) rfl ?_
        exact ⟨_, es, k, nd, t, m, rfl, HO.out, hbw, by omega, HB.out⟩
  · go_wp2_with fail
    refine (l4DrawAny_any _ _ _ hd2).mono ?_
    rintro e w3 ⟨v, es, rfl, hown, hall, hlen, hk3, hd3⟩
    obtain ⟨ab, cb, rfl, -, -⟩ := hown.ents hall
    have hr3 := hr2.keeps hk3 hgrg
    have hown3 := hown.mono hw12
    have hk03 := hk2.trans hk3
    go_wp2_with fail
    refine (l1Once_any _ _ 4 _ hd3 ⟨by decide, by decide⟩).mono ?_
    rintro e w4 ⟨b4, rfl, ho4, hd4⟩
    have hr4 := hr3.keeps ho4.keeps hgrg
    have hown4 := hown3.keeps ho4.keeps hg
    have hk04 := hk03.trans ho4.keeps
    clear hd3 hr3 hown3 hown hk3 ho4
    rcases b4 with _ | _
    · go_wp2_with fail
      refine (l8DrawAny_any _ _ _ hd4).mono ?_
      rintro e w8 ⟨k, nd, t, m, rfl, -, -, -, -, hk8, hd8⟩
      have hr8 := hr4.keeps hk8 hgrg
      have ho8 := hown4.keeps hk8 hg
      have hb8 := hb1.trans ((hk04.trans hk8).below hgw hs1)
      have z0 := hr8.cell 0; have z1 := hr8.cell 1; have z2 := hr8.cell 2; have z3 := hr8.cell 3
      have y0 := hr8.frozen 0; have y1 := hr8.frozen 1; have y2 := hr8.frozen 2; have y3 := hr8.frozen 3
      have hZ := Blk.set4 hr8 (.int .i64 k) (.int .i64 nd) (.int .i64 t) (.int .i64 m)
      have p0 := hZ.cell 0; have p1 := hZ.cell 1; have p2 := hZ.cell 2; have p3 := hZ.cell 3
      have hOZ : Keeps gr w8 ((((w8.setCell ⟨gr, 0, none⟩ (.int .i64 k)).setCell ⟨gr, 1, none⟩ (.int .i64 nd)).setCell ⟨gr, 2, none⟩ (.int .i64 t)).setCell ⟨gr, 3, none⟩ (.int .i64 m)) := (((((Only.refl gr w8).setCell 0 _).setCell 1 _).setCell 2 _).setCell 3 _).keeps
      have HO := Lib.hid ((OwnE.off ho8 hr8 hOZ (by decide)).mono hs1)
      have HB := Lib.hid (below_set4 hb8 hgrw (.int .i64 k) (.int .i64 nd) (.int .i64 t) (.int .i64 m))
      clear hZ hOZ
      go_wp2_with fail
      refine bodyPost_ret (v := .tuple #[.slice ab es.length cb, .agg #[.int .i64 k, .int .i64 nd, .int .i64 t, .int .i64 m]]) (by simp [results, Tryz.results6, go_sem, p0, p1, p2, p3]) rfl ?_
      exact ⟨_, es, k, nd, t, m, rfl, HO.out, hall, hlen, HB.out⟩
    · by_cases hpos : 0 < es.length
      · obtain ⟨gb, cb', he⟩ := hown4.form hpos
        cases he
        have i1 : (0 : Int) < es.length := by omega
        go_wp2_with fail
        refine (l1Below_any _ _ 2 _ hd4 ⟨by decide, by decide⟩).mono ?_
        rintro e w5 ⟨r5, rfl, hr5, -, ho5, hd5⟩
        have hr5 : (r5 : Int) < 2 := hr5 (by omega)
        have hr5b := hr4.keeps ho5.keeps hgrg
        have hown5 := hown4.keeps ho5.keeps hg
        have hk05 := hk04.trans ho5.keeps
        have hst := hown5.store1 0 3 (.int .i64 (100000 - r5)) ⟨(E es 0).o, (E es 0).s, (E es 0).a, 100000 - r5⟩ hpos (by omega) rfl
        obtain ⟨hc3, hf3⟩ := hown5.cellK 0 3 hpos (by omega)
        have hc3' : w5.cell? ⟨gb, 3, none⟩ = some (.int .i64 (E es 0).d) := hc3
        have hf3' : w5.frozen? ⟨gb, 3, none⟩ = false := hf3
        have hst' : OwnE w1.heap.size (w5.setCell ⟨gb, 3, none⟩ (.int .i64 (100000 - r5))) (.slice (some ⟨gb, 0, none⟩) es.length cb) (es.set 0 ⟨(E es 0).o, (E es 0).s, (E es 0).a, 100000 - r5⟩) := hst
        have hgb : w1.heap.size ≤ gb := (World.ownsRow.lt hown5 gb rfl).1
        have hgbr : gr ≠ gb := by have := hr1.lt; omega
        have hbS : Below w1.heap.size w5 (w5.setCell ⟨gb, 3, none⟩ (.int .i64 (100000 - r5))) := (Below.refl _ _).setCell (p := ⟨gb, 3, none⟩) hgb _
        have hd6 := hd5.below' hbS hg
        have hk06 := hk05.then_below hbS
        have hr6 := hr5b.far (p := ⟨gb, 3, none⟩) hgbr (.int .i64 (100000 - r5))
        have hwf : AllE (es.set 0 ⟨(E es 0).o, (E es 0).s, (E es 0).a, 100000 - r5⟩) := allE_set hall ⟨(E_wf hall 0).1, (E_wf hall 0).2.1, (E_wf hall 0).2.2.1, show I64 (100000 - (r5 : Int)) by unfold I64; omega⟩
        have hlen2 : (es.set 0 ⟨(E es 0).o, (E es 0).s, (E es 0).a, 100000 - r5⟩).length ≤ 21 := by rw [List.length_set]; exact hlen
        obtain ⟨W6, hW6⟩ : ∃ x, x = w5.setCell ⟨gb, 3, none⟩ (.int .i64 (100000 - r5)) := ⟨_, rfl⟩
        rw [← hW6] at hst' hd6 hk06 hr6
        generalize es.set 0 ⟨(E es 0).o, (E es 0).s, (E es 0).a, 100000 - r5⟩ = es2 at hst' hwf hlen2
        clear hst hc3 hf3 hown5 hown4 hd4 hd5 hr4 hr5b hbS hk05 hk04
        go_upto_region 6 with fail
        rw [← hW6]
        clear hW6 hc3' hf3'
        go_wp2_with fail
        refine (l8DrawAny_any _ _ _ hd6).mono ?_
        rintro e w8 ⟨k, nd, t, m, rfl, -, -, -, -, hk8, hd8⟩
        have hr8 := hr6.keeps hk8 hgrg
        have ho8 := hst'.keeps hk8 hg
        have hb8 := hb1.trans ((hk06.trans hk8).below hgw hs1)
        have z0 := hr8.cell 0; have z1 := hr8.cell 1; have z2 := hr8.cell 2; have z3 := hr8.cell 3
        have y0 := hr8.frozen 0; have y1 := hr8.frozen 1; have y2 := hr8.frozen 2; have y3 := hr8.frozen 3
        have hZ := Blk.set4 hr8 (.int .i64 k) (.int .i64 nd) (.int .i64 t) (.int .i64 m)
        have p0 := hZ.cell 0; have p1 := hZ.cell 1; have p2 := hZ.cell 2; have p3 := hZ.cell 3
        have hOZ : Keeps gr w8 ((((w8.setCell ⟨gr, 0, none⟩ (.int .i64 k)).setCell ⟨gr, 1, none⟩ (.int .i64 nd)).setCell ⟨gr, 2, none⟩ (.int .i64 t)).setCell ⟨gr, 3, none⟩ (.int .i64 m)) := (((((Only.refl gr w8).setCell 0 _).setCell 1 _).setCell 2 _).setCell 3 _).keeps
        have HO := Lib.hid ((OwnE.off ho8 hr8 hOZ (by decide)).mono hs1)
        have HB := Lib.hid (below_set4 hb8 hgrw (.int .i64 k) (.int .i64 nd) (.int .i64 t) (.int .i64 m))
        clear hZ hOZ
        go_wp2_with fail
        refine bodyPost_ret (v := .tuple #[.slice (some ⟨gb, 0, none⟩) es.length cb, .agg #[.int .i64 k, .int .i64 nd, .int .i64 t, .int .i64 m]]) (by simp [results, Tryz.results6, go_sem, p0, p1, p2, p3]) rfl ?_
        exact ⟨_, es2, k, nd, t, m, rfl, HO.out, hwf, hlen2, HB.out⟩
      · have i1 : ¬ (0 : Int) < es.length := by omega
        go_wp2_with fail
        refine (l8DrawAny_any _ _ _ hd4).mono ?_
        rintro e w8 ⟨k, nd, t, m, rfl, -, -, -, -, hk8, hd8⟩
        have hr8 := hr4.keeps hk8 hgrg
        have ho8 := hown4.keeps hk8 hg
        have hb8 := hb1.trans ((hk04.trans hk8).below hgw hs1)
        have z0 := hr8.cell 0; have z1 := hr8.cell 1; have z2 := hr8.cell 2; have z3 := hr8.cell 3
        have y0 := hr8.frozen 0; have y1 := hr8.frozen 1; have y2 := hr8.frozen 2; have y3 := hr8.frozen 3
        have hZ := Blk.set4 hr8 (.int .i64 k) (.int .i64 nd) (.int .i64 t) (.int .i64 m)
        have p0 := hZ.cell 0; have p1 := hZ.cell 1; have p2 := hZ.cell 2; have p3 := hZ.cell 3
        have hOZ : Keeps gr w8 ((((w8.setCell ⟨gr, 0, none⟩ (.int .i64 k)).setCell ⟨gr, 1, none⟩ (.int .i64 nd)).setCell ⟨gr, 2, none⟩ (.int .i64 t)).setCell ⟨gr, 3, none⟩ (.int .i64 m)) := (((((Only.refl gr w8).setCell 0 _).setCell 1 _).setCell 2 _).setCell 3 _).keeps
        have HO := Lib.hid ((OwnE.off ho8 hr8 hOZ (by decide)).mono hs1)
        have HB := Lib.hid (below_set4 hb8 hgrw (.int .i64 k) (.int .i64 nd) (.int .i64 t) (.int .i64 m))
        clear hZ hOZ
        go_wp2_with fail
        refine bodyPost_ret (v := .tuple #[.slice ab es.length cb, .agg #[.int .i64 k, .int .i64 nd, .int .i64 t, .int .i64 m]]) (by simp [results, Tryz.results6, go_sem, p0, p1, p2, p3]) rfl ?_
        exact ⟨_, es, k, nd, t, m, rfl, HO.out, hall, hlen, HB.out⟩
end Go.Proofs.YtccoljbnddfmpaaGreatDoor
