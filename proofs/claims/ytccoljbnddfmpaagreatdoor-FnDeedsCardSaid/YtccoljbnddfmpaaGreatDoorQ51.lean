/- Texts of this claim, put together. -/
import Derived.Test.YtccoljbnddfmpaaGreatDoorQ1
import Derived.Test.YtccoljbnddfmpaaGreatDoorQ13
import Derived.Test.YtccoljbnddfmpaaGreatDoorQ49
import Derived.Test.YtccoljbnddfmpaaGreatDoorQ50

namespace Go.Proofs.YtccoljbnddfmpaaGreatDoor
open Go.RowKit
theorem done_facts (es : List Ent) (k nd t m : Int) :
    ((doneF es k nd t m).2 = 3 ∧ (doneF es k nd t m).1 = []) ∨ (((doneF es k nd t m).2 = 1 ∨ (doneF es k nd t m).2 = 2) ∧ (doneF es k nd t m).1 = es) ∨
    ((doneF es k nd t m).2 = 0 ∧ bookOk es = true ∧ deedOk k nd t m = true ∧ bookOk (doneF es k nd t m).1 = true ∧ (∀ x : Int, held (doneF es k nd t m).1 x = held es x + contribD ⟨nd, slotOf k nd t, m, 0⟩ x) ∧ (¬ k = 1 → m ≤ held es nd)) := by
  by_cases h : bookOk es = true ∧ deedOk k nd t m = true
  · have e : doneF es k nd t m = doneR es k nd t m := by rw [doneF, if_pos h]
    rw [e]
    unfold doneR
    split
    · exact .inr (.inl ⟨.inl rfl, rfl⟩)
    · rename_i hs
      split
      · rename_i hok
        refine .inr (.inr ⟨rfl, h.1, h.2, deed_book h.1 hok, fun x => deed_held h.1 hok x, fun hk => ?_⟩)
        have : ¬ held es nd < m := fun hh => hs ⟨hk, hh⟩
        omega
      · exact .inr (.inl ⟨.inr rfl, rfl⟩)
  · have e : doneF es k nd t m = ([], 3) := by rw [doneF, if_neg h]
    rw [e]
    exact .inl ⟨rfl, rfl⟩
theorem done_allE {es : List Ent} {k nd t m : Int} (h : AllE es) : AllE (doneF es k nd t m).1 := by
  rcases done_facts es k nd t m with ⟨_, e⟩ | ⟨_, e⟩ | ⟨_, _, _, hb, _⟩
  · rw [e]; exact fun z hz => by cases hz
  · rw [e]; exact h
  · exact book_wf hb
theorem deed_parts {k n t m : Int} (h : deedOk k n t m = true) : (0 ≤ n ∧ n ≤ 3) ∧ (1 ≤ m ∧ m ≤ 1000000) ∧ ((k = 1 ∧ t = 0) ∨ (k = 3 ∧ t = 0) ∨ (k = 2 ∧ (0 ≤ t ∧ t ≤ 3) ∧ ¬ t = n)) := by
  simp only [deedOk, inB, Bool.and_eq_true, decide_eq_true_eq] at h
  refine ⟨h.1.1, h.1.2, ?_⟩
  have h2 := h.2
  by_cases hk : k = 1 ∨ k = 3
  · rw [if_pos hk] at h2
    have : t = 0 := by simpa using h2
    omega
  · rw [if_neg hk] at h2
    by_cases hk2 : k = 2
    · rw [if_pos hk2] at h2
      simp at h2
      exact .inr (.inr ⟨hk2, h2.1, h2.2⟩)
    · rw [if_neg hk2] at h2
      cases h2
def DeedDrawn (w : World) (e : Ending) (w' : World) : Prop := ∃ k n t m : Int, e = .returned (.agg #[.int .i64 k, .int .i64 n, .int .i64 t, .int .i64 m]) ∧ Below w.heap.size w w'
set_option maxHeartbeats 1000000 in
theorem drawDeedOk_any (B : Nat) (ao : Option Addr) (n cap : Nat) (bs : List Int) (w : World) (hb : Bytes B w ao n cap bs) (hB : B ≤ w.heap.size) (hn : n ≤ 1099511627776) :
    Calls Tryz.prog 9 #[.slice ao n cap] w (DeedDrawn w) := by
  obtain ⟨wb, hwb⟩ : ∃ x, x = w.alloc (.cells #[.int .i64 0, .int .i64 0, .int .i64 0, .int .i64 0] 26) := ⟨_, rfl⟩
  obtain ⟨gr, hgr0⟩ : ∃ x, x = w.heap.size := ⟨_, rfl⟩
  have hr := Blk.new w 26 #[.int .i64 0, .int .i64 0, .int .i64 0, .int .i64 0]
  have hb0 : Below w.heap.size w wb := by rw [hwb]; exact (Below.refl _ _).alloc (Nat.le_refl _) _
  rw [← hwb, ← hgr0] at hr
  have hgrw : w.heap.size ≤ gr := by omega
  have hbb := hb.below hb0 hB (Nat.le_refl B)
  have hs0 := hb0.size
  go_enter Tryz.func9, Tryz.ntmps9
  go_upto_region 1 with fail
  rw [← hwb, ← hgr0]
  clear hwb hgr0
  go_wp2_with fail
  refine (l1New_any B _ _ _ bs _ hbb (by omega) hn).mono ?_
  rintro e w1 ⟨he1, hd1, hb1⟩
  subst he1
  obtain ⟨g, hg0⟩ : ∃ x, wb.heap.size = x := ⟨_, rfl⟩
  rw [hg0] at hd1 hb1 ⊢
  have hgrg : gr ≠ g := by have := hr.lt; omega
  have hr1 := hr.below hb1 (by have := hr.lt; omega)
  replace hb1 := hb0.trans (hb1.mono (by omega))
  have hgw : w.heap.size ≤ g := by omega
  go_wp2_with fail
  refine (l8DrawAny_any _ _ _ hd1).mono ?_
  rintro e w8 ⟨k, nd, t, m, rfl, -, -, -, -, hk8, hd8⟩
  have hr8 := hr1.keeps hk8 hgrg
  have hb8 := hb1.trans (hk8.below hgw hb1.size)
  have z0 := hr8.cell 0; have z1 := hr8.cell 1; have z2 := hr8.cell 2; have z3 := hr8.cell 3
  have y0 := hr8.frozen 0; have y1 := hr8.frozen 1; have y2 := hr8.frozen 2; have y3 := hr8.frozen 3
  have hZ := Blk.set4 hr8 (.int .i64 k) (.int .i64 nd) (.int .i64 t) (.int .i64 m)
  have p0 := hZ.cell 0; have p1 := hZ.cell 1; have p2 := hZ.cell 2; have p3 := hZ.cell 3
  have HB := Lib.hid (below_set4 hb8 hgrw (.int .i64 k) (.int .i64 nd) (.int .i64 t) (.int .i64 m))
  clear hZ
  go_wp2_with fail
  refine bodyPost_ret (v := .agg #[.int .i64 k, .int .i64 nd, .int .i64 t, .int .i64 m]) (by simp [results, Tryz.results9, go_sem, p0, p1, p2, p3]) rfl ?_
  exact ⟨k, nd, t, m, rfl, HB.out⟩
set_option linter.unusedSimpArgs false in
set_option maxHeartbeats 8000000 in
set_option maxRecDepth 100000 in
theorem fnDeeds_any (ao : Option Addr) (n cap : Nat) (bs : List Int) (e0 e1 : Addr) (w : World) (hb : Bytes w.heap.size w ao n cap bs) (hE : Errs w e0 e1) :
    Calls Tryz.prog 3 #[.slice ao n cap] w (Yes w) := by
  by_cases hbig : 4096 < n
  · go_enter Tryz.func3, Tryz.ntmps3
    go_wp2_with fail
    refine (big_any _ _ _ _).mono ?_
    rintro e w1 ⟨rfl, rfl⟩
    rw [decide_eq_true hbig]
    go_wp2_with fail
    go_ret
    exact ⟨rfl, Below.refl _ _⟩
  · go_enter Tryz.func3, Tryz.ntmps3
    go_wp2_with fail
    refine (big_any _ _ _ _).mono ?_
    rintro e w1 ⟨rfl, rfl⟩
    rw [decide_eq_false hbig]
    go_wp2_with fail
    refine (drawDone_any _ _ _ _ bs _ hb (Nat.le_refl _) (by omega)).mono ?_
    rintro e w2 ⟨v2, es, k, nd, t, m, rfl, hown2, hall2, -, hb2⟩
    obtain ⟨a2, c2, rfl, hi2, hz2⟩ := hown2.ents hall2
    have hs2 := hb2.size
    obtain ⟨gd, hgd0⟩ : ∃ x, x = w2.heap.size := ⟨_, rfl⟩
    obtain ⟨W3, hW3⟩ : ∃ x, x = w2.alloc (.cells #[.int .i64 k, .int .i64 nd, .int .i64 t, .int .i64 m] 26) := ⟨_, rfl⟩
    have hD3 : Blk W3 gd 26 #[.int .i64 k, .int .i64 nd, .int .i64 t, .int .i64 m] := by rw [hW3, hgd0]; exact Blk.new _ _ _
    have hb3 : Below w2.heap.size w2 W3 := by rw [hW3]; exact (Below.refl _ _).alloc (Nat.le_refl _) _
    have hb13 := hb2.trans (hb3.mono hs2)
    have hi3 := hi2.below hb3 (Nat.le_refl _) hb3.size
    go_upto_region 4 with fail
    rw [← hW3, ← hgd0]
    clear hW3 hgd0 hi2 hown2
    have hdI := implDone_any W3.heap.size a2 es.length c2 es k nd t m e0 e1 W3 hi3 hz2 (Nat.le_refl _) (hE.below hb13 (Nat.le_refl _))
    have hdS := fun w' (h : Below W3.heap.size W3 w') => specDone_any W3.heap.size a2 es.length c2 es k nd t m w' (hi3.below h (Nat.le_refl _) (Nat.le_refl _)) hz2 h.size
    have hxw := done_allE (k := k) (nd := nd) (t := t) (m := m) hall2
    have hf := done_facts es k nd t m
    generalize doneF es k nd t m = r at hdI hdS hxw hf
    obtain ⟨xs, code⟩ := r
    dsimp only at hxw hf
    have HF := Lib.hid hf; have HDS0 := Lib.hid hdS; clear hf hdS
    have d0 := hD3.cell 0; have d1 := hD3.cell 1; have d2 := hD3.cell 2; have d3 := hD3.cell 3
    go_wp2_with fail
    refine hdI.mono ?_
    rintro e w4 ⟨vx, rfl, hox, hb4⟩
    dsimp only at hox ⊢
    obtain ⟨ax, cx, rfl, hiX4, -⟩ := hox.ents hxw
    have hD4 := hD3.below hb4 hD3.lt
    clear d0 d1 d2 d3 hdI hox
    have d0 := hD4.cell 0; have d1 := hD4.cell 1; have d2 := hD4.cell 2; have d3 := hD4.cell 3
    go_wp2_with fail
    refine (HDS0.out w4 hb4).mono ?_
    rintro e w5 ⟨vy, rfl, hoy, hb5⟩
    dsimp only at hoy ⊢
    obtain ⟨ay, cy, rfl, hiY5, -⟩ := hoy.ents hxw
    have hb35 := hb4.trans (hb5.mono hb4.size)
    have hb15 := hb13.trans (hb35.mono hb13.size)
    clear d0 d1 d2 d3 hoy HDS0
    go_wp2_with fail
    refine (drawDeedOk_any w1.heap.size _ _ _ bs _ (hb.below hb15 (Nat.le_refl _) (Nat.le_refl _)) hb15.size (by omega)).mono ?_
    rintro e w6 ⟨ek, en, et, em, rfl, hb6⟩
    obtain ⟨ge, hge0⟩ : ∃ x, x = w6.heap.size := ⟨_, rfl⟩
    obtain ⟨W7, hW7⟩ : ∃ x, x = w6.alloc (.cells #[.int .i64 ek, .int .i64 en, .int .i64 et, .int .i64 em] 26) := ⟨_, rfl⟩
    have hEb : Blk W7 ge 26 #[.int .i64 ek, .int .i64 en, .int .i64 et, .int .i64 em] := by rw [hW7, hge0]; exact Blk.new _ _ _
    have hb67 : Below w6.heap.size w6 W7 := by rw [hW7]; exact (Below.refl _ _).alloc (Nat.le_refl _) _
    have hb57 := hb6.trans (hb67.mono hb6.size)
    have hb47 := hb5.trans (hb57.mono hb5.size)
    have hb37 := hb4.trans (hb47.mono hb4.size)
    have hb17 := hb13.trans (hb37.mono hb13.size)
    have hiX := hiX4.below hb47 (Nat.le_refl _) hb47.size
    have hiY := hiY5.below hb57 (Nat.le_refl _) hb57.size
    have hiL := hi3.below hb37 (Nat.le_refl _) hb37.size
    have hD7 := hD3.below hb37 hD3.lt
    go_upto_region 7 with fail
    rw [← hW7, ← hge0]
    clear hW7 hge0 hb67 hb57 hb47 hb37 hb6 hb5 hb4 hb35 hb15 hiX4 hiY5 hi3 hD3 hD4 hb3 hb13 hb2
    have hDI := fun w => implDeedOk_any ek en et em w
    have hDS := fun w => specDeedOk_any ek en et em w
    generalize deedOk ek en et em = q at hDI hDS
    have HDI := Lib.hid hDI; have HDS := Lib.hid hDS; clear hDI hDS
    refine wp_region_held_drew (S := (fun w' => w'.cell? ⟨ge, 0, none⟩ = some (.int .i64 ek) ∧ w'.cell? ⟨ge, 1, none⟩ = some (.int .i64 en) ∧ w'.cell? ⟨ge, 2, none⟩ = some (.int .i64 et) ∧ w'.cell? ⟨ge, 3, none⟩ = some (.int .i64 em))) (by kernel_rfl) ⟨(hEb.drewN 1).cell 0, (hEb.drewN 1).cell 1, (hEb.drewN 1).cell 2, (hEb.drewN 1).cell 3⟩ (fun hHeld => ?_)
    obtain ⟨W0, hW0⟩ : ∃ x, x = W7.drew := ⟨_, rfl⟩
    have hbW : Below W7.heap.size W7 W0 := by rw [hW0]; exact (Below.refl _ _).drew
    rw [← hW0] at hHeld ⊢
    clear hW0
    have hE0 := hEb.below hbW hEb.lt
    refine tk (i := 0) (v := ?va0) rfl (by kernel_rfl) (fun _ _ _ h => h) (Or.inl ⟨by rfl, ?hya0⟩) (by assumption) ?ra0
    case hya0 => (intro w hSw; (try dsimp only at hSw); go_simp; try with_reducible rfl)
    try simp only [Act.put, qGa, qGb, qGc, qSa, qSb, qSc]
    refine tk (i := 1) (v := ?va1) rfl (by kernel_rfl) (fun _ _ _ h => h) (Or.inl ⟨by rfl, ?hya1⟩) (by assumption) ?ra1
    case hya1 => (intro w hSw; (try dsimp only at hSw); go_simp; try with_reducible rfl)
    try simp only [Act.put, qGa, qGb, qGc, qSa, qSb, qSc]
    refine tk (i := 2) (v := .bool false) rfl (by kernel_rfl) (fun _ _ _ h => h) (Or.inl ⟨by rfl, ?hya2⟩) (by assumption) ?_
    case hya2 => (intro w hSw; (try dsimp only at hSw); go_simp; try (simp))
    try simp only [Act.put, qGa, qGb, qGc, qSa, qSb, qSc]
    refine tk (i := 3) (v := ?va3) rfl (by kernel_rfl) (fun _ _ _ h => h) (Or.inl ⟨by rfl, ?hya3⟩) (by assumption) ?ra3
    case hya3 => (intro w hSw; (try dsimp only at hSw); go_simp; try with_reducible rfl)
    try simp only [Act.put, qGa, qGb, qGc, qSa, qSb, qSc]
    refine tk (i := 4) (v := ?va4) rfl (by kernel_rfl) (fun _ _ _ h => h) (Or.inl ⟨by rfl, ?hya4⟩) (by assumption) ?ra4
    case hya4 => (intro w hSw; (try dsimp only at hSw); go_simp; try with_reducible rfl)
    try simp only [Act.put, qGa, qGb, qGc, qSa, qSb, qSc]
    refine tk (i := 5) (v := ?va5) rfl (by kernel_rfl) (fun _ _ _ h => h) (Or.inl ⟨by rfl, ?hya5⟩) (by assumption) ?ra5
    case hya5 => (intro w hSw; (try dsimp only at hSw); go_simp; try with_reducible rfl)
    try simp only [Act.put, qGa, qGb, qGc, qSa, qSb, qSc]
    refine wpAnyH_ready (rs := [6]) (by kernel_rfl) (by simp) ?_
    refine AllReadyH.cons rfl (fun Kb hKb => ?_) AllReadyH.nil
    go_simp
    refine (likeBook_any W7.heap.size W7.heap.size _ _ _ _ _ _ xs xs W0 (hiX.below hbW (Nat.le_refl _) (Nat.le_refl _)) (hiY.below hbW (Nat.le_refl _) (Nat.le_refl _))).mono ?_
    rintro e w8 ⟨rfl, hdr8⟩
    rw [decide_eq_true rfl]
    have hb8 : Below W0.heap.size W0 w8 := hdr8.below _
    have hE8 := hE0.below hb8 hE0.lt
    go_wp2_with fail
    refine hKb.out _ _ ⟨(hE8).cell 0, (hE8).cell 1, (hE8).cell 2, (hE8).cell 3⟩ (fun hHeld => ?_)
    clear hKb Kb
    try simp only [Act.put, qGa, qGb, qGc, qSa, qSb, qSc]
    refine tk (i := 7) (v := ?vc7) rfl (by kernel_rfl) (fun _ _ _ h => h) (Or.inl ⟨by rfl, ?hyc7⟩) (by assumption) ?rc7
    case hyc7 => (intro w hSw; (try dsimp only at hSw); go_simp; try with_reducible rfl)
    try simp only [Act.put, qGa, qGb, qGc, qSa, qSb, qSc]
    refine tk (i := 8) (v := ?vc8) rfl (by kernel_rfl) (fun _ _ _ h => h) (Or.inl ⟨by rfl, ?hyc8⟩) (by assumption) ?rc8
    case hyc8 => (intro w hSw; (try dsimp only at hSw); go_simp; try with_reducible rfl)
    try simp only [Act.put, qGa, qGb, qGc, qSa, qSb, qSc]
    refine tk (i := 9) (v := ?vc9) rfl (by kernel_rfl) (fun _ _ _ h => h) (Or.inl ⟨by rfl, ?hyc9⟩) (by assumption) ?rc9
    case hyc9 => (intro w hSw; (try dsimp only at hSw); go_simp; try with_reducible rfl)
    try simp only [Act.put, qGa, qGb, qGc, qSa, qSb, qSc]
    refine tk (i := 10) (v := ?vc10) rfl (by kernel_rfl) (fun _ _ _ h => h) (Or.inl ⟨by rfl, ?hyc10⟩) (by assumption) ?rc10
    case hyc10 => (intro w hSw; (try dsimp only at hSw); go_simp; try with_reducible rfl)
    try simp only [Act.put, qGa, qGb, qGc, qSa, qSb, qSc]
    refine tk (i := 12) (v := ?vc12) rfl (by kernel_rfl) (fun _ _ _ h => h) (Or.inl ⟨by rfl, ?hyc12⟩) (by assumption) ?rc12
    case hyc12 => (intro w hSw; (try dsimp only at hSw); go_simp; try with_reducible rfl)
    try simp only [Act.put, qGa, qGb, qGc, qSa, qSb, qSc]
    refine wpAnyH_ready (rs := [11]) (by kernel_rfl) (by simp) ?_
    refine AllReadyH.cons rfl (fun Kd hKd => ?_) AllReadyH.nil
    go_simp
    refine (HDI.out w8).mono ?_
    rintro e w9 ⟨rfl, hb9⟩
    have hE9 := hE8.below hb9 hE8.lt
    go_wp2_with fail
    refine hKd.out _ _ ⟨(hE9).cell 0, (hE9).cell 1, (hE9).cell 2, (hE9).cell 3⟩ (fun hHeld => ?_)
    clear hKd Kd
    try simp only [Act.put, qGa, qGb, qGc, qSa, qSb, qSc]
    refine wpAnyH_ready (rs := [13]) (by kernel_rfl) (by simp) ?_
    refine AllReadyH.cons rfl (fun Kf hKf => ?_) AllReadyH.nil
    go_simp
    refine (HDS.out w9).mono ?_
    rintro e wA ⟨rfl, hbA⟩
    have hEA := hE9.below hbA hE9.lt
    go_wp2_with fail
    refine hKf.out _ _ ⟨(hEA).cell 0, (hEA).cell 1, (hEA).cell 2, (hEA).cell 3⟩ (fun hHeld => ?_)
    clear hKf Kf
    try simp only [Act.put, qGa, qGb, qGc, qSa, qSb, qSc]
    refine tk (i := 14) (v := .bool false) rfl (by kernel_rfl) (fun _ _ _ h => h) (Or.inl ⟨by rfl, ?hyg14⟩) (by assumption) ?_
    case hyg14 => (intro w hSw; (try dsimp only at hSw); go_simp; try (simp))
    try simp only [Act.put, qGa, qGb, qGc, qSa, qSb, qSc]
    refine tk (i := 15) (v := ?vg15) rfl (by kernel_rfl) (fun _ _ _ h => h) (Or.inl ⟨by rfl, ?hyg15⟩) (by assumption) ?rg15
    case hyg15 => (intro w hSw; (try dsimp only at hSw); go_simp; try with_reducible rfl)
    try simp only [Act.put, qGa, qGb, qGc, qSa, qSb, qSc]
    refine wpAnyH_done (by kernel_rfl) ?_ _
    have hbWA := ((hbW.trans (hb8.mono hbW.size)).trans (hb9.mono (Nat.le_trans hbW.size hb8.size))).trans (hbA.mono (Nat.le_trans hbW.size (Nat.le_trans hb8.size hb9.size)))
    clear hE0 hE8 hE9 hEA hbW hb8 hdr8 hb9 hbA hEb
    have hiXA := hiX.below hbWA (Nat.le_refl _) hbWA.size
    have hiLA := hiL.below hbWA (Nat.le_refl _) hbWA.size
    have hDA := hD7.below hbWA hD7.lt
    have hb1A := hb17.trans (hbWA.mono hb17.size)
    clear hiX hiY hiL hD7 HDI HDS
    rcases HF.out with ⟨rfl, rfl⟩ | ⟨hc, rfl⟩ | ⟨rfl, hbk, hdk, hbx, hheld, hge⟩
    · clear HF
      go_wp2_with fail
      go_ret
      exact ⟨rfl, hb1A⟩
    · have hc3 : (code == 3) = false := by simpa using (show ¬ code = 3 by omega)
      have hc0 : (code != 0) = true := by simpa using (show ¬ code = 0 by omega)
      clear HF
      go_wp2_with fail
      refine (likeBook_any wA.heap.size wA.heap.size _ _ _ _ _ _ xs xs wA hiXA hiLA).mono ?_
      rintro e wB ⟨rfl, hdrB⟩
      rw [decide_eq_true rfl]
      go_wp2_with fail
      go_ret
      exact ⟨rfl, hb1A.trans ((hdrB.below _).mono hb1A.size)⟩
    · obtain ⟨hn3, hm6, hkk⟩ := deed_parts hdk
      have hS1 := specHeldBy_any wA.heap.size a2 es.length c2 es nd wA hiLA (Nat.le_refl _)
      rw [heldBy_yes hbk (by simp [inB]; omega)] at hS1
      have hI1 := fun w' (h : Below wA.heap.size wA w') => implHeldBy_any wA.heap.size ax xs.length cx xs nd w' (hiXA.below h (Nat.le_refl _) (Nat.le_refl _)) h.size
      rw [heldBy_yes hbx (by simp [inB]; omega), hheld nd] at hI1
      have hr1 := held_range hbk nd
      have HHELD := Lib.hid hheld; have HGE := Lib.hid hge; have HBK := Lib.hid hbk; have HBX := Lib.hid hbx; clear hheld hge hbk hbx HF hdk
      have hge1 := HGE.out
      generalize held es nd = hh at hS1 hI1 hr1 hge1
      have HI1 := Lib.hid hI1; clear hI1
      have d1 := hDA.cell 1
      go_wp2_with fail
      refine hS1.mono ?_
      rintro e wB ⟨rfl, hbB⟩
      have hDB := hDA.below hbB hDA.lt
      clear d1
      have d1 := hDB.cell 1
      go_wp2_with fail
      refine (HI1.out wB hbB).mono ?_
      rintro e wC ⟨rfl, hbC⟩
      have hbAC := hbB.trans (hbC.mono hbB.size)
      have hbWC := hbWA.trans (hbAC.mono hbWA.size)
      have hDC := hDB.below hbC hDB.lt
      have hiLC := hiLA.below hbAC (Nat.le_refl _) hbAC.size
      have hiXC := hiXA.below hbAC (Nat.le_refl _) hbAC.size
      clear d1 hS1 HI1
      have c0 := hDC.cell 0; have c3 := hDC.cell 3
      rcases hkk with ⟨rfl, rfl⟩ | ⟨rfl, rfl⟩ | ⟨rfl, ht, htn⟩
      · have hcon : contribD ⟨nd, slotOf 1 nd 0, m, 0⟩ nd = m := by simp [contribD, slotOf]
        rw [hcon]
        have ew : IntKind.i64.wrap (hh + m) = hh + m := by rw [IntKind.wrap_i64]; omega
        go_wp2_with fail
        go_ret
        exact ⟨by simp, hb17.trans (hbWC.mono hb17.size)⟩
      · have hcon : contribD ⟨nd, slotOf 3 nd 0, m, 0⟩ nd = -m := by
          have h4 : ¬ (4 : Int) = nd := by omega
          simp [contribD, slotOf, h4]
        rw [hcon]
        have hgem := hge1 (by omega)
        obtain ⟨nw, hnw⟩ : ∃ x, hh + -m = x := ⟨_, rfl⟩
        obtain rfl : nw = hh - m := by omega
        rw [hnw]
        have ew : IntKind.i64.wrap (hh - m) = hh - m := by rw [IntKind.wrap_i64]; omega
        have EW := Lib.hid ew; clear ew hnw
        go_upto_region 17 with fail
        clear c0 c3
        refine wp_region_held_drew (S := (fun w' => w'.cell? ⟨gd, 0, none⟩ = some (.int .i64 3) ∧ w'.cell? ⟨gd, 2, none⟩ = some (.int .i64 0) ∧ w'.cell? ⟨gd, 3, none⟩ = some (.int .i64 m))) (by kernel_rfl) ⟨(hDC.drewN 1).cell 0, (hDC.drewN 1).cell 2, (hDC.drewN 1).cell 3⟩ (fun hHeld => ?_)
        obtain ⟨W0, hW0⟩ : ∃ x, x = wC.drew := ⟨_, rfl⟩
        have hbW : Below wC.heap.size wC W0 := by rw [hW0]; exact (Below.refl _ _).drew
        rw [← hW0] at hHeld ⊢
        clear hW0
        have hD0 := hDC.below hbW hDC.lt
        refine tk (i := 0) (v := ?vk30) rfl (by kernel_rfl) (fun _ _ _ h => h) (Or.inl ⟨by rfl, ?hyk30⟩) (by assumption) ?rk30
        case hyk30 => (intro w hSw; (try dsimp only at hSw); go_simp; try with_reducible rfl)
        try simp only [Act.put, qGa, qGb, qGc, qSa, qSb, qSc]
        refine tk (i := 1) (v := ?vk31) rfl (by kernel_rfl) (fun _ _ _ h => h) (Or.inl ⟨by rfl, ?hyk31⟩) (by assumption) ?rk31
        case hyk31 => (intro w hSw; (try dsimp only at hSw); go_simp; try with_reducible rfl)
        try simp only [Act.put, qGa, qGb, qGc, qSa, qSb, qSc]
        refine tk (i := 2) (v := ?vk32) rfl (by kernel_rfl) (fun _ _ _ h => h) (Or.inl ⟨by rfl, ?hyk32⟩) (by assumption) ?rk32
        case hyk32 => (intro w hSw; (try dsimp only at hSw); go_simp; try with_reducible rfl)
        try simp only [Act.put, qGa, qGb, qGc, qSa, qSb, qSc]
        refine tk (i := 3) (v := ?vk33) rfl (by kernel_rfl) (fun _ _ _ h => h) (Or.inl ⟨by rfl, ?hyk33⟩) (by assumption) ?rk33
        case hyk33 => (intro w hSw; (try dsimp only at hSw); go_simp; try with_reducible rfl)
        try simp only [Act.put, qGa, qGb, qGc, qSa, qSb, qSc]
        refine tk (i := 4) (v := .int .i64 (hh - m)) rfl (by kernel_rfl) (fun _ _ _ h => h) (Or.inl ⟨by rfl, ?hyk34⟩) (by assumption) ?_
        case hyk34 => (intro w hSw; (try dsimp only at hSw); go_simp; try (try (rw [EW.out])))
        try simp only [Act.put, qGa, qGb, qGc, qSa, qSb, qSc]
        refine tk (i := 5) (v := .bool true) rfl (by kernel_rfl) (fun _ _ _ h => h) (Or.inl ⟨by rfl, ?hyk35⟩) (by assumption) ?_
        case hyk35 => (intro w hSw; (try dsimp only at hSw); go_simp; try (simp))
        try simp only [Act.put, qGa, qGb, qGc, qSa, qSb, qSc]
        refine tk (i := 6) (v := ?vk36) rfl (by kernel_rfl) (fun _ _ _ h => h) (Or.inl ⟨by rfl, ?hyk36⟩) (by assumption) ?rk36
        case hyk36 => (intro w hSw; (try dsimp only at hSw); go_simp; try with_reducible rfl)
        try simp only [Act.put, qGa, qGb, qGc, qSa, qSb, qSc]
        refine tk (i := 7) (v := ?vk37) rfl (by kernel_rfl) (fun _ _ _ h => h) (Or.inl ⟨by rfl, ?hyk37⟩) (by assumption) ?rk37
        case hyk37 => (intro w hSw; (try dsimp only at hSw); go_simp; try with_reducible rfl)
        try simp only [Act.put, qGa, qGb, qGc, qSa, qSb, qSc]
        refine tk (i := 8) (v := .bool true) rfl (by kernel_rfl) (fun _ _ _ h => h) (Or.inl ⟨by rfl, ?hyk38⟩) (by assumption) ?_
        case hyk38 => (intro w hSw; (try dsimp only at hSw); go_simp; try (simp; try omega))
        try simp only [Act.put, qGa, qGb, qGc, qSa, qSb, qSc]
        refine tk (i := 9) (v := ?vk39) rfl (by kernel_rfl) (fun _ _ _ h => h) (Or.inl ⟨by rfl, ?hyk39⟩) (by assumption) ?rk39
        case hyk39 => (intro w hSw; (try dsimp only at hSw); go_simp; try with_reducible rfl)
        try simp only [Act.put, qGa, qGb, qGc, qSa, qSb, qSc]
        refine tk (i := 10) (v := ?vk310) rfl (by kernel_rfl) (fun _ _ _ h => h) (Or.inl ⟨by rfl, ?hyk310⟩) (by assumption) ?rk310
        case hyk310 => (intro w hSw; (try dsimp only at hSw); go_simp; try with_reducible rfl)
        try simp only [Act.put, qGa, qGb, qGc, qSa, qSb, qSc]
        refine tk (i := 11) (v := ?vk311) rfl (by kernel_rfl) (fun _ _ _ h => h) (Or.inl ⟨by rfl, ?hyk311⟩) (by assumption) ?rk311
        case hyk311 => (intro w hSw; (try dsimp only at hSw); go_simp; try with_reducible rfl)
        try simp only [Act.put, qGa, qGb, qGc, qSa, qSb, qSc]
        refine tk (i := 12) (v := ?vk312) rfl (by kernel_rfl) (fun _ _ _ h => h) (Or.inl ⟨by rfl, ?hyk312⟩) (by assumption) ?rk312
        case hyk312 => (intro w hSw; (try dsimp only at hSw); go_simp; try with_reducible rfl)
        try simp only [Act.put, qGa, qGb, qGc, qSa, qSb, qSc]
        refine tk (i := 13) (v := .bool true) rfl (by kernel_rfl) (fun _ _ _ h => h) (Or.inl ⟨by rfl, ?hyk313⟩) (by assumption) ?_
        case hyk313 => (intro w hSw; (try dsimp only at hSw); go_simp; try (simp))
        try simp only [Act.put, qGa, qGb, qGc, qSa, qSb, qSc]
        refine tk (i := 14) (v := ?vk314) rfl (by kernel_rfl) (fun _ _ _ h => h) (Or.inl ⟨by rfl, ?hyk314⟩) (by assumption) ?rk314
        case hyk314 => (intro w hSw; (try dsimp only at hSw); go_simp; try with_reducible rfl)
        try simp only [Act.put, qGa, qGb, qGc, qSa, qSb, qSc]
        refine tk (i := 15) (v := undef) rfl (by kernel_rfl) (fun _ _ _ h => h) (Or.inr ⟨by rfl, rfl⟩) (by assumption) ?_
        try simp only [Act.put, qGa, qGb, qGc, qSa, qSb, qSc]
        refine tk (i := 16) (v := undef) rfl (by kernel_rfl) (fun _ _ _ h => h) (Or.inr ⟨by rfl, rfl⟩) (by assumption) ?_
        try simp only [Act.put, qGa, qGb, qGc, qSa, qSb, qSc]
        refine tk (i := 17) (v := undef) rfl (by kernel_rfl) (fun _ _ _ h => h) (Or.inr ⟨by rfl, rfl⟩) (by assumption) ?_
        try simp only [Act.put, qGa, qGb, qGc, qSa, qSb, qSc]
        refine tk (i := 18) (v := undef) rfl (by kernel_rfl) (fun _ _ _ h => h) (Or.inr ⟨by rfl, rfl⟩) (by assumption) ?_
        try simp only [Act.put, qGa, qGb, qGc, qSa, qSb, qSc]
        refine tk (i := 19) (v := undef) rfl (by kernel_rfl) (fun _ _ _ h => h) (Or.inr ⟨by rfl, rfl⟩) (by assumption) ?_
        try simp only [Act.put, qGa, qGb, qGc, qSa, qSb, qSc]
        refine tk (i := 20) (v := undef) rfl (by kernel_rfl) (fun _ _ _ h => h) (Or.inr ⟨by rfl, rfl⟩) (by assumption) ?_
        try simp only [Act.put, qGa, qGb, qGc, qSa, qSb, qSc]
        refine tk (i := 21) (v := undef) rfl (by kernel_rfl) (fun _ _ _ h => h) (Or.inr ⟨by rfl, rfl⟩) (by assumption) ?_
        try simp only [Act.put, qGa, qGb, qGc, qSa, qSb, qSc]
        refine tk (i := 22) (v := undef) rfl (by kernel_rfl) (fun _ _ _ h => h) (Or.inr ⟨by rfl, rfl⟩) (by assumption) ?_
        try simp only [Act.put, qGa, qGb, qGc, qSa, qSb, qSc]
        refine tk (i := 23) (v := undef) rfl (by kernel_rfl) (fun _ _ _ h => h) (Or.inr ⟨by rfl, rfl⟩) (by assumption) ?_
        try simp only [Act.put, qGa, qGb, qGc, qSa, qSb, qSc]
        refine tk (i := 24) (v := undef) rfl (by kernel_rfl) (fun _ _ _ h => h) (Or.inr ⟨by rfl, rfl⟩) (by assumption) ?_
        try simp only [Act.put, qGa, qGb, qGc, qSa, qSb, qSc]
        refine tk (i := 25) (v := undef) rfl (by kernel_rfl) (fun _ _ _ h => h) (Or.inr ⟨by rfl, rfl⟩) (by assumption) ?_
        try simp only [Act.put, qGa, qGb, qGc, qSa, qSb, qSc]
        refine tk (i := 26) (v := undef) rfl (by kernel_rfl) (fun _ _ _ h => h) (Or.inr ⟨by rfl, rfl⟩) (by assumption) ?_
        try simp only [Act.put, qGa, qGb, qGc, qSa, qSb, qSc]
        refine tk (i := 27) (v := ?vk327) rfl (by kernel_rfl) (fun _ _ _ h => h) (Or.inl ⟨by rfl, ?hyk327⟩) (by assumption) ?rk327
        case hyk327 => (intro w hSw; (try dsimp only at hSw); go_simp; try with_reducible rfl)
        try simp only [Act.put, qGa, qGb, qGc, qSa, qSb, qSc]
        refine tk (i := 28) (v := ?vk328) rfl (by kernel_rfl) (fun _ _ _ h => h) (Or.inl ⟨by rfl, ?hyk328⟩) (by assumption) ?rk328
        case hyk328 => (intro w hSw; (try dsimp only at hSw); go_simp; try with_reducible rfl)
        try simp only [Act.put, qGa, qGb, qGc, qSa, qSb, qSc]
        refine tk (i := 29) (v := ?vk329) rfl (by kernel_rfl) (fun _ _ _ h => h) (Or.inl ⟨by rfl, ?hyk329⟩) (by assumption) ?rk329
        case hyk329 => (intro w hSw; (try dsimp only at hSw); go_simp; try with_reducible rfl)
        try simp only [Act.put, qGa, qGb, qGc, qSa, qSb, qSc]
        refine wpAnyH_done (by kernel_rfl) ?_ _
        have hbF := hbWC.trans (hbW.mono hbWC.size)
        go_wp2_with fail
        go_ret
        exact ⟨rfl, hb17.trans (hbF.mono hb17.size)⟩
      · have hcon : contribD ⟨nd, slotOf 2 nd t, m, 0⟩ nd = -m := by
          simp [contribD, slotOf, htn]
        have hcon2 : contribD ⟨nd, slotOf 2 nd t, m, 0⟩ t = m := by
          simp [contribD, slotOf]
        rw [hcon]
        have hgem := hge1 (by omega)
        have hI2 := fun w' (h : Below wC.heap.size wC w') => implHeldBy_any wC.heap.size ax xs.length cx xs t w' (hiXC.below h (Nat.le_refl _) (Nat.le_refl _)) h.size
        rw [heldBy_yes HBX.out (by simp [inB]; omega), HHELD.out t, hcon2] at hI2
        have hS2 := fun w' (h : Below wC.heap.size wC w') => specHeldBy_any wC.heap.size a2 es.length c2 es t w' (hiLC.below h (Nat.le_refl _) (Nat.le_refl _)) h.size
        rw [heldBy_yes HBK.out (by simp [inB]; omega)] at hS2
        have hr2 := held_range HBK.out t
        generalize held es t = h2 at hI2 hS2 hr2
        have HI2 := Lib.hid hI2; have HS2 := Lib.hid hS2; clear hI2 hS2
        have ew2 : IntKind.i64.wrap (h2 + m) = h2 + m := by rw [IntKind.wrap_i64]; omega
        have EW2 := Lib.hid ew2; clear ew2
        obtain ⟨nw, hnw⟩ : ∃ x, hh + -m = x := ⟨_, rfl⟩
        obtain rfl : nw = hh - m := by omega
        rw [hnw]
        have ew : IntKind.i64.wrap (hh - m) = hh - m := by rw [IntKind.wrap_i64]; omega
        have EW := Lib.hid ew; clear ew hnw
        go_upto_region 17 with fail
        clear c0 c3
        refine wp_region_held_drew (S := (fun w' => w'.cell? ⟨gd, 0, none⟩ = some (.int .i64 2) ∧ w'.cell? ⟨gd, 2, none⟩ = some (.int .i64 t) ∧ w'.cell? ⟨gd, 3, none⟩ = some (.int .i64 m))) (by kernel_rfl) ⟨(hDC.drewN 1).cell 0, (hDC.drewN 1).cell 2, (hDC.drewN 1).cell 3⟩ (fun hHeld => ?_)
        obtain ⟨W0, hW0⟩ : ∃ x, x = wC.drew := ⟨_, rfl⟩
        have hbW : Below wC.heap.size wC W0 := by rw [hW0]; exact (Below.refl _ _).drew
        rw [← hW0] at hHeld ⊢
        clear hW0
        have hD0 := hDC.below hbW hDC.lt
        refine tk (i := 0) (v := ?vk20) rfl (by kernel_rfl) (fun _ _ _ h => h) (Or.inl ⟨by rfl, ?hyk20⟩) (by assumption) ?rk20
        case hyk20 => (intro w hSw; (try dsimp only at hSw); go_simp; try with_reducible rfl)
        try simp only [Act.put, qGa, qGb, qGc, qSa, qSb, qSc]
        refine tk (i := 1) (v := ?vk21) rfl (by kernel_rfl) (fun _ _ _ h => h) (Or.inl ⟨by rfl, ?hyk21⟩) (by assumption) ?rk21
        case hyk21 => (intro w hSw; (try dsimp only at hSw); go_simp; try with_reducible rfl)
        try simp only [Act.put, qGa, qGb, qGc, qSa, qSb, qSc]
        refine tk (i := 2) (v := ?vk22) rfl (by kernel_rfl) (fun _ _ _ h => h) (Or.inl ⟨by rfl, ?hyk22⟩) (by assumption) ?rk22
        case hyk22 => (intro w hSw; (try dsimp only at hSw); go_simp; try with_reducible rfl)
        try simp only [Act.put, qGa, qGb, qGc, qSa, qSb, qSc]
        refine tk (i := 3) (v := ?vk23) rfl (by kernel_rfl) (fun _ _ _ h => h) (Or.inl ⟨by rfl, ?hyk23⟩) (by assumption) ?rk23
        case hyk23 => (intro w hSw; (try dsimp only at hSw); go_simp; try with_reducible rfl)
        try simp only [Act.put, qGa, qGb, qGc, qSa, qSb, qSc]
        refine tk (i := 4) (v := .int .i64 (hh - m)) rfl (by kernel_rfl) (fun _ _ _ h => h) (Or.inl ⟨by rfl, ?hyk24⟩) (by assumption) ?_
        case hyk24 => (intro w hSw; (try dsimp only at hSw); go_simp; try (try (rw [EW.out])))
        try simp only [Act.put, qGa, qGb, qGc, qSa, qSb, qSc]
        refine tk (i := 5) (v := .bool true) rfl (by kernel_rfl) (fun _ _ _ h => h) (Or.inl ⟨by rfl, ?hyk25⟩) (by assumption) ?_
        case hyk25 => (intro w hSw; (try dsimp only at hSw); go_simp; try (simp))
        try simp only [Act.put, qGa, qGb, qGc, qSa, qSb, qSc]
        refine tk (i := 6) (v := ?vk26) rfl (by kernel_rfl) (fun _ _ _ h => h) (Or.inl ⟨by rfl, ?hyk26⟩) (by assumption) ?rk26
        case hyk26 => (intro w hSw; (try dsimp only at hSw); go_simp; try with_reducible rfl)
        try simp only [Act.put, qGa, qGb, qGc, qSa, qSb, qSc]
        refine tk (i := 7) (v := ?vk27) rfl (by kernel_rfl) (fun _ _ _ h => h) (Or.inl ⟨by rfl, ?hyk27⟩) (by assumption) ?rk27
        case hyk27 => (intro w hSw; (try dsimp only at hSw); go_simp; try with_reducible rfl)
        try simp only [Act.put, qGa, qGb, qGc, qSa, qSb, qSc]
        refine tk (i := 8) (v := .bool true) rfl (by kernel_rfl) (fun _ _ _ h => h) (Or.inl ⟨by rfl, ?hyk28⟩) (by assumption) ?_
        case hyk28 => (intro w hSw; (try dsimp only at hSw); go_simp; try (simp; try omega))
        try simp only [Act.put, qGa, qGb, qGc, qSa, qSb, qSc]
        refine tk (i := 9) (v := ?vk29) rfl (by kernel_rfl) (fun _ _ _ h => h) (Or.inl ⟨by rfl, ?hyk29⟩) (by assumption) ?rk29
        case hyk29 => (intro w hSw; (try dsimp only at hSw); go_simp; try with_reducible rfl)
        try simp only [Act.put, qGa, qGb, qGc, qSa, qSb, qSc]
        refine tk (i := 10) (v := ?vk210) rfl (by kernel_rfl) (fun _ _ _ h => h) (Or.inl ⟨by rfl, ?hyk210⟩) (by assumption) ?rk210
        case hyk210 => (intro w hSw; (try dsimp only at hSw); go_simp; try with_reducible rfl)
        try simp only [Act.put, qGa, qGb, qGc, qSa, qSb, qSc]
        refine tk (i := 11) (v := ?vk211) rfl (by kernel_rfl) (fun _ _ _ h => h) (Or.inl ⟨by rfl, ?hyk211⟩) (by assumption) ?rk211
        case hyk211 => (intro w hSw; (try dsimp only at hSw); go_simp; try with_reducible rfl)
        try simp only [Act.put, qGa, qGb, qGc, qSa, qSb, qSc]
        refine tk (i := 12) (v := ?vk212) rfl (by kernel_rfl) (fun _ _ _ h => h) (Or.inl ⟨by rfl, ?hyk212⟩) (by assumption) ?rk212
        case hyk212 => (intro w hSw; (try dsimp only at hSw); go_simp; try with_reducible rfl)
        try simp only [Act.put, qGa, qGb, qGc, qSa, qSb, qSc]
        refine tk (i := 13) (v := .bool false) rfl (by kernel_rfl) (fun _ _ _ h => h) (Or.inl ⟨by rfl, ?hyk213⟩) (by assumption) ?_
        case hyk213 => (intro w hSw; (try dsimp only at hSw); go_simp; try (simp))
        try simp only [Act.put, qGa, qGb, qGc, qSa, qSb, qSc]
        refine tk (i := 14) (v := ?vk214) rfl (by kernel_rfl) (fun _ _ _ h => h) (Or.inl ⟨by rfl, ?hyk214⟩) (by assumption) ?rk214
        case hyk214 => (intro w hSw; (try dsimp only at hSw); go_simp; try with_reducible rfl)
        try simp only [Act.put, qGa, qGb, qGc, qSa, qSb, qSc]
        refine tk (i := 15) (v := ?vk215) rfl (by kernel_rfl) (fun _ _ _ h => h) (Or.inl ⟨by rfl, ?hyk215⟩) (by assumption) ?rk215
        case hyk215 => (intro w hSw; (try dsimp only at hSw); go_simp; try with_reducible rfl)
        try simp only [Act.put, qGa, qGb, qGc, qSa, qSb, qSc]
        refine tk (i := 16) (v := ?vk216) rfl (by kernel_rfl) (fun _ _ _ h => h) (Or.inl ⟨by rfl, ?hyk216⟩) (by assumption) ?rk216
        case hyk216 => (intro w hSw; (try dsimp only at hSw); go_simp; try with_reducible rfl)
        try simp only [Act.put, qGa, qGb, qGc, qSa, qSb, qSc]
        refine tk (i := 17) (v := ?vk217) rfl (by kernel_rfl) (fun _ _ _ h => h) (Or.inl ⟨by rfl, ?hyk217⟩) (by assumption) ?rk217
        case hyk217 => (intro w hSw; (try dsimp only at hSw); go_simp; try with_reducible rfl)
        try simp only [Act.put, qGa, qGb, qGc, qSa, qSb, qSc]
        refine tk (i := 19) (v := ?vk219) rfl (by kernel_rfl) (fun _ _ _ h => h) (Or.inl ⟨by rfl, ?hyk219⟩) (by assumption) ?rk219
        case hyk219 => (intro w hSw; (try dsimp only at hSw); go_simp; try with_reducible rfl)
        try simp only [Act.put, qGa, qGb, qGc, qSa, qSb, qSc]
        refine tk (i := 20) (v := ?vk220) rfl (by kernel_rfl) (fun _ _ _ h => h) (Or.inl ⟨by rfl, ?hyk220⟩) (by assumption) ?rk220
        case hyk220 => (intro w hSw; (try dsimp only at hSw); go_simp; try with_reducible rfl)
        try simp only [Act.put, qGa, qGb, qGc, qSa, qSb, qSc]
        refine tk (i := 21) (v := ?vk221) rfl (by kernel_rfl) (fun _ _ _ h => h) (Or.inl ⟨by rfl, ?hyk221⟩) (by assumption) ?rk221
        case hyk221 => (intro w hSw; (try dsimp only at hSw); go_simp; try with_reducible rfl)
        try simp only [Act.put, qGa, qGb, qGc, qSa, qSb, qSc]
        refine tk (i := 23) (v := ?vk223) rfl (by kernel_rfl) (fun _ _ _ h => h) (Or.inl ⟨by rfl, ?hyk223⟩) (by assumption) ?rk223
        case hyk223 => (intro w hSw; (try dsimp only at hSw); go_simp; try with_reducible rfl)
        try simp only [Act.put, qGa, qGb, qGc, qSa, qSb, qSc]
        refine tk (i := 24) (v := ?vk224) rfl (by kernel_rfl) (fun _ _ _ h => h) (Or.inl ⟨by rfl, ?hyk224⟩) (by assumption) ?rk224
        case hyk224 => (intro w hSw; (try dsimp only at hSw); go_simp; try with_reducible rfl)
        try simp only [Act.put, qGa, qGb, qGc, qSa, qSb, qSc]
        refine wpAnyH_ready (rs := [18]) (by kernel_rfl) (by simp) ?_
        refine AllReadyH.cons rfl (fun Km hKm => ?_) AllReadyH.nil
        go_simp
        refine (HI2.out W0 hbW).mono ?_
        rintro e wD ⟨rfl, hbD⟩
        have hDD := hD0.below hbD hD0.lt
        have hbWD := hbW.trans (hbD.mono hbW.size)
        go_wp2_with fail
        refine hKm.out _ _ ⟨(hDD).cell 0, (hDD).cell 2, (hDD).cell 3⟩ (fun hHeld => ?_)
        clear hKm Km
        try simp only [Act.put, qGa, qGb, qGc, qSa, qSb, qSc]
        refine wpAnyH_ready (rs := [22]) (by kernel_rfl) (by simp) ?_
        refine AllReadyH.cons rfl (fun Kn hKn => ?_) AllReadyH.nil
        go_simp
        refine (HS2.out wD hbWD).mono ?_
        rintro e wE ⟨rfl, hbE⟩
        have hDE := hDD.below hbE hDD.lt
        have hbWE := hbWD.trans (hbE.mono hbWD.size)
        go_wp2_with fail
        refine hKn.out _ _ ⟨(hDE).cell 0, (hDE).cell 2, (hDE).cell 3⟩ (fun hHeld => ?_)
        clear hKn Kn
        try simp only [Act.put, qGa, qGb, qGc, qSa, qSb, qSc]
        refine tk (i := 25) (v := .int .i64 (h2 + m)) rfl (by kernel_rfl) (fun _ _ _ h => h) (Or.inl ⟨by rfl, ?hyk225⟩) (by assumption) ?_
        case hyk225 => (intro w hSw; (try dsimp only at hSw); go_simp; try (try (rw [EW2.out])))
        try simp only [Act.put, qGa, qGb, qGc, qSa, qSb, qSc]
        refine tk (i := 26) (v := .bool true) rfl (by kernel_rfl) (fun _ _ _ h => h) (Or.inl ⟨by rfl, ?hyk226⟩) (by assumption) ?_
        case hyk226 => (intro w hSw; (try dsimp only at hSw); go_simp; try (simp))
        try simp only [Act.put, qGa, qGb, qGc, qSa, qSb, qSc]
        refine tk (i := 27) (v := ?vk227) rfl (by kernel_rfl) (fun _ _ _ h => h) (Or.inl ⟨by rfl, ?hyk227⟩) (by assumption) ?rk227
        case hyk227 => (intro w hSw; (try dsimp only at hSw); go_simp; try with_reducible rfl)
        try simp only [Act.put, qGa, qGb, qGc, qSa, qSb, qSc]
        refine tk (i := 28) (v := ?vk228) rfl (by kernel_rfl) (fun _ _ _ h => h) (Or.inl ⟨by rfl, ?hyk228⟩) (by assumption) ?rk228
        case hyk228 => (intro w hSw; (try dsimp only at hSw); go_simp; try with_reducible rfl)
        try simp only [Act.put, qGa, qGb, qGc, qSa, qSb, qSc]
        refine tk (i := 29) (v := ?vk229) rfl (by kernel_rfl) (fun _ _ _ h => h) (Or.inl ⟨by rfl, ?hyk229⟩) (by assumption) ?rk229
        case hyk229 => (intro w hSw; (try dsimp only at hSw); go_simp; try with_reducible rfl)
        try simp only [Act.put, qGa, qGb, qGc, qSa, qSb, qSc]
        refine wpAnyH_done (by kernel_rfl) ?_ _
        have hbF := hbWC.trans (hbWE.mono hbWC.size)
        go_wp2_with fail
        go_ret
        exact ⟨rfl, hb17.trans (hbF.mono hb17.size)⟩
end Go.Proofs.YtccoljbnddfmpaaGreatDoor
