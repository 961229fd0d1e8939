/- Texts of this claim, put together. -/
import Derived.Test.YtoniahfdjhhalaaGreatP1
import Derived.Test.YtoniahfdjhhalaaGreatP2
import Derived.Deep.DeepCutAuto
import Derived.Deep.RegionHeld3

namespace Go.Proofs.YtoniahfdjhhalaaGreat
open Go.RowKit
def DeedNear (B g : Nat) (w : World) (e : Ending) (w' : World) : Prop := ∃ k n t m : Int, e = .returned (.agg #[.int .i64 k, .int .i64 n, .int .i64 t, .int .i64 m]) ∧ (1 ≤ k ∧ k ≤ 3) ∧ (0 ≤ n ∧ n ≤ 2) ∧ (0 ≤ t ∧ t ≤ 2) ∧ (1 ≤ m ∧ m ≤ 60) ∧ Keeps g w w' ∧ Dice B g w'
theorem lit5 (r : Nat) (h : r < 5) : (#[.int .i64 1, .int .i64 1, .int .i64 2, .int .i64 2, .int .i64 3] : Array Value)[r]? = some (.int .i64 (([1, 1, 2, 2, 3] : List Int).getD r 0)) := by
  match r, h with
  | 0, _ => rfl
  | 1, _ => rfl
  | 2, _ => rfl
  | 3, _ => rfl
  | 4, _ => rfl
set_option linter.unusedSimpArgs false in
set_option maxHeartbeats 10000000 in
set_option maxRecDepth 100000 in
theorem l8Draw_any (B g : Nat) (w : World) (hd : Dice B g w) :
    Calls Tryz.prog 64 #[.pointer (some ⟨g, 0, none⟩)] w (DeedNear B g w) := by
  have hg := hd.hg
  go_enter Tryz.func64, Tryz.ntmps64
  obtain ⟨wa, hwa⟩ : ∃ wa, wa = w.alloc (.cells #[.int .i64 0, .int .i64 0, .int .i64 0, .int .i64 0] 60) := ⟨_, rfl⟩
  have hA := Blk.new w 60 #[.int .i64 0, .int .i64 0, .int .i64 0, .int .i64 0]
  have hda := hd.alloc (.cells #[.int .i64 0, .int .i64 0, .int .i64 0, .int .i64 0] 60)
  have hka := Keeps.alloc g w (.cells #[.int .i64 0, .int .i64 0, .int .i64 0, .int .i64 0] 60)
  go_upto_region 1 with fail
  rw [← hwa] at hA hda hka ⊢
  obtain ⟨gr, hgr⟩ : ∃ gr, gr = w.heap.size := ⟨_, rfl⟩
  rw [← hgr] at hA ⊢
  have hsa := hA.lt
  have hgl : w.heap.size ≤ gr := Nat.le_of_eq hgr.symm
  have hsw : w.heap.size ≤ wa.heap.size := hka.size
  clear hwa hgr
  go_cut [3] (fun s3 wx => ∃ (ga : Nat) (y n m : Int), s3 = .pointer (some ⟨ga, 0, none⟩) ∧ Blk wx ga 60 #[.int .i64 y, .int .i64 n, .int .i64 0, .int .i64 m] ∧ wa.heap.size ≤ ga ∧ (1 ≤ y ∧ y ≤ 3) ∧ (0 ≤ n ∧ n ≤ 2) ∧ (1 ≤ m ∧ m ≤ 60) ∧ Keeps g wa wx ∧ Dice B g wx)
  case first =>
    refine wp_region_held_drew (S := fun _ => True) (by kernel_rfl) trivial (fun hHeld => ?_)
    obtain ⟨W0, hW0⟩ : ∃ x, x = wa.drew := ⟨_, rfl⟩
    have hbW : Below wa.heap.size wa W0 := by rw [hW0]; exact (Below.refl _ _).drew
    have hdW : Dice B g W0 := hda.below hbW
    have hkW : Keeps g wa W0 := Keeps.of_below hbW
    rw [← hW0]
    clear hW0 hbW
    refine tk (i := 1) (v := ?vi1) rfl (by kernel_rfl) (fun _ _ _ h => h) (Or.inl ⟨by rfl, ?hyi1⟩) (by assumption) ?ri1
    case hyi1 => (intro w hSw; (try dsimp only at hSw); go_simp; try with_reducible rfl)
    try simp only [Act.put, qGa, qGb, qGc, qSa, qSb, qSc]
    refine tk (i := 5) (v := ?vi5) rfl (by kernel_rfl) (fun _ _ _ h => h) (Or.inl ⟨by rfl, ?hyi5⟩) (by assumption) ?ri5
    case hyi5 => (intro w hSw; (try dsimp only at hSw); go_simp; try with_reducible rfl)
    try simp only [Act.put, qGa, qGb, qGc, qSa, qSb, qSc]
    refine tk (i := 7) (v := ?vi7) rfl (by kernel_rfl) (fun _ _ _ h => h) (Or.inl ⟨by rfl, ?hyi7⟩) (by assumption) ?ri7
    case hyi7 => (intro w hSw; (try dsimp only at hSw); go_simp; try with_reducible rfl)
    try simp only [Act.put, qGa, qGb, qGc, qSa, qSb, qSc]
    generalize hG : wpAnyH _ _ _ _ _ = G
    have HG := Lib.hid hG
    clear hG
    change G 10 #[false, true, false, false, false, true, false, true, false, false, false, false, false] { tmps := #[.pointer (some ⟨g, 0, none⟩), undef, .pointer (some ⟨gr, 0, none⟩), undef, undef, .pointer (some ⟨g, 0, none⟩), undef, undef, undef, .pointer (some ⟨g, 0, none⟩), undef, .pointer (some ⟨g, 0, none⟩), undef, undef, undef, undef, undef, undef, undef, undef, undef, undef, undef, undef, undef, undef, undef], defers := [] } W0
    revert hdW hkW
    revert W0
    have H_0_2_4_6_8_11 : ∀ (w1 : World) (L : Nat) (r1 : Nat) (y : Int) (r2 : Nat) (r3 : Nat) (A : Nat), Dice B g w1 → Keeps g wa w1 → Blk w1 L 2 #[.int .i64 1, .int .i64 1, .int .i64 2, .int .i64 2, .int .i64 3] → wa.heap.size ≤ L → (r1 : Int) < 5 → 1 ≤ y ∧ y ≤ 3 → (r2 : Int) < 3 → (r3 : Int) < 60 → Blk w1 A 60 #[.int .i64 0, .int .i64 0, .int .i64 0, .int .i64 0] → wa.heap.size ≤ A → G 1 #[true, true, true, true, true, true, true, true, true, true, true, true, false] { tmps := #[.pointer (some ⟨g, 0, none⟩), undef, .pointer (some ⟨gr, 0, none⟩), .pointer (some ⟨A, 0, none⟩), .slice (some ⟨L, 0, none⟩) 5 5, .pointer (some ⟨g, 0, none⟩), .int .i64 r1, .pointer (some ⟨L, r1, none⟩), .int .i64 y, .pointer (some ⟨g, 0, none⟩), .int .i64 r2, .pointer (some ⟨g, 0, none⟩), .int .i64 r3, .int .i64 (1 + r3), .agg #[.int .i64 y, .int .i64 r2, .int .i64 0, .int .i64 (1 + r3)], undef, undef, undef, undef, undef, undef, undef, undef, undef, undef, undef, undef], defers := [] } w1 := by
      intro w1 L r1 y r2 r3 A hd hk hL hLb hr1 hy hr2 hr3 hA hAb
      rw [← HG.out]
      have z0 := hA.cell 0; have z1 := hA.cell 1; have z2 := hA.cell 2; have z3 := hA.cell 3
      have f0 := hA.frozen 0; have f1 := hA.frozen 1; have f2 := hA.frozen 2; have f3 := hA.frozen 3
      refine wpAnyH_ready (rs := [12]) (by kernel_rfl) (by simp) ?_
      refine AllReadyH.cons rfl (fun KS hKS => ?_) AllReadyH.nil
      have hE := Blk.set4 hA (.int .i64 y) (.int .i64 r2) (.int .i64 0) (.int .i64 (1 + r3))
      have hst := stored4 hda.hg hAb hk hd (.int .i64 y) (.int .i64 r2) (.int .i64 0) (.int .i64 (1 + r3))
      go_simp
      refine hKS.out _ _ trivial (fun hHeld => ?_)
      clear hKS KS
      try simp only [Act.put, qGa, qGb, qGc, qSa, qSb, qSc]
      refine wpAnyH_done (by kernel_rfl) ?_ _
      go_wp2_with fail
      go_meet
      exact ⟨_, _, _, _, rfl, hE, hAb, hy, by omega, by omega, hst.1, hst.2⟩
    have H_0_2_4_6_8 : ∀ (w1 : World) (L : Nat) (r1 : Nat) (y : Int) (r2 : Nat) (r3 : Nat), Dice B g w1 → Keeps g wa w1 → Blk w1 L 2 #[.int .i64 1, .int .i64 1, .int .i64 2, .int .i64 2, .int .i64 3] → wa.heap.size ≤ L → (r1 : Int) < 5 → 1 ≤ y ∧ y ≤ 3 → (r2 : Int) < 3 → (r3 : Int) < 60 → G 2 #[true, true, true, true, true, true, true, true, true, true, true, false, false] { tmps := #[.pointer (some ⟨g, 0, none⟩), undef, .pointer (some ⟨gr, 0, none⟩), undef, .slice (some ⟨L, 0, none⟩) 5 5, .pointer (some ⟨g, 0, none⟩), .int .i64 r1, .pointer (some ⟨L, r1, none⟩), .int .i64 y, .pointer (some ⟨g, 0, none⟩), .int .i64 r2, .pointer (some ⟨g, 0, none⟩), .int .i64 r3, .int .i64 (1 + r3), .agg #[.int .i64 y, .int .i64 r2, .int .i64 0, .int .i64 (1 + r3)], undef, undef, undef, undef, undef, undef, undef, undef, undef, undef, undef, undef], defers := [] } w1 := by
      intro w1 L r1 y r2 r3 hd hk hL hLb hr1 hy hr2 hr3
      rw [← HG.out]
      refine wpAnyH_ready (rs := [11]) (by kernel_rfl) (by simp) ?_
      refine AllReadyH.cons rfl (fun K11 hK11 => ?_) AllReadyH.nil
      · obtain ⟨w2, hW⟩ : ∃ x, x = w1.alloc (.cells #[.int .i64 0, .int .i64 0, .int .i64 0, .int .i64 0] 60) := ⟨_, rfl⟩
        obtain ⟨A, hg2⟩ : ∃ x, x = w1.heap.size := ⟨_, rfl⟩
        have hA2 : Blk w2 A 60 #[.int .i64 0, .int .i64 0, .int .i64 0, .int .i64 0] := by rw [hW, hg2]; exact Blk.new _ _ _
        have hd2 : Dice B g w2 := by rw [hW]; exact hd.alloc _
        have hk2 : Keeps g wa w2 := by rw [hW]; exact hk.trans (Keeps.alloc _ _ _)
        have hAb2 : wa.heap.size ≤ A := by rw [hg2]; exact hk.size
        have hL2 : Blk w2 L 2 #[.int .i64 1, .int .i64 1, .int .i64 2, .int .i64 2, .int .i64 3] := by rw [hW]; exact hL.alloc _
        go_simp
        rw [← hW, ← hg2]
        refine hK11.out _ _ trivial (fun hHeld => ?_)
        clear hK11 K11 hW hg2
        try simp only [Act.put, qGa, qGb, qGc, qSa, qSb, qSc]
        rw [HG.out]
        exact H_0_2_4_6_8_11 _ L r1 y r2 r3 A hd2 hk2 hL2 hLb hr1 hy hr2 hr3 hA2 hAb2
    have H_0_2_4_6_11 : ∀ (w1 : World) (L : Nat) (r1 : Nat) (y : Int) (r2 : Nat) (A : Nat), Dice B g w1 → Keeps g wa w1 → Blk w1 L 2 #[.int .i64 1, .int .i64 1, .int .i64 2, .int .i64 2, .int .i64 3] → wa.heap.size ≤ L → (r1 : Int) < 5 → 1 ≤ y ∧ y ≤ 3 → (r2 : Int) < 3 → Blk w1 A 60 #[.int .i64 0, .int .i64 0, .int .i64 0, .int .i64 0] → wa.heap.size ≤ A → G 4 #[true, true, true, true, true, true, true, true, false, false, false, true, false] { tmps := #[.pointer (some ⟨g, 0, none⟩), undef, .pointer (some ⟨gr, 0, none⟩), .pointer (some ⟨A, 0, none⟩), .slice (some ⟨L, 0, none⟩) 5 5, .pointer (some ⟨g, 0, none⟩), .int .i64 r1, .pointer (some ⟨L, r1, none⟩), .int .i64 y, .pointer (some ⟨g, 0, none⟩), .int .i64 r2, .pointer (some ⟨g, 0, none⟩), undef, undef, undef, undef, undef, undef, undef, undef, undef, undef, undef, undef, undef, undef, undef], defers := [] } w1 := by
      intro w1 L r1 y r2 A hd hk hL hLb hr1 hy hr2 hA hAb
      rw [← HG.out]
      refine wpAnyH_ready (rs := [8]) (by kernel_rfl) (by simp) ?_
      refine AllReadyH.cons rfl (fun K8 hK8 => ?_) AllReadyH.nil
      · go_simp
        refine (l1Below_any B g 60 _ hd ⟨by decide, by decide⟩).mono ?_
        rintro e w2 ⟨r3, rfl, hr30, -, ho, hd2⟩
        have hr3 : (r3 : Int) < 60 := hr30 (by omega)
        have hnr3 : (0 : Int) ≤ r3 := by omega
        have hk2 := hk.trans ho.keeps
        have hL2 := hL.keeps ho.keeps (by have := hda.hg; omega)
        have hA2 := hA.keeps ho.keeps (by have := hda.hg; omega)
        clear ho
        go_wp2_with fail
        refine hK8.out _ _ trivial (fun hHeld => ?_)
        clear hK8 K8
        try simp only [Act.put, qGa, qGb, qGc, qSa, qSb, qSc]
        have hw3 : IntKind.i64.wrap (1 + (r3 : Int)) = 1 + r3 := by rw [IntKind.wrap_i64]; omega
        refine tk (i := 9) (v := ?vq2_89) rfl (by kernel_rfl) (fun _ _ _ h => h) (Or.inl ⟨by rfl, ?hyq2_89⟩) (by assumption) ?rq2_89
        case hyq2_89 => (intro w hSw; (try dsimp only at hSw); go_simp; try with_reducible rfl)
        try simp only [Act.put, qGa, qGb, qGc, qSa, qSb, qSc]
        refine tk (i := 10) (v := ?vq2_810) rfl (by kernel_rfl) (fun _ _ _ h => h) (Or.inl ⟨by rfl, ?hyq2_810⟩) (by assumption) ?rq2_810
        case hyq2_810 => (intro w hSw; (try dsimp only at hSw); go_simp; try with_reducible rfl)
        try simp only [Act.put, qGa, qGb, qGc, qSa, qSb, qSc]
        rw [HG.out]
        exact H_0_2_4_6_8_11 _ L r1 y r2 r3 A hd2 hk2 hL2 hLb hr1 hy hr2 hr3 hA2 hAb
    have H_0_2_6_8_11 : ∀ (w1 : World) (L : Nat) (r1 : Nat) (r2 : Nat) (r3 : Nat) (A : Nat), Dice B g w1 → Keeps g wa w1 → Blk w1 L 2 #[.int .i64 1, .int .i64 1, .int .i64 2, .int .i64 2, .int .i64 3] → wa.heap.size ≤ L → (r1 : Int) < 5 → (r2 : Int) < 3 → (r3 : Int) < 60 → Blk w1 A 60 #[.int .i64 0, .int .i64 0, .int .i64 0, .int .i64 0] → wa.heap.size ≤ A → G 3 #[true, true, true, true, false, true, true, true, true, true, false, true, false] { tmps := #[.pointer (some ⟨g, 0, none⟩), undef, .pointer (some ⟨gr, 0, none⟩), .pointer (some ⟨A, 0, none⟩), .slice (some ⟨L, 0, none⟩) 5 5, .pointer (some ⟨g, 0, none⟩), .int .i64 r1, .pointer (some ⟨L, r1, none⟩), undef, .pointer (some ⟨g, 0, none⟩), .int .i64 r2, .pointer (some ⟨g, 0, none⟩), .int .i64 r3, .int .i64 (1 + r3), undef, undef, undef, undef, undef, undef, undef, undef, undef, undef, undef, undef, undef], defers := [] } w1 := by
      intro w1 L r1 r2 r3 A hd hk hL hLb hr1 hr2 hr3 hA hAb
      rw [← HG.out]
      refine wpAnyH_ready (rs := [4]) (by kernel_rfl) (by simp) ?_
      refine AllReadyH.cons rfl (fun K4 hK4 => ?_) AllReadyH.nil
      · have q4 : w1.cell? ⟨L, r1, none⟩ = some (.int .i64 (([1, 1, 2, 2, 3] : List Int).getD r1 0)) := by rw [hL.cell r1]; exact lit5 r1 (by omega)
        have hy : (1 ≤ ([1, 1, 2, 2, 3] : List Int).getD r1 0 ∧ ([1, 1, 2, 2, 3] : List Int).getD r1 0 ≤ 3) := all_getD (P := fun x => 1 ≤ x ∧ x ≤ 3) (fun x hx => by simp at hx; omega) (by simp; omega)
        generalize ([1, 1, 2, 2, 3] : List Int).getD r1 0 = y at q4 hy
        go_simp
        refine hK4.out _ _ trivial (fun hHeld => ?_)
        clear hK4 K4 q4
        try simp only [Act.put, qGa, qGb, qGc, qSa, qSb, qSc]
        refine tk (i := 10) (v := ?vq3_410) rfl (by kernel_rfl) (fun _ _ _ h => h) (Or.inl ⟨by rfl, ?hyq3_410⟩) (by assumption) ?rq3_410
        case hyq3_410 => (intro w hSw; (try dsimp only at hSw); go_simp; try with_reducible rfl)
        try simp only [Act.put, qGa, qGb, qGc, qSa, qSb, qSc]
        rw [HG.out]
        exact H_0_2_4_6_8_11 _ L r1 y r2 r3 A hd hk hL hLb hr1 hy hr2 hr3 hA hAb
    have H_0_2_4_6 : ∀ (w1 : World) (L : Nat) (r1 : Nat) (y : Int) (r2 : Nat), Dice B g w1 → Keeps g wa w1 → Blk w1 L 2 #[.int .i64 1, .int .i64 1, .int .i64 2, .int .i64 2, .int .i64 3] → wa.heap.size ≤ L → (r1 : Int) < 5 → 1 ≤ y ∧ y ≤ 3 → (r2 : Int) < 3 → G 5 #[true, true, true, true, true, true, true, true, false, false, false, false, false] { tmps := #[.pointer (some ⟨g, 0, none⟩), undef, .pointer (some ⟨gr, 0, none⟩), undef, .slice (some ⟨L, 0, none⟩) 5 5, .pointer (some ⟨g, 0, none⟩), .int .i64 r1, .pointer (some ⟨L, r1, none⟩), .int .i64 y, .pointer (some ⟨g, 0, none⟩), .int .i64 r2, .pointer (some ⟨g, 0, none⟩), undef, undef, undef, undef, undef, undef, undef, undef, undef, undef, undef, undef, undef, undef, undef], defers := [] } w1 := by
      intro w1 L r1 y r2 hd hk hL hLb hr1 hy hr2
      rw [← HG.out]
      refine wpAnyH_ready (rs := [8, 11]) (by kernel_rfl) (by simp) ?_
      refine AllReadyH.cons rfl (fun K8 hK8 => ?_) (AllReadyH.cons rfl (fun K11 hK11 => ?_) AllReadyH.nil)
      · go_simp
        refine (l1Below_any B g 60 _ hd ⟨by decide, by decide⟩).mono ?_
        rintro e w2 ⟨r3, rfl, hr30, -, ho, hd2⟩
        have hr3 : (r3 : Int) < 60 := hr30 (by omega)
        have hnr3 : (0 : Int) ≤ r3 := by omega
        have hk2 := hk.trans ho.keeps
        have hL2 := hL.keeps ho.keeps (by have := hda.hg; omega)
        clear ho
        go_wp2_with fail
        refine hK8.out _ _ trivial (fun hHeld => ?_)
        clear hK8 K8
        try simp only [Act.put, qGa, qGb, qGc, qSa, qSb, qSc]
        have hw3 : IntKind.i64.wrap (1 + (r3 : Int)) = 1 + r3 := by rw [IntKind.wrap_i64]; omega
        refine tk (i := 9) (v := ?vq4_89) rfl (by kernel_rfl) (fun _ _ _ h => h) (Or.inl ⟨by rfl, ?hyq4_89⟩) (by assumption) ?rq4_89
        case hyq4_89 => (intro w hSw; (try dsimp only at hSw); go_simp; try with_reducible rfl)
        try simp only [Act.put, qGa, qGb, qGc, qSa, qSb, qSc]
        refine tk (i := 10) (v := ?vq4_810) rfl (by kernel_rfl) (fun _ _ _ h => h) (Or.inl ⟨by rfl, ?hyq4_810⟩) (by assumption) ?rq4_810
        case hyq4_810 => (intro w hSw; (try dsimp only at hSw); go_simp; try with_reducible rfl)
        try simp only [Act.put, qGa, qGb, qGc, qSa, qSb, qSc]
        rw [HG.out]
        exact H_0_2_4_6_8 _ L r1 y r2 r3 hd2 hk2 hL2 hLb hr1 hy hr2 hr3
      · obtain ⟨w2, hW⟩ : ∃ x, x = w1.alloc (.cells #[.int .i64 0, .int .i64 0, .int .i64 0, .int .i64 0] 60) := ⟨_, rfl⟩
        obtain ⟨A, hg2⟩ : ∃ x, x = w1.heap.size := ⟨_, rfl⟩
        have hA2 : Blk w2 A 60 #[.int .i64 0, .int .i64 0, .int .i64 0, .int .i64 0] := by rw [hW, hg2]; exact Blk.new _ _ _
        have hd2 : Dice B g w2 := by rw [hW]; exact hd.alloc _
        have hk2 : Keeps g wa w2 := by rw [hW]; exact hk.trans (Keeps.alloc _ _ _)
        have hAb2 : wa.heap.size ≤ A := by rw [hg2]; exact hk.size
        have hL2 : Blk w2 L 2 #[.int .i64 1, .int .i64 1, .int .i64 2, .int .i64 2, .int .i64 3] := by rw [hW]; exact hL.alloc _
        go_simp
        rw [← hW, ← hg2]
        refine hK11.out _ _ trivial (fun hHeld => ?_)
        clear hK11 K11 hW hg2
        try simp only [Act.put, qGa, qGb, qGc, qSa, qSb, qSc]
        rw [HG.out]
        exact H_0_2_4_6_11 _ L r1 y r2 A hd2 hk2 hL2 hLb hr1 hy hr2 hA2 hAb2
    have H_0_2_4_11 : ∀ (w1 : World) (L : Nat) (r1 : Nat) (y : Int) (A : Nat), Dice B g w1 → Keeps g wa w1 → Blk w1 L 2 #[.int .i64 1, .int .i64 1, .int .i64 2, .int .i64 2, .int .i64 3] → wa.heap.size ≤ L → (r1 : Int) < 5 → 1 ≤ y ∧ y ≤ 3 → Blk w1 A 60 #[.int .i64 0, .int .i64 0, .int .i64 0, .int .i64 0] → wa.heap.size ≤ A → G 5 #[true, true, true, true, true, true, false, true, false, false, false, true, false] { tmps := #[.pointer (some ⟨g, 0, none⟩), undef, .pointer (some ⟨gr, 0, none⟩), .pointer (some ⟨A, 0, none⟩), .slice (some ⟨L, 0, none⟩) 5 5, .pointer (some ⟨g, 0, none⟩), .int .i64 r1, .pointer (some ⟨L, r1, none⟩), .int .i64 y, .pointer (some ⟨g, 0, none⟩), undef, .pointer (some ⟨g, 0, none⟩), undef, undef, undef, undef, undef, undef, undef, undef, undef, undef, undef, undef, undef, undef, undef], defers := [] } w1 := by
      intro w1 L r1 y A hd hk hL hLb hr1 hy hA hAb
      rw [← HG.out]
      refine wpAnyH_ready (rs := [6]) (by kernel_rfl) (by simp) ?_
      refine AllReadyH.cons rfl (fun K6 hK6 => ?_) AllReadyH.nil
      · go_simp
        refine (l1Below_any B g 3 _ hd ⟨by decide, by decide⟩).mono ?_
        rintro e w2 ⟨r2, rfl, hr20, -, ho, hd2⟩
        have hr2 : (r2 : Int) < 3 := hr20 (by omega)
        have hnr2 : (0 : Int) ≤ r2 := by omega
        have hk2 := hk.trans ho.keeps
        have hL2 := hL.keeps ho.keeps (by have := hda.hg; omega)
        have hA2 := hA.keeps ho.keeps (by have := hda.hg; omega)
        clear ho
        go_wp2_with fail
        refine hK6.out _ _ trivial (fun hHeld => ?_)
        clear hK6 K6
        try simp only [Act.put, qGa, qGb, qGc, qSa, qSb, qSc]
        rw [HG.out]
        exact H_0_2_4_6_11 _ L r1 y r2 A hd2 hk2 hL2 hLb hr1 hy hr2 hA2 hAb
    have H_0_2_6_8 : ∀ (w1 : World) (L : Nat) (r1 : Nat) (r2 : Nat) (r3 : Nat), Dice B g w1 → Keeps g wa w1 → Blk w1 L 2 #[.int .i64 1, .int .i64 1, .int .i64 2, .int .i64 2, .int .i64 3] → wa.heap.size ≤ L → (r1 : Int) < 5 → (r2 : Int) < 3 → (r3 : Int) < 60 → G 4 #[true, true, true, true, false, true, true, true, true, true, false, false, false] { tmps := #[.pointer (some ⟨g, 0, none⟩), undef, .pointer (some ⟨gr, 0, none⟩), undef, .slice (some ⟨L, 0, none⟩) 5 5, .pointer (some ⟨g, 0, none⟩), .int .i64 r1, .pointer (some ⟨L, r1, none⟩), undef, .pointer (some ⟨g, 0, none⟩), .int .i64 r2, .pointer (some ⟨g, 0, none⟩), .int .i64 r3, .int .i64 (1 + r3), undef, undef, undef, undef, undef, undef, undef, undef, undef, undef, undef, undef, undef], defers := [] } w1 := by
      intro w1 L r1 r2 r3 hd hk hL hLb hr1 hr2 hr3
      rw [← HG.out]
      refine wpAnyH_ready (rs := [4, 11]) (by kernel_rfl) (by simp) ?_
      refine AllReadyH.cons rfl (fun K4 hK4 => ?_) (AllReadyH.cons rfl (fun K11 hK11 => ?_) AllReadyH.nil)
      · have q4 : w1.cell? ⟨L, r1, none⟩ = some (.int .i64 (([1, 1, 2, 2, 3] : List Int).getD r1 0)) := by rw [hL.cell r1]; exact lit5 r1 (by omega)
        have hy : (1 ≤ ([1, 1, 2, 2, 3] : List Int).getD r1 0 ∧ ([1, 1, 2, 2, 3] : List Int).getD r1 0 ≤ 3) := all_getD (P := fun x => 1 ≤ x ∧ x ≤ 3) (fun x hx => by simp at hx; omega) (by simp; omega)
        generalize ([1, 1, 2, 2, 3] : List Int).getD r1 0 = y at q4 hy
        go_simp
        refine hK4.out _ _ trivial (fun hHeld => ?_)
        clear hK4 K4 q4
        try simp only [Act.put, qGa, qGb, qGc, qSa, qSb, qSc]
        refine tk (i := 10) (v := ?vq6_410) rfl (by kernel_rfl) (fun _ _ _ h => h) (Or.inl ⟨by rfl, ?hyq6_410⟩) (by assumption) ?rq6_410
        case hyq6_410 => (intro w hSw; (try dsimp only at hSw); go_simp; try with_reducible rfl)
        try simp only [Act.put, qGa, qGb, qGc, qSa, qSb, qSc]
        rw [HG.out]
        exact H_0_2_4_6_8 _ L r1 y r2 r3 hd hk hL hLb hr1 hy hr2 hr3
      · obtain ⟨w2, hW⟩ : ∃ x, x = w1.alloc (.cells #[.int .i64 0, .int .i64 0, .int .i64 0, .int .i64 0] 60) := ⟨_, rfl⟩
        obtain ⟨A, hg2⟩ : ∃ x, x = w1.heap.size := ⟨_, rfl⟩
        have hA2 : Blk w2 A 60 #[.int .i64 0, .int .i64 0, .int .i64 0, .int .i64 0] := by rw [hW, hg2]; exact Blk.new _ _ _
        have hd2 : Dice B g w2 := by rw [hW]; exact hd.alloc _
        have hk2 : Keeps g wa w2 := by rw [hW]; exact hk.trans (Keeps.alloc _ _ _)
        have hAb2 : wa.heap.size ≤ A := by rw [hg2]; exact hk.size
        have hL2 : Blk w2 L 2 #[.int .i64 1, .int .i64 1, .int .i64 2, .int .i64 2, .int .i64 3] := by rw [hW]; exact hL.alloc _
        go_simp
        rw [← hW, ← hg2]
        refine hK11.out _ _ trivial (fun hHeld => ?_)
        clear hK11 K11 hW hg2
        try simp only [Act.put, qGa, qGb, qGc, qSa, qSb, qSc]
        rw [HG.out]
        exact H_0_2_6_8_11 _ L r1 r2 r3 A hd2 hk2 hL2 hLb hr1 hr2 hr3 hA2 hAb2
    have H_0_2_6_11 : ∀ (w1 : World) (L : Nat) (r1 : Nat) (r2 : Nat) (A : Nat), Dice B g w1 → Keeps g wa w1 → Blk w1 L 2 #[.int .i64 1, .int .i64 1, .int .i64 2, .int .i64 2, .int .i64 3] → wa.heap.size ≤ L → (r1 : Int) < 5 → (r2 : Int) < 3 → Blk w1 A 60 #[.int .i64 0, .int .i64 0, .int .i64 0, .int .i64 0] → wa.heap.size ≤ A → G 5 #[true, true, true, true, false, true, true, true, false, false, false, true, false] { tmps := #[.pointer (some ⟨g, 0, none⟩), undef, .pointer (some ⟨gr, 0, none⟩), .pointer (some ⟨A, 0, none⟩), .slice (some ⟨L, 0, none⟩) 5 5, .pointer (some ⟨g, 0, none⟩), .int .i64 r1, .pointer (some ⟨L, r1, none⟩), undef, .pointer (some ⟨g, 0, none⟩), .int .i64 r2, .pointer (some ⟨g, 0, none⟩), undef, undef, undef, undef, undef, undef, undef, undef, undef, undef, undef, undef, undef, undef, undef], defers := [] } w1 := by
      intro w1 L r1 r2 A hd hk hL hLb hr1 hr2 hA hAb
      rw [← HG.out]
      refine wpAnyH_ready (rs := [4, 8]) (by kernel_rfl) (by simp) ?_
      refine AllReadyH.cons rfl (fun K4 hK4 => ?_) (AllReadyH.cons rfl (fun K8 hK8 => ?_) AllReadyH.nil)
      · have q4 : w1.cell? ⟨L, r1, none⟩ = some (.int .i64 (([1, 1, 2, 2, 3] : List Int).getD r1 0)) := by rw [hL.cell r1]; exact lit5 r1 (by omega)
        have hy : (1 ≤ ([1, 1, 2, 2, 3] : List Int).getD r1 0 ∧ ([1, 1, 2, 2, 3] : List Int).getD r1 0 ≤ 3) := all_getD (P := fun x => 1 ≤ x ∧ x ≤ 3) (fun x hx => by simp at hx; omega) (by simp; omega)
        generalize ([1, 1, 2, 2, 3] : List Int).getD r1 0 = y at q4 hy
        go_simp
        refine hK4.out _ _ trivial (fun hHeld => ?_)
        clear hK4 K4 q4
        try simp only [Act.put, qGa, qGb, qGc, qSa, qSb, qSc]
        rw [HG.out]
        exact H_0_2_4_6_11 _ L r1 y r2 A hd hk hL hLb hr1 hy hr2 hA hAb
      · go_simp
        refine (l1Below_any B g 60 _ hd ⟨by decide, by decide⟩).mono ?_
        rintro e w2 ⟨r3, rfl, hr30, -, ho, hd2⟩
        have hr3 : (r3 : Int) < 60 := hr30 (by omega)
        have hnr3 : (0 : Int) ≤ r3 := by omega
        have hk2 := hk.trans ho.keeps
        have hL2 := hL.keeps ho.keeps (by have := hda.hg; omega)
        have hA2 := hA.keeps ho.keeps (by have := hda.hg; omega)
        clear ho
        go_wp2_with fail
        refine hK8.out _ _ trivial (fun hHeld => ?_)
        clear hK8 K8
        try simp only [Act.put, qGa, qGb, qGc, qSa, qSb, qSc]
        have hw3 : IntKind.i64.wrap (1 + (r3 : Int)) = 1 + r3 := by rw [IntKind.wrap_i64]; omega
        refine tk (i := 9) (v := ?vq7_89) rfl (by kernel_rfl) (fun _ _ _ h => h) (Or.inl ⟨by rfl, ?hyq7_89⟩) (by assumption) ?rq7_89
        case hyq7_89 => (intro w hSw; (try dsimp only at hSw); go_simp; try with_reducible rfl)
        try simp only [Act.put, qGa, qGb, qGc, qSa, qSb, qSc]
        rw [HG.out]
        exact H_0_2_6_8_11 _ L r1 r2 r3 A hd2 hk2 hL2 hLb hr1 hr2 hr3 hA2 hAb
    have H_2_6_8_11 : ∀ (w1 : World) (r1 : Nat) (r2 : Nat) (r3 : Nat) (A : Nat), Dice B g w1 → Keeps g wa w1 → (r1 : Int) < 5 → (r2 : Int) < 3 → (r3 : Int) < 60 → Blk w1 A 60 #[.int .i64 0, .int .i64 0, .int .i64 0, .int .i64 0] → wa.heap.size ≤ A → G 5 #[false, true, true, false, false, true, true, true, true, true, false, true, false] { tmps := #[.pointer (some ⟨g, 0, none⟩), undef, .pointer (some ⟨gr, 0, none⟩), .pointer (some ⟨A, 0, none⟩), undef, .pointer (some ⟨g, 0, none⟩), .int .i64 r1, undef, undef, .pointer (some ⟨g, 0, none⟩), .int .i64 r2, .pointer (some ⟨g, 0, none⟩), .int .i64 r3, .int .i64 (1 + r3), undef, undef, undef, undef, undef, undef, undef, undef, undef, undef, undef, undef, undef], defers := [] } w1 := by
      intro w1 r1 r2 r3 A hd hk hr1 hr2 hr3 hA hAb
      rw [← HG.out]
      refine wpAnyH_ready (rs := [0]) (by kernel_rfl) (by simp) ?_
      refine AllReadyH.cons rfl (fun K0 hK0 => ?_) AllReadyH.nil
      · obtain ⟨w2, hW⟩ : ∃ x, x = w1.alloc (.cells #[.int .i64 1, .int .i64 1, .int .i64 2, .int .i64 2, .int .i64 3] 2) := ⟨_, rfl⟩
        obtain ⟨L, hg2⟩ : ∃ x, x = w1.heap.size := ⟨_, rfl⟩
        have hL2 : Blk w2 L 2 #[.int .i64 1, .int .i64 1, .int .i64 2, .int .i64 2, .int .i64 3] := by rw [hW, hg2]; exact Blk.new _ _ _
        have hd2 : Dice B g w2 := by rw [hW]; exact hd.alloc _
        have hk2 : Keeps g wa w2 := by rw [hW]; exact hk.trans (Keeps.alloc _ _ _)
        have hLb2 : wa.heap.size ≤ L := by rw [hg2]; exact hk.size
        have hA2 : Blk w2 A 60 #[.int .i64 0, .int .i64 0, .int .i64 0, .int .i64 0] := by rw [hW]; exact hA.alloc _
        go_simp
        rw [← hW, ← hg2]
        refine hK0.out _ _ trivial (fun hHeld => ?_)
        clear hK0 K0 hW hg2
        try simp only [Act.put, qGa, qGb, qGc, qSa, qSb, qSc]
        have hi0 : (0 : Int) ≤ r1 := by omega
        have hi5 : (r1 : Int) < 5 := hr1
        refine tk (i := 3) (v := ?vq8_03) rfl (by kernel_rfl) (fun _ _ _ h => h) (Or.inl ⟨by rfl, ?hyq8_03⟩) (by assumption) ?rq8_03
        case hyq8_03 => (intro w hSw; (try dsimp only at hSw); go_simp; try with_reducible rfl)
        try simp only [Act.put, qGa, qGb, qGc, qSa, qSb, qSc]
        rw [HG.out]
        exact H_0_2_6_8_11 _ L r1 r2 r3 A hd2 hk2 hL2 hLb2 hr1 hr2 hr3 hA2 hAb
    have H_0_2_4 : ∀ (w1 : World) (L : Nat) (r1 : Nat) (y : Int), Dice B g w1 → Keeps g wa w1 → Blk w1 L 2 #[.int .i64 1, .int .i64 1, .int .i64 2, .int .i64 2, .int .i64 3] → wa.heap.size ≤ L → (r1 : Int) < 5 → 1 ≤ y ∧ y ≤ 3 → G 6 #[true, true, true, true, true, true, false, true, false, false, false, false, false] { tmps := #[.pointer (some ⟨g, 0, none⟩), undef, .pointer (some ⟨gr, 0, none⟩), undef, .slice (some ⟨L, 0, none⟩) 5 5, .pointer (some ⟨g, 0, none⟩), .int .i64 r1, .pointer (some ⟨L, r1, none⟩), .int .i64 y, .pointer (some ⟨g, 0, none⟩), undef, .pointer (some ⟨g, 0, none⟩), undef, undef, undef, undef, undef, undef, undef, undef, undef, undef, undef, undef, undef, undef, undef], defers := [] } w1 := by
      intro w1 L r1 y hd hk hL hLb hr1 hy
      rw [← HG.out]
      refine wpAnyH_ready (rs := [6, 11]) (by kernel_rfl) (by simp) ?_
      refine AllReadyH.cons rfl (fun K6 hK6 => ?_) (AllReadyH.cons rfl (fun K11 hK11 => ?_) AllReadyH.nil)
      · go_simp
        refine (l1Below_any B g 3 _ hd ⟨by decide, by decide⟩).mono ?_
        rintro e w2 ⟨r2, rfl, hr20, -, ho, hd2⟩
        have hr2 : (r2 : Int) < 3 := hr20 (by omega)
        have hnr2 : (0 : Int) ≤ r2 := by omega
        have hk2 := hk.trans ho.keeps
        have hL2 := hL.keeps ho.keeps (by have := hda.hg; omega)
        clear ho
        go_wp2_with fail
        refine hK6.out _ _ trivial (fun hHeld => ?_)
        clear hK6 K6
        try simp only [Act.put, qGa, qGb, qGc, qSa, qSb, qSc]
        rw [HG.out]
        exact H_0_2_4_6 _ L r1 y r2 hd2 hk2 hL2 hLb hr1 hy hr2
      · obtain ⟨w2, hW⟩ : ∃ x, x = w1.alloc (.cells #[.int .i64 0, .int .i64 0, .int .i64 0, .int .i64 0] 60) := ⟨_, rfl⟩
        obtain ⟨A, hg2⟩ : ∃ x, x = w1.heap.size := ⟨_, rfl⟩
        have hA2 : Blk w2 A 60 #[.int .i64 0, .int .i64 0, .int .i64 0, .int .i64 0] := by rw [hW, hg2]; exact Blk.new _ _ _
        have hd2 : Dice B g w2 := by rw [hW]; exact hd.alloc _
        have hk2 : Keeps g wa w2 := by rw [hW]; exact hk.trans (Keeps.alloc _ _ _)
        have hAb2 : wa.heap.size ≤ A := by rw [hg2]; exact hk.size
        have hL2 : Blk w2 L 2 #[.int .i64 1, .int .i64 1, .int .i64 2, .int .i64 2, .int .i64 3] := by rw [hW]; exact hL.alloc _
        go_simp
        rw [← hW, ← hg2]
        refine hK11.out _ _ trivial (fun hHeld => ?_)
        clear hK11 K11 hW hg2
        try simp only [Act.put, qGa, qGb, qGc, qSa, qSb, qSc]
        rw [HG.out]
        exact H_0_2_4_11 _ L r1 y A hd2 hk2 hL2 hLb hr1 hy hA2 hAb2
    have H_0_2_6 : ∀ (w1 : World) (L : Nat) (r1 : Nat) (r2 : Nat), Dice B g w1 → Keeps g wa w1 → Blk w1 L 2 #[.int .i64 1, .int .i64 1, .int .i64 2, .int .i64 2, .int .i64 3] → wa.heap.size ≤ L → (r1 : Int) < 5 → (r2 : Int) < 3 → G 6 #[true, true, true, true, false, true, true, true, false, false, false, false, false] { tmps := #[.pointer (some ⟨g, 0, none⟩), undef, .pointer (some ⟨gr, 0, none⟩), undef, .slice (some ⟨L, 0, none⟩) 5 5, .pointer (some ⟨g, 0, none⟩), .int .i64 r1, .pointer (some ⟨L, r1, none⟩), undef, .pointer (some ⟨g, 0, none⟩), .int .i64 r2, .pointer (some ⟨g, 0, none⟩), undef, undef, undef, undef, undef, undef, undef, undef, undef, undef, undef, undef, undef, undef, undef], defers := [] } w1 := by
      intro w1 L r1 r2 hd hk hL hLb hr1 hr2
      rw [← HG.out]
      refine wpAnyH_ready (rs := [4, 8, 11]) (by kernel_rfl) (by simp) ?_
      refine AllReadyH.cons rfl (fun K4 hK4 => ?_) (AllReadyH.cons rfl (fun K8 hK8 => ?_) (AllReadyH.cons rfl (fun K11 hK11 => ?_) AllReadyH.nil))
      · have q4 : w1.cell? ⟨L, r1, none⟩ = some (.int .i64 (([1, 1, 2, 2, 3] : List Int).getD r1 0)) := by rw [hL.cell r1]; exact lit5 r1 (by omega)
        have hy : (1 ≤ ([1, 1, 2, 2, 3] : List Int).getD r1 0 ∧ ([1, 1, 2, 2, 3] : List Int).getD r1 0 ≤ 3) := all_getD (P := fun x => 1 ≤ x ∧ x ≤ 3) (fun x hx => by simp at hx; omega) (by simp; omega)
        generalize ([1, 1, 2, 2, 3] : List Int).getD r1 0 = y at q4 hy
        go_simp
        refine hK4.out _ _ trivial (fun hHeld => ?_)
        clear hK4 K4 q4
        try simp only [Act.put, qGa, qGb, qGc, qSa, qSb, qSc]
        rw [HG.out]
        exact H_0_2_4_6 _ L r1 y r2 hd hk hL hLb hr1 hy hr2
      · go_simp
        refine (l1Below_any B g 60 _ hd ⟨by decide, by decide⟩).mono ?_
        rintro e w2 ⟨r3, rfl, hr30, -, ho, hd2⟩
        have hr3 : (r3 : Int) < 60 := hr30 (by omega)
        have hnr3 : (0 : Int) ≤ r3 := by omega
        have hk2 := hk.trans ho.keeps
        have hL2 := hL.keeps ho.keeps (by have := hda.hg; omega)
        clear ho
        go_wp2_with fail
        refine hK8.out _ _ trivial (fun hHeld => ?_)
        clear hK8 K8
        try simp only [Act.put, qGa, qGb, qGc, qSa, qSb, qSc]
        have hw3 : IntKind.i64.wrap (1 + (r3 : Int)) = 1 + r3 := by rw [IntKind.wrap_i64]; omega
        refine tk (i := 9) (v := ?vq10_89) rfl (by kernel_rfl) (fun _ _ _ h => h) (Or.inl ⟨by rfl, ?hyq10_89⟩) (by assumption) ?rq10_89
        case hyq10_89 => (intro w hSw; (try dsimp only at hSw); go_simp; try with_reducible rfl)
        try simp only [Act.put, qGa, qGb, qGc, qSa, qSb, qSc]
        rw [HG.out]
        exact H_0_2_6_8 _ L r1 r2 r3 hd2 hk2 hL2 hLb hr1 hr2 hr3
      · obtain ⟨w2, hW⟩ : ∃ x, x = w1.alloc (.cells #[.int .i64 0, .int .i64 0, .int .i64 0, .int .i64 0] 60) := ⟨_, rfl⟩
        obtain ⟨A, hg2⟩ : ∃ x, x = w1.heap.size := ⟨_, rfl⟩
        have hA2 : Blk w2 A 60 #[.int .i64 0, .int .i64 0, .int .i64 0, .int .i64 0] := by rw [hW, hg2]; exact Blk.new _ _ _
        have hd2 : Dice B g w2 := by rw [hW]; exact hd.alloc _
        have hk2 : Keeps g wa w2 := by rw [hW]; exact hk.trans (Keeps.alloc _ _ _)
        have hAb2 : wa.heap.size ≤ A := by rw [hg2]; exact hk.size
        have hL2 : Blk w2 L 2 #[.int .i64 1, .int .i64 1, .int .i64 2, .int .i64 2, .int .i64 3] := by rw [hW]; exact hL.alloc _
        go_simp
        rw [← hW, ← hg2]
        refine hK11.out _ _ trivial (fun hHeld => ?_)
        clear hK11 K11 hW hg2
        try simp only [Act.put, qGa, qGb, qGc, qSa, qSb, qSc]
        rw [HG.out]
        exact H_0_2_6_11 _ L r1 r2 A hd2 hk2 hL2 hLb hr1 hr2 hA2 hAb2
    have H_0_2_11 : ∀ (w1 : World) (L : Nat) (r1 : Nat) (A : Nat), Dice B g w1 → Keeps g wa w1 → Blk w1 L 2 #[.int .i64 1, .int .i64 1, .int .i64 2, .int .i64 2, .int .i64 3] → wa.heap.size ≤ L → (r1 : Int) < 5 → Blk w1 A 60 #[.int .i64 0, .int .i64 0, .int .i64 0, .int .i64 0] → wa.heap.size ≤ A → G 6 #[true, true, true, true, false, true, false, true, false, false, false, true, false] { tmps := #[.pointer (some ⟨g, 0, none⟩), undef, .pointer (some ⟨gr, 0, none⟩), .pointer (some ⟨A, 0, none⟩), .slice (some ⟨L, 0, none⟩) 5 5, .pointer (some ⟨g, 0, none⟩), .int .i64 r1, .pointer (some ⟨L, r1, none⟩), undef, .pointer (some ⟨g, 0, none⟩), undef, .pointer (some ⟨g, 0, none⟩), undef, undef, undef, undef, undef, undef, undef, undef, undef, undef, undef, undef, undef, undef, undef], defers := [] } w1 := by
      intro w1 L r1 A hd hk hL hLb hr1 hA hAb
      rw [← HG.out]
      refine wpAnyH_ready (rs := [4, 6]) (by kernel_rfl) (by simp) ?_
      refine AllReadyH.cons rfl (fun K4 hK4 => ?_) (AllReadyH.cons rfl (fun K6 hK6 => ?_) AllReadyH.nil)
      · have q4 : w1.cell? ⟨L, r1, none⟩ = some (.int .i64 (([1, 1, 2, 2, 3] : List Int).getD r1 0)) := by rw [hL.cell r1]; exact lit5 r1 (by omega)
        have hy : (1 ≤ ([1, 1, 2, 2, 3] : List Int).getD r1 0 ∧ ([1, 1, 2, 2, 3] : List Int).getD r1 0 ≤ 3) := all_getD (P := fun x => 1 ≤ x ∧ x ≤ 3) (fun x hx => by simp at hx; omega) (by simp; omega)
        generalize ([1, 1, 2, 2, 3] : List Int).getD r1 0 = y at q4 hy
        go_simp
        refine hK4.out _ _ trivial (fun hHeld => ?_)
        clear hK4 K4 q4
        try simp only [Act.put, qGa, qGb, qGc, qSa, qSb, qSc]
        rw [HG.out]
        exact H_0_2_4_11 _ L r1 y A hd hk hL hLb hr1 hy hA hAb
      · go_simp
        refine (l1Below_any B g 3 _ hd ⟨by decide, by decide⟩).mono ?_
        rintro e w2 ⟨r2, rfl, hr20, -, ho, hd2⟩
        have hr2 : (r2 : Int) < 3 := hr20 (by omega)
        have hnr2 : (0 : Int) ≤ r2 := by omega
        have hk2 := hk.trans ho.keeps
        have hL2 := hL.keeps ho.keeps (by have := hda.hg; omega)
        have hA2 := hA.keeps ho.keeps (by have := hda.hg; omega)
        clear ho
        go_wp2_with fail
        refine hK6.out _ _ trivial (fun hHeld => ?_)
        clear hK6 K6
        try simp only [Act.put, qGa, qGb, qGc, qSa, qSb, qSc]
        rw [HG.out]
        exact H_0_2_6_11 _ L r1 r2 A hd2 hk2 hL2 hLb hr1 hr2 hA2 hAb
    have H_2_6_8 : ∀ (w1 : World) (r1 : Nat) (r2 : Nat) (r3 : Nat), Dice B g w1 → Keeps g wa w1 → (r1 : Int) < 5 → (r2 : Int) < 3 → (r3 : Int) < 60 → G 6 #[false, true, true, false, false, true, true, true, true, true, false, false, false] { tmps := #[.pointer (some ⟨g, 0, none⟩), undef, .pointer (some ⟨gr, 0, none⟩), undef, undef, .pointer (some ⟨g, 0, none⟩), .int .i64 r1, undef, undef, .pointer (some ⟨g, 0, none⟩), .int .i64 r2, .pointer (some ⟨g, 0, none⟩), .int .i64 r3, .int .i64 (1 + r3), undef, undef, undef, undef, undef, undef, undef, undef, undef, undef, undef, undef, undef], defers := [] } w1 := by
      intro w1 r1 r2 r3 hd hk hr1 hr2 hr3
      rw [← HG.out]
      refine wpAnyH_ready (rs := [0, 11]) (by kernel_rfl) (by simp) ?_
      refine AllReadyH.cons rfl (fun K0 hK0 => ?_) (AllReadyH.cons rfl (fun K11 hK11 => ?_) AllReadyH.nil)
      · obtain ⟨w2, hW⟩ : ∃ x, x = w1.alloc (.cells #[.int .i64 1, .int .i64 1, .int .i64 2, .int .i64 2, .int .i64 3] 2) := ⟨_, rfl⟩
        obtain ⟨L, hg2⟩ : ∃ x, x = w1.heap.size := ⟨_, rfl⟩
        have hL2 : Blk w2 L 2 #[.int .i64 1, .int .i64 1, .int .i64 2, .int .i64 2, .int .i64 3] := by rw [hW, hg2]; exact Blk.new _ _ _
        have hd2 : Dice B g w2 := by rw [hW]; exact hd.alloc _
        have hk2 : Keeps g wa w2 := by rw [hW]; exact hk.trans (Keeps.alloc _ _ _)
        have hLb2 : wa.heap.size ≤ L := by rw [hg2]; exact hk.size
        go_simp
        rw [← hW, ← hg2]
        refine hK0.out _ _ trivial (fun hHeld => ?_)
        clear hK0 K0 hW hg2
        try simp only [Act.put, qGa, qGb, qGc, qSa, qSb, qSc]
        have hi0 : (0 : Int) ≤ r1 := by omega
        have hi5 : (r1 : Int) < 5 := hr1
        refine tk (i := 3) (v := ?vq12_03) rfl (by kernel_rfl) (fun _ _ _ h => h) (Or.inl ⟨by rfl, ?hyq12_03⟩) (by assumption) ?rq12_03
        case hyq12_03 => (intro w hSw; (try dsimp only at hSw); go_simp; try with_reducible rfl)
        try simp only [Act.put, qGa, qGb, qGc, qSa, qSb, qSc]
        rw [HG.out]
        exact H_0_2_6_8 _ L r1 r2 r3 hd2 hk2 hL2 hLb2 hr1 hr2 hr3
      · obtain ⟨w2, hW⟩ : ∃ x, x = w1.alloc (.cells #[.int .i64 0, .int .i64 0, .int .i64 0, .int .i64 0] 60) := ⟨_, rfl⟩
        obtain ⟨A, hg2⟩ : ∃ x, x = w1.heap.size := ⟨_, rfl⟩
        have hA2 : Blk w2 A 60 #[.int .i64 0, .int .i64 0, .int .i64 0, .int .i64 0] := by rw [hW, hg2]; exact Blk.new _ _ _
        have hd2 : Dice B g w2 := by rw [hW]; exact hd.alloc _
        have hk2 : Keeps g wa w2 := by rw [hW]; exact hk.trans (Keeps.alloc _ _ _)
        have hAb2 : wa.heap.size ≤ A := by rw [hg2]; exact hk.size
        go_simp
        rw [← hW, ← hg2]
        refine hK11.out _ _ trivial (fun hHeld => ?_)
        clear hK11 K11 hW hg2
        try simp only [Act.put, qGa, qGb, qGc, qSa, qSb, qSc]
        rw [HG.out]
        exact H_2_6_8_11 _ r1 r2 r3 A hd2 hk2 hr1 hr2 hr3 hA2 hAb2
    have H_2_6_11 : ∀ (w1 : World) (r1 : Nat) (r2 : Nat) (A : Nat), Dice B g w1 → Keeps g wa w1 → (r1 : Int) < 5 → (r2 : Int) < 3 → Blk w1 A 60 #[.int .i64 0, .int .i64 0, .int .i64 0, .int .i64 0] → wa.heap.size ≤ A → G 7 #[false, true, true, false, false, true, true, true, false, false, false, true, false] { tmps := #[.pointer (some ⟨g, 0, none⟩), undef, .pointer (some ⟨gr, 0, none⟩), .pointer (some ⟨A, 0, none⟩), undef, .pointer (some ⟨g, 0, none⟩), .int .i64 r1, undef, undef, .pointer (some ⟨g, 0, none⟩), .int .i64 r2, .pointer (some ⟨g, 0, none⟩), undef, undef, undef, undef, undef, undef, undef, undef, undef, undef, undef, undef, undef, undef, undef], defers := [] } w1 := by
      intro w1 r1 r2 A hd hk hr1 hr2 hA hAb
      rw [← HG.out]
      refine wpAnyH_ready (rs := [0, 8]) (by kernel_rfl) (by simp) ?_
      refine AllReadyH.cons rfl (fun K0 hK0 => ?_) (AllReadyH.cons rfl (fun K8 hK8 => ?_) AllReadyH.nil)
      · obtain ⟨w2, hW⟩ : ∃ x, x = w1.alloc (.cells #[.int .i64 1, .int .i64 1, .int .i64 2, .int .i64 2, .int .i64 3] 2) := ⟨_, rfl⟩
        obtain ⟨L, hg2⟩ : ∃ x, x = w1.heap.size := ⟨_, rfl⟩
        have hL2 : Blk w2 L 2 #[.int .i64 1, .int .i64 1, .int .i64 2, .int .i64 2, .int .i64 3] := by rw [hW, hg2]; exact Blk.new _ _ _
        have hd2 : Dice B g w2 := by rw [hW]; exact hd.alloc _
        have hk2 : Keeps g wa w2 := by rw [hW]; exact hk.trans (Keeps.alloc _ _ _)
        have hLb2 : wa.heap.size ≤ L := by rw [hg2]; exact hk.size
        have hA2 : Blk w2 A 60 #[.int .i64 0, .int .i64 0, .int .i64 0, .int .i64 0] := by rw [hW]; exact hA.alloc _
        go_simp
        rw [← hW, ← hg2]
        refine hK0.out _ _ trivial (fun hHeld => ?_)
        clear hK0 K0 hW hg2
        try simp only [Act.put, qGa, qGb, qGc, qSa, qSb, qSc]
        have hi0 : (0 : Int) ≤ r1 := by omega
        have hi5 : (r1 : Int) < 5 := hr1
        refine tk (i := 3) (v := ?vq13_03) rfl (by kernel_rfl) (fun _ _ _ h => h) (Or.inl ⟨by rfl, ?hyq13_03⟩) (by assumption) ?rq13_03
        case hyq13_03 => (intro w hSw; (try dsimp only at hSw); go_simp; try with_reducible rfl)
        try simp only [Act.put, qGa, qGb, qGc, qSa, qSb, qSc]
        rw [HG.out]
        exact H_0_2_6_11 _ L r1 r2 A hd2 hk2 hL2 hLb2 hr1 hr2 hA2 hAb
      · go_simp
        refine (l1Below_any B g 60 _ hd ⟨by decide, by decide⟩).mono ?_
        rintro e w2 ⟨r3, rfl, hr30, -, ho, hd2⟩
        have hr3 : (r3 : Int) < 60 := hr30 (by omega)
        have hnr3 : (0 : Int) ≤ r3 := by omega
        have hk2 := hk.trans ho.keeps
        have hA2 := hA.keeps ho.keeps (by have := hda.hg; omega)
        clear ho
        go_wp2_with fail
        refine hK8.out _ _ trivial (fun hHeld => ?_)
        clear hK8 K8
        try simp only [Act.put, qGa, qGb, qGc, qSa, qSb, qSc]
        have hw3 : IntKind.i64.wrap (1 + (r3 : Int)) = 1 + r3 := by rw [IntKind.wrap_i64]; omega
        refine tk (i := 9) (v := ?vq13_89) rfl (by kernel_rfl) (fun _ _ _ h => h) (Or.inl ⟨by rfl, ?hyq13_89⟩) (by assumption) ?rq13_89
        case hyq13_89 => (intro w hSw; (try dsimp only at hSw); go_simp; try with_reducible rfl)
        try simp only [Act.put, qGa, qGb, qGc, qSa, qSb, qSc]
        rw [HG.out]
        exact H_2_6_8_11 _ r1 r2 r3 A hd2 hk2 hr1 hr2 hr3 hA2 hAb
    have H_0_2 : ∀ (w1 : World) (L : Nat) (r1 : Nat), Dice B g w1 → Keeps g wa w1 → Blk w1 L 2 #[.int .i64 1, .int .i64 1, .int .i64 2, .int .i64 2, .int .i64 3] → wa.heap.size ≤ L → (r1 : Int) < 5 → G 7 #[true, true, true, true, false, true, false, true, false, false, false, false, false] { tmps := #[.pointer (some ⟨g, 0, none⟩), undef, .pointer (some ⟨gr, 0, none⟩), undef, .slice (some ⟨L, 0, none⟩) 5 5, .pointer (some ⟨g, 0, none⟩), .int .i64 r1, .pointer (some ⟨L, r1, none⟩), undef, .pointer (some ⟨g, 0, none⟩), undef, .pointer (some ⟨g, 0, none⟩), undef, undef, undef, undef, undef, undef, undef, undef, undef, undef, undef, undef, undef, undef, undef], defers := [] } w1 := by
      intro w1 L r1 hd hk hL hLb hr1
      rw [← HG.out]
      refine wpAnyH_ready (rs := [4, 6, 11]) (by kernel_rfl) (by simp) ?_
      refine AllReadyH.cons rfl (fun K4 hK4 => ?_) (AllReadyH.cons rfl (fun K6 hK6 => ?_) (AllReadyH.cons rfl (fun K11 hK11 => ?_) AllReadyH.nil))
      · have q4 : w1.cell? ⟨L, r1, none⟩ = some (.int .i64 (([1, 1, 2, 2, 3] : List Int).getD r1 0)) := by rw [hL.cell r1]; exact lit5 r1 (by omega)
        have hy : (1 ≤ ([1, 1, 2, 2, 3] : List Int).getD r1 0 ∧ ([1, 1, 2, 2, 3] : List Int).getD r1 0 ≤ 3) := all_getD (P := fun x => 1 ≤ x ∧ x ≤ 3) (fun x hx => by simp at hx; omega) (by simp; omega)
        generalize ([1, 1, 2, 2, 3] : List Int).getD r1 0 = y at q4 hy
        go_simp
        refine hK4.out _ _ trivial (fun hHeld => ?_)
        clear hK4 K4 q4
        try simp only [Act.put, qGa, qGb, qGc, qSa, qSb, qSc]
        rw [HG.out]
        exact H_0_2_4 _ L r1 y hd hk hL hLb hr1 hy
      · go_simp
        refine (l1Below_any B g 3 _ hd ⟨by decide, by decide⟩).mono ?_
        rintro e w2 ⟨r2, rfl, hr20, -, ho, hd2⟩
        have hr2 : (r2 : Int) < 3 := hr20 (by omega)
        have hnr2 : (0 : Int) ≤ r2 := by omega
        have hk2 := hk.trans ho.keeps
        have hL2 := hL.keeps ho.keeps (by have := hda.hg; omega)
        clear ho
        go_wp2_with fail
        refine hK6.out _ _ trivial (fun hHeld => ?_)
        clear hK6 K6
        try simp only [Act.put, qGa, qGb, qGc, qSa, qSb, qSc]
        rw [HG.out]
        exact H_0_2_6 _ L r1 r2 hd2 hk2 hL2 hLb hr1 hr2
      · obtain ⟨w2, hW⟩ : ∃ x, x = w1.alloc (.cells #[.int .i64 0, .int .i64 0, .int .i64 0, .int .i64 0] 60) := ⟨_, rfl⟩
        obtain ⟨A, hg2⟩ : ∃ x, x = w1.heap.size := ⟨_, rfl⟩
        have hA2 : Blk w2 A 60 #[.int .i64 0, .int .i64 0, .int .i64 0, .int .i64 0] := by rw [hW, hg2]; exact Blk.new _ _ _
        have hd2 : Dice B g w2 := by rw [hW]; exact hd.alloc _
        have hk2 : Keeps g wa w2 := by rw [hW]; exact hk.trans (Keeps.alloc _ _ _)
        have hAb2 : wa.heap.size ≤ A := by rw [hg2]; exact hk.size
        have hL2 : Blk w2 L 2 #[.int .i64 1, .int .i64 1, .int .i64 2, .int .i64 2, .int .i64 3] := by rw [hW]; exact hL.alloc _
        go_simp
        rw [← hW, ← hg2]
        refine hK11.out _ _ trivial (fun hHeld => ?_)
        clear hK11 K11 hW hg2
        try simp only [Act.put, qGa, qGb, qGc, qSa, qSb, qSc]
        rw [HG.out]
        exact H_0_2_11 _ L r1 A hd2 hk2 hL2 hLb hr1 hA2 hAb2
    have H_0_11 : ∀ (w1 : World) (L : Nat) (A : Nat), Dice B g w1 → Keeps g wa w1 → Blk w1 L 2 #[.int .i64 1, .int .i64 1, .int .i64 2, .int .i64 2, .int .i64 3] → wa.heap.size ≤ L → Blk w1 A 60 #[.int .i64 0, .int .i64 0, .int .i64 0, .int .i64 0] → wa.heap.size ≤ A → G 8 #[true, true, false, false, false, true, false, true, false, false, false, true, false] { tmps := #[.pointer (some ⟨g, 0, none⟩), undef, .pointer (some ⟨gr, 0, none⟩), .pointer (some ⟨A, 0, none⟩), .slice (some ⟨L, 0, none⟩) 5 5, .pointer (some ⟨g, 0, none⟩), undef, undef, undef, .pointer (some ⟨g, 0, none⟩), undef, .pointer (some ⟨g, 0, none⟩), undef, undef, undef, undef, undef, undef, undef, undef, undef, undef, undef, undef, undef, undef, undef], defers := [] } w1 := by
      intro w1 L A hd hk hL hLb hA hAb
      rw [← HG.out]
      refine wpAnyH_ready (rs := [2]) (by kernel_rfl) (by simp) ?_
      refine AllReadyH.cons rfl (fun K2 hK2 => ?_) AllReadyH.nil
      · go_simp
        refine (l1Below_any B g 5 _ hd ⟨by decide, by decide⟩).mono ?_
        rintro e w2 ⟨r1, rfl, hr10, -, ho, hd2⟩
        have hr1 : (r1 : Int) < 5 := hr10 (by omega)
        have hnr1 : (0 : Int) ≤ r1 := by omega
        have hk2 := hk.trans ho.keeps
        have hL2 := hL.keeps ho.keeps (by have := hda.hg; omega)
        have hA2 := hA.keeps ho.keeps (by have := hda.hg; omega)
        clear ho
        go_wp2_with fail
        refine hK2.out _ _ trivial (fun hHeld => ?_)
        clear hK2 K2
        try simp only [Act.put, qGa, qGb, qGc, qSa, qSb, qSc]
        have hi0 : (0 : Int) ≤ r1 := by omega
        have hi5 : (r1 : Int) < 5 := hr1
        refine tk (i := 3) (v := ?vq15_23) rfl (by kernel_rfl) (fun _ _ _ h => h) (Or.inl ⟨by rfl, ?hyq15_23⟩) (by assumption) ?rq15_23
        case hyq15_23 => (intro w hSw; (try dsimp only at hSw); go_simp; try with_reducible rfl)
        try simp only [Act.put, qGa, qGb, qGc, qSa, qSb, qSc]
        rw [HG.out]
        exact H_0_2_11 _ L r1 A hd2 hk2 hL2 hLb hr1 hA2 hAb
    have H_2_6 : ∀ (w1 : World) (r1 : Nat) (r2 : Nat), Dice B g w1 → Keeps g wa w1 → (r1 : Int) < 5 → (r2 : Int) < 3 → G 8 #[false, true, true, false, false, true, true, true, false, false, false, false, false] { tmps := #[.pointer (some ⟨g, 0, none⟩), undef, .pointer (some ⟨gr, 0, none⟩), undef, undef, .pointer (some ⟨g, 0, none⟩), .int .i64 r1, undef, undef, .pointer (some ⟨g, 0, none⟩), .int .i64 r2, .pointer (some ⟨g, 0, none⟩), undef, undef, undef, undef, undef, undef, undef, undef, undef, undef, undef, undef, undef, undef, undef], defers := [] } w1 := by
      intro w1 r1 r2 hd hk hr1 hr2
      rw [← HG.out]
      refine wpAnyH_ready (rs := [0, 8, 11]) (by kernel_rfl) (by simp) ?_
      refine AllReadyH.cons rfl (fun K0 hK0 => ?_) (AllReadyH.cons rfl (fun K8 hK8 => ?_) (AllReadyH.cons rfl (fun K11 hK11 => ?_) AllReadyH.nil))
      · obtain ⟨w2, hW⟩ : ∃ x, x = w1.alloc (.cells #[.int .i64 1, .int .i64 1, .int .i64 2, .int .i64 2, .int .i64 3] 2) := ⟨_, rfl⟩
        obtain ⟨L, hg2⟩ : ∃ x, x = w1.heap.size := ⟨_, rfl⟩
        have hL2 : Blk w2 L 2 #[.int .i64 1, .int .i64 1, .int .i64 2, .int .i64 2, .int .i64 3] := by rw [hW, hg2]; exact Blk.new _ _ _
        have hd2 : Dice B g w2 := by rw [hW]; exact hd.alloc _
        have hk2 : Keeps g wa w2 := by rw [hW]; exact hk.trans (Keeps.alloc _ _ _)
        have hLb2 : wa.heap.size ≤ L := by rw [hg2]; exact hk.size
        go_simp
        rw [← hW, ← hg2]
        refine hK0.out _ _ trivial (fun hHeld => ?_)
        clear hK0 K0 hW hg2
        try simp only [Act.put, qGa, qGb, qGc, qSa, qSb, qSc]
        have hi0 : (0 : Int) ≤ r1 := by omega
        have hi5 : (r1 : Int) < 5 := hr1
        refine tk (i := 3) (v := ?vq16_03) rfl (by kernel_rfl) (fun _ _ _ h => h) (Or.inl ⟨by rfl, ?hyq16_03⟩) (by assumption) ?rq16_03
        case hyq16_03 => (intro w hSw; (try dsimp only at hSw); go_simp; try with_reducible rfl)
        try simp only [Act.put, qGa, qGb, qGc, qSa, qSb, qSc]
        rw [HG.out]
        exact H_0_2_6 _ L r1 r2 hd2 hk2 hL2 hLb2 hr1 hr2
      · go_simp
        refine (l1Below_any B g 60 _ hd ⟨by decide, by decide⟩).mono ?_
        rintro e w2 ⟨r3, rfl, hr30, -, ho, hd2⟩
        have hr3 : (r3 : Int) < 60 := hr30 (by omega)
        have hnr3 : (0 : Int) ≤ r3 := by omega
        have hk2 := hk.trans ho.keeps
        clear ho
        go_wp2_with fail
        refine hK8.out _ _ trivial (fun hHeld => ?_)
        clear hK8 K8
        try simp only [Act.put, qGa, qGb, qGc, qSa, qSb, qSc]
        have hw3 : IntKind.i64.wrap (1 + (r3 : Int)) = 1 + r3 := by rw [IntKind.wrap_i64]; omega
        refine tk (i := 9) (v := ?vq16_89) rfl (by kernel_rfl) (fun _ _ _ h => h) (Or.inl ⟨by rfl, ?hyq16_89⟩) (by assumption) ?rq16_89
        case hyq16_89 => (intro w hSw; (try dsimp only at hSw); go_simp; try with_reducible rfl)
        try simp only [Act.put, qGa, qGb, qGc, qSa, qSb, qSc]
        rw [HG.out]
        exact H_2_6_8 _ r1 r2 r3 hd2 hk2 hr1 hr2 hr3
      · obtain ⟨w2, hW⟩ : ∃ x, x = w1.alloc (.cells #[.int .i64 0, .int .i64 0, .int .i64 0, .int .i64 0] 60) := ⟨_, rfl⟩
        obtain ⟨A, hg2⟩ : ∃ x, x = w1.heap.size := ⟨_, rfl⟩
        have hA2 : Blk w2 A 60 #[.int .i64 0, .int .i64 0, .int .i64 0, .int .i64 0] := by rw [hW, hg2]; exact Blk.new _ _ _
        have hd2 : Dice B g w2 := by rw [hW]; exact hd.alloc _
        have hk2 : Keeps g wa w2 := by rw [hW]; exact hk.trans (Keeps.alloc _ _ _)
        have hAb2 : wa.heap.size ≤ A := by rw [hg2]; exact hk.size
        go_simp
        rw [← hW, ← hg2]
        refine hK11.out _ _ trivial (fun hHeld => ?_)
        clear hK11 K11 hW hg2
        try simp only [Act.put, qGa, qGb, qGc, qSa, qSb, qSc]
        rw [HG.out]
        exact H_2_6_11 _ r1 r2 A hd2 hk2 hr1 hr2 hA2 hAb2
    have H_2_11 : ∀ (w1 : World) (r1 : Nat) (A : Nat), Dice B g w1 → Keeps g wa w1 → (r1 : Int) < 5 → Blk w1 A 60 #[.int .i64 0, .int .i64 0, .int .i64 0, .int .i64 0] → wa.heap.size ≤ A → G 8 #[false, true, true, false, false, true, false, true, false, false, false, true, false] { tmps := #[.pointer (some ⟨g, 0, none⟩), undef, .pointer (some ⟨gr, 0, none⟩), .pointer (some ⟨A, 0, none⟩), undef, .pointer (some ⟨g, 0, none⟩), .int .i64 r1, undef, undef, .pointer (some ⟨g, 0, none⟩), undef, .pointer (some ⟨g, 0, none⟩), undef, undef, undef, undef, undef, undef, undef, undef, undef, undef, undef, undef, undef, undef, undef], defers := [] } w1 := by
      intro w1 r1 A hd hk hr1 hA hAb
      rw [← HG.out]
      refine wpAnyH_ready (rs := [0, 6]) (by kernel_rfl) (by simp) ?_
      refine AllReadyH.cons rfl (fun K0 hK0 => ?_) (AllReadyH.cons rfl (fun K6 hK6 => ?_) AllReadyH.nil)
      · obtain ⟨w2, hW⟩ : ∃ x, x = w1.alloc (.cells #[.int .i64 1, .int .i64 1, .int .i64 2, .int .i64 2, .int .i64 3] 2) := ⟨_, rfl⟩
        obtain ⟨L, hg2⟩ : ∃ x, x = w1.heap.size := ⟨_, rfl⟩
        have hL2 : Blk w2 L 2 #[.int .i64 1, .int .i64 1, .int .i64 2, .int .i64 2, .int .i64 3] := by rw [hW, hg2]; exact Blk.new _ _ _
        have hd2 : Dice B g w2 := by rw [hW]; exact hd.alloc _
        have hk2 : Keeps g wa w2 := by rw [hW]; exact hk.trans (Keeps.alloc _ _ _)
        have hLb2 : wa.heap.size ≤ L := by rw [hg2]; exact hk.size
        have hA2 : Blk w2 A 60 #[.int .i64 0, .int .i64 0, .int .i64 0, .int .i64 0] := by rw [hW]; exact hA.alloc _
        go_simp
        rw [← hW, ← hg2]
        refine hK0.out _ _ trivial (fun hHeld => ?_)
        clear hK0 K0 hW hg2
        try simp only [Act.put, qGa, qGb, qGc, qSa, qSb, qSc]
        have hi0 : (0 : Int) ≤ r1 := by omega
        have hi5 : (r1 : Int) < 5 := hr1
        refine tk (i := 3) (v := ?vq17_03) rfl (by kernel_rfl) (fun _ _ _ h => h) (Or.inl ⟨by rfl, ?hyq17_03⟩) (by assumption) ?rq17_03
        case hyq17_03 => (intro w hSw; (try dsimp only at hSw); go_simp; try with_reducible rfl)
        try simp only [Act.put, qGa, qGb, qGc, qSa, qSb, qSc]
        rw [HG.out]
        exact H_0_2_11 _ L r1 A hd2 hk2 hL2 hLb2 hr1 hA2 hAb
      · go_simp
        refine (l1Below_any B g 3 _ hd ⟨by decide, by decide⟩).mono ?_
        rintro e w2 ⟨r2, rfl, hr20, -, ho, hd2⟩
        have hr2 : (r2 : Int) < 3 := hr20 (by omega)
        have hnr2 : (0 : Int) ≤ r2 := by omega
        have hk2 := hk.trans ho.keeps
        have hA2 := hA.keeps ho.keeps (by have := hda.hg; omega)
        clear ho
        go_wp2_with fail
        refine hK6.out _ _ trivial (fun hHeld => ?_)
        clear hK6 K6
        try simp only [Act.put, qGa, qGb, qGc, qSa, qSb, qSc]
        rw [HG.out]
        exact H_2_6_11 _ r1 r2 A hd2 hk2 hr1 hr2 hA2 hAb
    have H_0 : ∀ (w1 : World) (L : Nat), Dice B g w1 → Keeps g wa w1 → Blk w1 L 2 #[.int .i64 1, .int .i64 1, .int .i64 2, .int .i64 2, .int .i64 3] → wa.heap.size ≤ L → G 9 #[true, true, false, false, false, true, false, true, false, false, false, false, false] { tmps := #[.pointer (some ⟨g, 0, none⟩), undef, .pointer (some ⟨gr, 0, none⟩), undef, .slice (some ⟨L, 0, none⟩) 5 5, .pointer (some ⟨g, 0, none⟩), undef, undef, undef, .pointer (some ⟨g, 0, none⟩), undef, .pointer (some ⟨g, 0, none⟩), undef, undef, undef, undef, undef, undef, undef, undef, undef, undef, undef, undef, undef, undef, undef], defers := [] } w1 := by
      intro w1 L hd hk hL hLb
      rw [← HG.out]
      refine wpAnyH_ready (rs := [2, 11]) (by kernel_rfl) (by simp) ?_
      refine AllReadyH.cons rfl (fun K2 hK2 => ?_) (AllReadyH.cons rfl (fun K11 hK11 => ?_) AllReadyH.nil)
      · go_simp
        refine (l1Below_any B g 5 _ hd ⟨by decide, by decide⟩).mono ?_
        rintro e w2 ⟨r1, rfl, hr10, -, ho, hd2⟩
        have hr1 : (r1 : Int) < 5 := hr10 (by omega)
        have hnr1 : (0 : Int) ≤ r1 := by omega
        have hk2 := hk.trans ho.keeps
        have hL2 := hL.keeps ho.keeps (by have := hda.hg; omega)
        clear ho
        go_wp2_with fail
        refine hK2.out _ _ trivial (fun hHeld => ?_)
        clear hK2 K2
        try simp only [Act.put, qGa, qGb, qGc, qSa, qSb, qSc]
        have hi0 : (0 : Int) ≤ r1 := by omega
        have hi5 : (r1 : Int) < 5 := hr1
        refine tk (i := 3) (v := ?vq18_23) rfl (by kernel_rfl) (fun _ _ _ h => h) (Or.inl ⟨by rfl, ?hyq18_23⟩) (by assumption) ?rq18_23
        case hyq18_23 => (intro w hSw; (try dsimp only at hSw); go_simp; try with_reducible rfl)
        try simp only [Act.put, qGa, qGb, qGc, qSa, qSb, qSc]
        rw [HG.out]
        exact H_0_2 _ L r1 hd2 hk2 hL2 hLb hr1
      · obtain ⟨w2, hW⟩ : ∃ x, x = w1.alloc (.cells #[.int .i64 0, .int .i64 0, .int .i64 0, .int .i64 0] 60) := ⟨_, rfl⟩
        obtain ⟨A, hg2⟩ : ∃ x, x = w1.heap.size := ⟨_, rfl⟩
        have hA2 : Blk w2 A 60 #[.int .i64 0, .int .i64 0, .int .i64 0, .int .i64 0] := by rw [hW, hg2]; exact Blk.new _ _ _
        have hd2 : Dice B g w2 := by rw [hW]; exact hd.alloc _
        have hk2 : Keeps g wa w2 := by rw [hW]; exact hk.trans (Keeps.alloc _ _ _)
        have hAb2 : wa.heap.size ≤ A := by rw [hg2]; exact hk.size
        have hL2 : Blk w2 L 2 #[.int .i64 1, .int .i64 1, .int .i64 2, .int .i64 2, .int .i64 3] := by rw [hW]; exact hL.alloc _
        go_simp
        rw [← hW, ← hg2]
        refine hK11.out _ _ trivial (fun hHeld => ?_)
        clear hK11 K11 hW hg2
        try simp only [Act.put, qGa, qGb, qGc, qSa, qSb, qSc]
        rw [HG.out]
        exact H_0_11 _ L A hd2 hk2 hL2 hLb hA2 hAb2
    have H_2 : ∀ (w1 : World) (r1 : Nat), Dice B g w1 → Keeps g wa w1 → (r1 : Int) < 5 → G 9 #[false, true, true, false, false, true, false, true, false, false, false, false, false] { tmps := #[.pointer (some ⟨g, 0, none⟩), undef, .pointer (some ⟨gr, 0, none⟩), undef, undef, .pointer (some ⟨g, 0, none⟩), .int .i64 r1, undef, undef, .pointer (some ⟨g, 0, none⟩), undef, .pointer (some ⟨g, 0, none⟩), undef, undef, undef, undef, undef, undef, undef, undef, undef, undef, undef, undef, undef, undef, undef], defers := [] } w1 := by
      intro w1 r1 hd hk hr1
      rw [← HG.out]
      refine wpAnyH_ready (rs := [0, 6, 11]) (by kernel_rfl) (by simp) ?_
      refine AllReadyH.cons rfl (fun K0 hK0 => ?_) (AllReadyH.cons rfl (fun K6 hK6 => ?_) (AllReadyH.cons rfl (fun K11 hK11 => ?_) AllReadyH.nil))
      · obtain ⟨w2, hW⟩ : ∃ x, x = w1.alloc (.cells #[.int .i64 1, .int .i64 1, .int .i64 2, .int .i64 2, .int .i64 3] 2) := ⟨_, rfl⟩
        obtain ⟨L, hg2⟩ : ∃ x, x = w1.heap.size := ⟨_, rfl⟩
        have hL2 : Blk w2 L 2 #[.int .i64 1, .int .i64 1, .int .i64 2, .int .i64 2, .int .i64 3] := by rw [hW, hg2]; exact Blk.new _ _ _
        have hd2 : Dice B g w2 := by rw [hW]; exact hd.alloc _
        have hk2 : Keeps g wa w2 := by rw [hW]; exact hk.trans (Keeps.alloc _ _ _)
        have hLb2 : wa.heap.size ≤ L := by rw [hg2]; exact hk.size
        go_simp
        rw [← hW, ← hg2]
        refine hK0.out _ _ trivial (fun hHeld => ?_)
        clear hK0 K0 hW hg2
        try simp only [Act.put, qGa, qGb, qGc, qSa, qSb, qSc]
        have hi0 : (0 : Int) ≤ r1 := by omega
        have hi5 : (r1 : Int) < 5 := hr1
        refine tk (i := 3) (v := ?vq19_03) rfl (by kernel_rfl) (fun _ _ _ h => h) (Or.inl ⟨by rfl, ?hyq19_03⟩) (by assumption) ?rq19_03
        case hyq19_03 => (intro w hSw; (try dsimp only at hSw); go_simp; try with_reducible rfl)
        try simp only [Act.put, qGa, qGb, qGc, qSa, qSb, qSc]
        rw [HG.out]
        exact H_0_2 _ L r1 hd2 hk2 hL2 hLb2 hr1
      · go_simp
        refine (l1Below_any B g 3 _ hd ⟨by decide, by decide⟩).mono ?_
        rintro e w2 ⟨r2, rfl, hr20, -, ho, hd2⟩
        have hr2 : (r2 : Int) < 3 := hr20 (by omega)
        have hnr2 : (0 : Int) ≤ r2 := by omega
        have hk2 := hk.trans ho.keeps
        clear ho
        go_wp2_with fail
        refine hK6.out _ _ trivial (fun hHeld => ?_)
        clear hK6 K6
        try simp only [Act.put, qGa, qGb, qGc, qSa, qSb, qSc]
        rw [HG.out]
        exact H_2_6 _ r1 r2 hd2 hk2 hr1 hr2
      · obtain ⟨w2, hW⟩ : ∃ x, x = w1.alloc (.cells #[.int .i64 0, .int .i64 0, .int .i64 0, .int .i64 0] 60) := ⟨_, rfl⟩
        obtain ⟨A, hg2⟩ : ∃ x, x = w1.heap.size := ⟨_, rfl⟩
        have hA2 : Blk w2 A 60 #[.int .i64 0, .int .i64 0, .int .i64 0, .int .i64 0] := by rw [hW, hg2]; exact Blk.new _ _ _
        have hd2 : Dice B g w2 := by rw [hW]; exact hd.alloc _
        have hk2 : Keeps g wa w2 := by rw [hW]; exact hk.trans (Keeps.alloc _ _ _)
        have hAb2 : wa.heap.size ≤ A := by rw [hg2]; exact hk.size
        go_simp
        rw [← hW, ← hg2]
        refine hK11.out _ _ trivial (fun hHeld => ?_)
        clear hK11 K11 hW hg2
        try simp only [Act.put, qGa, qGb, qGc, qSa, qSb, qSc]
        rw [HG.out]
        exact H_2_11 _ r1 A hd2 hk2 hr1 hA2 hAb2
    have H_11 : ∀ (w1 : World) (A : Nat), Dice B g w1 → Keeps g wa w1 → Blk w1 A 60 #[.int .i64 0, .int .i64 0, .int .i64 0, .int .i64 0] → wa.heap.size ≤ A → G 9 #[false, true, false, false, false, true, false, true, false, false, false, true, false] { tmps := #[.pointer (some ⟨g, 0, none⟩), undef, .pointer (some ⟨gr, 0, none⟩), .pointer (some ⟨A, 0, none⟩), undef, .pointer (some ⟨g, 0, none⟩), undef, undef, undef, .pointer (some ⟨g, 0, none⟩), undef, .pointer (some ⟨g, 0, none⟩), undef, undef, undef, undef, undef, undef, undef, undef, undef, undef, undef, undef, undef, undef, undef], defers := [] } w1 := by
      intro w1 A hd hk hA hAb
      rw [← HG.out]
      refine wpAnyH_ready (rs := [0, 2]) (by kernel_rfl) (by simp) ?_
      refine AllReadyH.cons rfl (fun K0 hK0 => ?_) (AllReadyH.cons rfl (fun K2 hK2 => ?_) AllReadyH.nil)
      · obtain ⟨w2, hW⟩ : ∃ x, x = w1.alloc (.cells #[.int .i64 1, .int .i64 1, .int .i64 2, .int .i64 2, .int .i64 3] 2) := ⟨_, rfl⟩
        obtain ⟨L, hg2⟩ : ∃ x, x = w1.heap.size := ⟨_, rfl⟩
        have hL2 : Blk w2 L 2 #[.int .i64 1, .int .i64 1, .int .i64 2, .int .i64 2, .int .i64 3] := by rw [hW, hg2]; exact Blk.new _ _ _
        have hd2 : Dice B g w2 := by rw [hW]; exact hd.alloc _
        have hk2 : Keeps g wa w2 := by rw [hW]; exact hk.trans (Keeps.alloc _ _ _)
        have hLb2 : wa.heap.size ≤ L := by rw [hg2]; exact hk.size
        have hA2 : Blk w2 A 60 #[.int .i64 0, .int .i64 0, .int .i64 0, .int .i64 0] := by rw [hW]; exact hA.alloc _
        go_simp
        rw [← hW, ← hg2]
        refine hK0.out _ _ trivial (fun hHeld => ?_)
        clear hK0 K0 hW hg2
        try simp only [Act.put, qGa, qGb, qGc, qSa, qSb, qSc]
        rw [HG.out]
        exact H_0_11 _ L A hd2 hk2 hL2 hLb2 hA2 hAb
      · go_simp
        refine (l1Below_any B g 5 _ hd ⟨by decide, by decide⟩).mono ?_
        rintro e w2 ⟨r1, rfl, hr10, -, ho, hd2⟩
        have hr1 : (r1 : Int) < 5 := hr10 (by omega)
        have hnr1 : (0 : Int) ≤ r1 := by omega
        have hk2 := hk.trans ho.keeps
        have hA2 := hA.keeps ho.keeps (by have := hda.hg; omega)
        clear ho
        go_wp2_with fail
        refine hK2.out _ _ trivial (fun hHeld => ?_)
        clear hK2 K2
        try simp only [Act.put, qGa, qGb, qGc, qSa, qSb, qSc]
        rw [HG.out]
        exact H_2_11 _ r1 A hd2 hk2 hr1 hA2 hAb
    have H_start : ∀ (w1 : World), Dice B g w1 → Keeps g wa w1 → G 10 #[false, true, false, false, false, true, false, true, false, false, false, false, false] { tmps := #[.pointer (some ⟨g, 0, none⟩), undef, .pointer (some ⟨gr, 0, none⟩), undef, undef, .pointer (some ⟨g, 0, none⟩), undef, undef, undef, .pointer (some ⟨g, 0, none⟩), undef, .pointer (some ⟨g, 0, none⟩), undef, undef, undef, undef, undef, undef, undef, undef, undef, undef, undef, undef, undef, undef, undef], defers := [] } w1 := by
      intro w1  hd hk
      rw [← HG.out]
      refine wpAnyH_ready (rs := [0, 2, 11]) (by kernel_rfl) (by simp) ?_
      refine AllReadyH.cons rfl (fun K0 hK0 => ?_) (AllReadyH.cons rfl (fun K2 hK2 => ?_) (AllReadyH.cons rfl (fun K11 hK11 => ?_) AllReadyH.nil))
      · obtain ⟨w2, hW⟩ : ∃ x, x = w1.alloc (.cells #[.int .i64 1, .int .i64 1, .int .i64 2, .int .i64 2, .int .i64 3] 2) := ⟨_, rfl⟩
        obtain ⟨L, hg2⟩ : ∃ x, x = w1.heap.size := ⟨_, rfl⟩
        have hL2 : Blk w2 L 2 #[.int .i64 1, .int .i64 1, .int .i64 2, .int .i64 2, .int .i64 3] := by rw [hW, hg2]; exact Blk.new _ _ _
        have hd2 : Dice B g w2 := by rw [hW]; exact hd.alloc _
        have hk2 : Keeps g wa w2 := by rw [hW]; exact hk.trans (Keeps.alloc _ _ _)
        have hLb2 : wa.heap.size ≤ L := by rw [hg2]; exact hk.size
        go_simp
        rw [← hW, ← hg2]
        refine hK0.out _ _ trivial (fun hHeld => ?_)
        clear hK0 K0 hW hg2
        try simp only [Act.put, qGa, qGb, qGc, qSa, qSb, qSc]
        rw [HG.out]
        exact H_0 _ L hd2 hk2 hL2 hLb2
      · go_simp
        refine (l1Below_any B g 5 _ hd ⟨by decide, by decide⟩).mono ?_
        rintro e w2 ⟨r1, rfl, hr10, -, ho, hd2⟩
        have hr1 : (r1 : Int) < 5 := hr10 (by omega)
        have hnr1 : (0 : Int) ≤ r1 := by omega
        have hk2 := hk.trans ho.keeps
        clear ho
        go_wp2_with fail
        refine hK2.out _ _ trivial (fun hHeld => ?_)
        clear hK2 K2
        try simp only [Act.put, qGa, qGb, qGc, qSa, qSb, qSc]
        rw [HG.out]
        exact H_2 _ r1 hd2 hk2 hr1
      · obtain ⟨w2, hW⟩ : ∃ x, x = w1.alloc (.cells #[.int .i64 0, .int .i64 0, .int .i64 0, .int .i64 0] 60) := ⟨_, rfl⟩
        obtain ⟨A, hg2⟩ : ∃ x, x = w1.heap.size := ⟨_, rfl⟩
        have hA2 : Blk w2 A 60 #[.int .i64 0, .int .i64 0, .int .i64 0, .int .i64 0] := by rw [hW, hg2]; exact Blk.new _ _ _
        have hd2 : Dice B g w2 := by rw [hW]; exact hd.alloc _
        have hk2 : Keeps g wa w2 := by rw [hW]; exact hk.trans (Keeps.alloc _ _ _)
        have hAb2 : wa.heap.size ≤ A := by rw [hg2]; exact hk.size
        go_simp
        rw [← hW, ← hg2]
        refine hK11.out _ _ trivial (fun hHeld => ?_)
        clear hK11 K11 hW hg2
        try simp only [Act.put, qGa, qGb, qGc, qSa, qSb, qSc]
        rw [HG.out]
        exact H_11 _ A hd2 hk2 hA2 hAb2
    exact H_start
  case rest =>
    obtain ⟨ga, y, n, m, rfl, hE, hga, hy, hn, hm, hkE, hdE⟩ := hcut
    have z0 := hE.cell 0; have z1 := hE.cell 1; have z2 := hE.cell 2; have z3 := hE.cell 3
    have hgA := hda.hg
    have hne : ga ≠ g := by omega
    by_cases h2 : y = 2
    · subst h2
      have hdD := hdE.below (Below.refl wc.heap.size wc).drew
      have hi2 : I64 2 := ⟨by decide, by decide⟩
      have hED : Blk wc.drew ga 60 #[.int .i64 2, .int .i64 n, .int .i64 0, .int .i64 m] := hE
      have w1 : IntKind.i64.wrap (n + 1) = n + 1 := by rw [IntKind.wrap_i64]; omega
      go_upto_region 3 with fail
      go_cut [24] (fun s24 wx => ∃ t : Int, (0 ≤ t ∧ t ≤ 2) ∧ Blk wx ga 60 #[.int .i64 2, .int .i64 n, .int .i64 t, .int .i64 m] ∧ Keeps g wa wx ∧ Dice B g wx)
      case first =>
        go_region_with (first
          | (go_at_call_of 30 (Value.int IntKind.i64 2); ((with_reducible refine (l1Below_any _ _ 2 _ hdD hi2).mono ?_); rintro e wA ⟨r, rfl, hr0, -, ho, hdA⟩; have hr2 : (r : Int) < 2 := hr0 (by omega); have hEA := hED.keeps ho.keeps hne; have q1 := hEA.cell 1; have q2 := hEA.cell 2; have v2 := hEA.frozen 2; have w2 : IntKind.i64.wrap (n + 1 + (r : Int)) = n + 1 + r := by rw [IntKind.wrap_i64]; omega)))
        all_goals
          go_wp2_with fail
          go_meet
          have hmod : 0 ≤ (n + 1 + (r : Int)).tmod 3 ∧ (n + 1 + (r : Int)).tmod 3 ≤ 2 := by
            rw [Int.tmod_eq_emod_of_nonneg (by omega)]; omega
          have hst := stored1 (k := 2) hgA hga ((hkE.trans (Keeps.of_below (Below.refl wc.heap.size wc).drew)).trans ho.keeps) hdA (.int .i64 ((n + 1 + (r : Int)).tmod 3))
          exact ⟨_, hmod, by simpa using hEA.set_ 2 _, hst.1, hst.2⟩
      case rest =>
        obtain ⟨t, ht, hE3, hk3, hd3⟩ := hcut
        clear z0 z1 z2 z3
        have z0 := hE3.cell 0; have z1 := hE3.cell 1; have z2 := hE3.cell 2; have z3 := hE3.cell 3
        have hAr := hA.keeps hk3 (by omega)
        have y0 := hAr.cell 0; have y1 := hAr.cell 1; have y2 := hAr.cell 2; have y3 := hAr.cell 3
        have f0 := hAr.frozen 0; have f1 := hAr.frozen 1; have f2 := hAr.frozen 2; have f3 := hAr.frozen 3
        have hset := hAr.set4 (.int .i64 2) (.int .i64 n) (.int .i64 t) (.int .i64 m)
        have x0 := hset.cell 0; have x1 := hset.cell 1; have x2 := hset.cell 2; have x3 := hset.cell 3
        have hst := stored4 hg hgl (hka.trans hk3) hd3 (.int .i64 2) (.int .i64 n) (.int .i64 t) (.int .i64 m)
        repeat (first | go_values | go_skip | go_guarded | go_step | go_upon)
        refine bodyPost_ret (v := .agg #[.int .i64 2, .int .i64 n, .int .i64 t, .int .i64 m]) (by simp [results, Tryz.results64, go_sem, x0, x1, x2, x3]) rfl ?_
        exact ⟨2, n, t, m, rfl, by omega, hn, by omega, hm, hst.1, hst.2⟩
    · have h2' : (y == 2) = false := by simpa using h2
      have hAr := (hA.keeps hkE (by omega))
      have y0 := hAr.cell 0; have y1 := hAr.cell 1; have y2 := hAr.cell 2; have y3 := hAr.cell 3
      have f0 := hAr.frozen 0; have f1 := hAr.frozen 1; have f2 := hAr.frozen 2; have f3 := hAr.frozen 3
      have hset := hAr.set4 (.int .i64 y) (.int .i64 n) (.int .i64 0) (.int .i64 m)
      have x0 := hset.cell 0; have x1 := hset.cell 1; have x2 := hset.cell 2; have x3 := hset.cell 3
      have hst := stored4 hg hgl (hka.trans hkE) hdE (.int .i64 y) (.int .i64 n) (.int .i64 0) (.int .i64 m)
      repeat (first | go_values | go_skip | go_guarded | go_step | go_upon)
      refine bodyPost_ret (v := .agg #[.int .i64 y, .int .i64 n, .int .i64 0, .int .i64 m]) (by simp [results, Tryz.results64, go_sem, x0, x1, x2, x3]) rfl ?_
      exact ⟨y, n, 0, m, rfl, by omega, hn, by omega, hm, hst.1, hst.2⟩
end Go.Proofs.YtoniahfdjhhalaaGreat
