/- Texts of this claim, put together. -/
import Derived.Test.YtoniahfdjhhalaaGreatP1
import Derived.Test.YtoniahfdjhhalaaGreatP5
import Derived.Test.YtoniahfdjhhalaaGreatP42

namespace Go.Proofs.YtoniahfdjhhalaaGreat
open Go.RowKit
theorem lstored8 {B g r : Nat} {w w4 : World} (hg : g < w.heap.size) (hr : w.heap.size ≤ r) (hk : Keeps g w w4) (hd : LDice B g w4) (a b c e f h i j : Value) :
    Keeps g w ((((((((w4.setCell ⟨r, 0, none⟩ a).setCell ⟨r, 1, none⟩ b).setCell ⟨r, 2, none⟩ c).setCell ⟨r, 3, none⟩ e).setCell ⟨r, 4, none⟩ f).setCell ⟨r, 5, none⟩ h).setCell ⟨r, 6, none⟩ i).setCell ⟨r, 7, none⟩ j) ∧ LDice B g ((((((((w4.setCell ⟨r, 0, none⟩ a).setCell ⟨r, 1, none⟩ b).setCell ⟨r, 2, none⟩ c).setCell ⟨r, 3, none⟩ e).setCell ⟨r, 4, none⟩ f).setCell ⟨r, 5, none⟩ h).setCell ⟨r, 6, none⟩ i).setCell ⟨r, 7, none⟩ j) := by
  have h8 := ((((((((Below.refl w.heap.size w4).setCell (p := ⟨r, 0, none⟩) hr a).setCell (p := ⟨r, 1, none⟩) hr b).setCell (p := ⟨r, 2, none⟩) hr c).setCell (p := ⟨r, 3, none⟩) hr e).setCell (p := ⟨r, 4, none⟩) hr f).setCell (p := ⟨r, 5, none⟩) hr h).setCell (p := ⟨r, 6, none⟩) hr i).setCell (p := ⟨r, 7, none⟩) hr j
  exact ⟨hk.then_below h8, hd.below h8 hg⟩
theorem lit45 (r : Nat) (h : r < 2) : (#[.int .i64 4, .int .i64 5] : Array Value)[r]? = some (.int .i64 (([4, 5] : List Int).getD r 0)) := by
  match r, h with
  | 0, _ => rfl
  | 1, _ => rfl
theorem lit45_in (r : Nat) (h : r < 2) : 4 ≤ ([4, 5] : List Int).getD r 0 ∧ ([4, 5] : List Int).getD r 0 ≤ 5 := by
  match r, h with
  | 0, _ => exact ⟨by decide, by decide⟩
  | 1, _ => exact ⟨by decide, by decide⟩
def NextSaid (B g : Nat) (w : World) (e : Ending) (w' : World) : Prop :=
  ∃ k dk dn dt dm a b c : Int, e = .returned (.agg #[.int .i64 k, .int .i64 dk, .int .i64 dn, .int .i64 dt, .int .i64 dm, .int .i64 a, .int .i64 b, .int .i64 c]) ∧ ¬ k = 6 ∧ Keeps g w w' ∧ LDice B g w'
set_option linter.unusedSimpArgs false in
set_option maxHeartbeats 10000000 in
set_option maxRecDepth 100000 in
theorem next_any (B g : Nat) (w : World) (na fa : Option Addr) (nn nc fn fc : Nat) (hd : LDice B g w) (hn1 : 1 ≤ nn) (hn2 : nn ≤ 4) (hf2 : fn ≤ 30) :
    Calls Tryz.prog 27 #[.pointer (some ⟨g, 0, none⟩), .agg #[.slice na nn nc, .slice fa fn fc]] w (NextSaid B g w) := by
  have hg := hd.hg
  obtain ⟨wa, hwa⟩ : ∃ wa, wa = (w.alloc (.cells #[.slice na nn nc, .slice fa fn fc] 33)).alloc (.cells #[.int .i64 0, .int .i64 0, .int .i64 0, .int .i64 0, .int .i64 0, .int .i64 0, .int .i64 0, .int .i64 0] 62) := ⟨_, rfl⟩
  have hN : Blk wa w.heap.size 33 #[.slice na nn nc, .slice fa fn fc] := by rw [hwa]; exact (Blk.new _ _ _).alloc _
  have hS : Blk wa (w.heap.size + 1) 62 #[.int .i64 0, .int .i64 0, .int .i64 0, .int .i64 0, .int .i64 0, .int .i64 0, .int .i64 0, .int .i64 0] := by
    rw [hwa]
    have := Blk.new (w.alloc (.cells #[.slice na nn nc, .slice fa fn fc] 33)) 62 #[.int .i64 0, .int .i64 0, .int .i64 0, .int .i64 0, .int .i64 0, .int .i64 0, .int .i64 0, .int .i64 0]
    simpa using this
  have hba : Below w.heap.size w wa := by rw [hwa]; exact ((Below.refl _ _).alloc (Nat.le_refl _) _).alloc (by simp) _
  have hda : LDice B g wa := hd.below hba hg
  have hka : Keeps g w wa := Keeps.of_below hba
  have c0 := hN.cell 0; have c1 := hN.cell 1
  have i0 : (0 : Int) < nn := by omega
  have i1 : (0 : Int) < (fn : Int) + 1 := by omega
  have w1e : IntKind.i64.wrap ((fn : Int) + 1) = (fn : Int) + 1 := by rw [IntKind.wrap_i64]; omega
  go_enter Tryz.func27, Tryz.ntmps27
  go_upto_region 1 with fail
  rw [← hwa]
  clear hwa
  go_wp2_with fail
  refine (ldBelow_any B g 8 _ hda (by decide) (by decide)).mono ?_
  rintro e w1 ⟨r, rfl, hr, ho1, hd1⟩
  have hN1 := hN.keeps ho1.keeps (by omega)
  have hS1 := hS.keeps ho1.keeps (by omega)
  have hk1 := hka.trans ho1.keeps
  clear c0 c1 hN hS ho1 hda hka hba
  have hne : ¬ w.heap.size = g := by omega
  have hne2 : w.heap.size + 1 ≠ g := by omega
  by_cases hr1 : r ≤ 1
  · have hr' : r = 0 ∨ r = 1 := by omega
    clear hN1
    rcases hr' with rfl | rfl
    all_goals
      go_wp2_with fail
      refine (ldBelow_any B g nn _ hd1 (by omega) (by omega)).mono ?_
      rintro e w2 ⟨a, rfl, ha, ho2, hd2⟩
      have hS2 := hS1.keeps ho2.keeps hne2
      have hk2 := hk1.trans ho2.keeps
      clear ho2 hd1 hS1 hk1
      go_wp2_with fail
      refine (ldBelow_any B g nn _ hd2 (by omega) (by omega)).mono ?_
      rintro e w3 ⟨b, rfl, hb, ho3, hd3⟩
      have hS3 := hS2.keeps ho3.keeps hne2
      have hk3 := hk2.trans ho3.keeps
      clear ho3 hd2 hS2 hk2
      have y0 := hS3.cell 0; have y1 := hS3.cell 1; have y2 := hS3.cell 2; have y3 := hS3.cell 3
      have y4 := hS3.cell 4; have y5 := hS3.cell 5; have y6 := hS3.cell 6; have y7 := hS3.cell 7
      have f0 := hS3.frozen 0; have f1 := hS3.frozen 1; have f2 := hS3.frozen 2; have f3 := hS3.frozen 3
      have f4 := hS3.frozen 4; have f5 := hS3.frozen 5; have f6 := hS3.frozen 6; have f7 := hS3.frozen 7
      try dsimp only
      repeat (first | go_values | go_skip | go_guarded | go_step | go_upon)
      have hset := hS3.set8 (.int .i64 2) (.int .i64 0) (.int .i64 0) (.int .i64 0) (.int .i64 0) (.int .i64 a) (.int .i64 b) (.int .i64 0)
      have x0 := hset.cell 0; have x1 := hset.cell 1; have x2 := hset.cell 2; have x3 := hset.cell 3
      have x4 := hset.cell 4; have x5 := hset.cell 5; have x6 := hset.cell 6; have x7 := hset.cell 7
      have hst := lstored8 hg (Nat.le_succ w.heap.size) hk3 hd3 (.int .i64 2) (.int .i64 0) (.int .i64 0) (.int .i64 0) (.int .i64 0) (.int .i64 a) (.int .i64 b) (.int .i64 0)
      refine bodyPost_ret (v := .agg #[.int .i64 2, .int .i64 0, .int .i64 0, .int .i64 0, .int .i64 0, .int .i64 a, .int .i64 b, .int .i64 0]) (by simp [results, Tryz.results27, go_sem, x0, x1, x2, x3, x4, x5, x6, x7]) rfl ?_
      exact ⟨_, _, _, _, _, _, _, _, rfl, by omega, hst.1, hst.2⟩
  by_cases hr3 : r ≤ 3
  · have hr' : r = 2 ∨ r = 3 := by omega
    clear hN1
    rcases hr' with rfl | rfl
    all_goals
      go_wp2_with fail
      refine (ldBelow_any B g ((fn : Int) + 1) _ hd1 (by omega) (by omega)).mono ?_
      rintro e w2 ⟨a, rfl, ha, ho2, hd2⟩
      have hS2 := hS1.keeps ho2.keeps hne2
      have hk2 := hk1.trans ho2.keeps
      clear ho2 hd1 hS1 hk1
      have y0 := hS2.cell 0; have y1 := hS2.cell 1; have y2 := hS2.cell 2; have y3 := hS2.cell 3
      have y4 := hS2.cell 4; have y5 := hS2.cell 5; have y6 := hS2.cell 6; have y7 := hS2.cell 7
      have f0 := hS2.frozen 0; have f1 := hS2.frozen 1; have f2 := hS2.frozen 2; have f3 := hS2.frozen 3
      have f4 := hS2.frozen 4; have f5 := hS2.frozen 5; have f6 := hS2.frozen 6; have f7 := hS2.frozen 7
      try dsimp only
      repeat (first | go_values | go_skip | go_guarded | go_step | go_upon)
      have hset := hS2.set8 (.int .i64 3) (.int .i64 0) (.int .i64 0) (.int .i64 0) (.int .i64 0) (.int .i64 a) (.int .i64 0) (.int .i64 0)
      have x0 := hset.cell 0; have x1 := hset.cell 1; have x2 := hset.cell 2; have x3 := hset.cell 3
      have x4 := hset.cell 4; have x5 := hset.cell 5; have x6 := hset.cell 6; have x7 := hset.cell 7
      have hst := lstored8 hg (Nat.le_succ w.heap.size) hk2 hd2 (.int .i64 3) (.int .i64 0) (.int .i64 0) (.int .i64 0) (.int .i64 0) (.int .i64 a) (.int .i64 0) (.int .i64 0)
      refine bodyPost_ret (v := .agg #[.int .i64 3, .int .i64 0, .int .i64 0, .int .i64 0, .int .i64 0, .int .i64 a, .int .i64 0, .int .i64 0]) (by simp [results, Tryz.results27, go_sem, x0, x1, x2, x3, x4, x5, x6, x7]) rfl ?_
      exact ⟨_, _, _, _, _, _, _, _, rfl, by omega, hst.1, hst.2⟩
  by_cases hr4 : r = 4
  · subst hr4
    clear hN1
    go_upto_region 11 with fail
    refine wp_region_held_drew (S := fun _ => True) (by kernel_rfl) trivial (fun hHeld => ?_)
    obtain ⟨W0, hW0⟩ : ∃ x, x = w1.drew := ⟨_, rfl⟩
    have hbW : Below w1.heap.size w1 W0 := by rw [hW0]; exact (Below.refl _ _).drew
    have hdW : LDice B g W0 := hd1.below hbW hd1.hg
    have hkW : Keeps g w W0 := hk1.trans (Keeps.of_below hbW)
    have hSW : Blk W0 (w.heap.size + 1) 62 #[.int .i64 0, .int .i64 0, .int .i64 0, .int .i64 0, .int .i64 0, .int .i64 0, .int .i64 0, .int .i64 0] := hS1.below hbW hS1.lt
    rw [← hW0]
    clear hW0 hbW hd1 hk1 hS1
    refine tk (i := 1) (v := ?vi1) rfl (by kernel_rfl) (fun _ _ _ h => h) (Or.inl ⟨by rfl, ?hyi1⟩) (by assumption) ?ri1
    case hyi1 => (intro w hSw; (try dsimp only at hSw); go_simp; try with_reducible rfl)
    try simp only [Act.put, qGa, qGb, qGc, qSa, qSb, qSc]
    refine tk (i := 5) (v := ?vi5) rfl (by kernel_rfl) (fun _ _ _ h => h) (Or.inl ⟨by rfl, ?hyi5⟩) (by assumption) ?ri5
    case hyi5 => (intro w hSw; (try dsimp only at hSw); go_simp; try with_reducible rfl)
    try simp only [Act.put, qGa, qGb, qGc, qSa, qSb, qSc]
    refine tk (i := 6) (v := ?vi6) rfl (by kernel_rfl) (fun _ _ _ h => h) (Or.inl ⟨by rfl, ?hyi6⟩) (by assumption) ?ri6
    case hyi6 => (intro w hSw; (try dsimp only at hSw); go_simp; try with_reducible rfl)
    try simp only [Act.put, qGa, qGb, qGc, qSa, qSb, qSc]
    refine tk (i := 7) (v := ?vi7) rfl (by kernel_rfl) (fun _ _ _ h => h) (Or.inl ⟨by rfl, ?hyi7⟩) (by assumption) ?ri7
    case hyi7 => (intro w hSw; (try dsimp only at hSw); go_simp; try with_reducible rfl)
    try simp only [Act.put, qGa, qGb, qGc, qSa, qSb, qSc]
    generalize hG : wpAnyH _ _ _ _ _ = G
    have HG := Lib.hid hG
    clear hG
    change G 7 #[false, true, false, false, false, true, true, true, false, false, false] { tmps := #[.pointer (some ⟨g, 0, none⟩), .agg #[.slice na nn nc, .slice fa fn fc], undef, .pointer (some ⟨w.heap.size, 0, none⟩), .pointer (some ⟨w.heap.size + 1, 0, none⟩), .int .i64 nn, .int .i64 fn, .pointer (some ⟨w.heap.size, 0, none⟩), .slice na nn nc, .int .i64 nn, .pointer (some ⟨w.heap.size, 1, none⟩), .slice fa fn fc, .int .i64 fn, .pointer (some ⟨g, 0, none⟩), .int .i64 4, .bool false, .bool false, .bool false, undef, undef, undef, undef, undef, undef, undef, .bool false, .bool false, .bool false, undef, undef, undef, undef, undef, .bool true, .bool true, undef, .pointer (some ⟨g, 0, none⟩), undef, undef, undef, .pointer (some ⟨g, 0, none⟩), .int .i64 fn, .int .i64 ((fn : Int) + 1), undef, undef, undef, undef, undef, undef, undef, undef, undef, undef, undef, undef, undef, undef, undef], defers := [] } W0
    have H_0_2_4_8 : ∀ (w1 : World) (L : Nat) (r1 : Nat) (y : Int) (r2 : Nat), LDice B g w1 → Keeps g w w1 → Blk w1 (w.heap.size + 1) 62 #[.int .i64 0, .int .i64 0, .int .i64 0, .int .i64 0, .int .i64 0, .int .i64 0, .int .i64 0, .int .i64 0] → Blk w1 L 2 #[.int .i64 4, .int .i64 5] → w.heap.size ≤ L → (r1 : Int) < 2 → 4 ≤ y ∧ y ≤ 5 → (r2 : Int) < (fn : Int) + 1 → G 1 #[true, true, true, true, true, true, true, true, true, true, false] { tmps := #[.pointer (some ⟨g, 0, none⟩), .agg #[.slice na nn nc, .slice fa fn fc], undef, .pointer (some ⟨w.heap.size, 0, none⟩), .pointer (some ⟨w.heap.size + 1, 0, none⟩), .int .i64 nn, .int .i64 fn, .pointer (some ⟨w.heap.size, 0, none⟩), .slice na nn nc, .int .i64 nn, .pointer (some ⟨w.heap.size, 1, none⟩), .slice fa fn fc, .int .i64 fn, .pointer (some ⟨g, 0, none⟩), .int .i64 4, .bool false, .bool false, .bool false, undef, undef, undef, undef, undef, undef, undef, .bool false, .bool false, .bool false, undef, undef, undef, undef, undef, .bool true, .bool true, .slice (some ⟨L, 0, none⟩) 2 2, .pointer (some ⟨g, 0, none⟩), .int .i64 r1, .pointer (some ⟨L, r1, none⟩), .int .i64 y, .pointer (some ⟨g, 0, none⟩), .int .i64 fn, .int .i64 ((fn : Int) + 1), .int .i64 r2, .agg #[.int .i64 y, .int .i64 0, .int .i64 0, .int .i64 0, .int .i64 0, .int .i64 r2, .int .i64 0, .int .i64 0], undef, undef, undef, undef, undef, undef, undef, undef, undef, undef, undef, undef, undef], defers := [] } w1 := by
      intro w1 L r1 y r2 hd hk hS hL hLb hr1 hy hr2
      rw [← HG.out]
      have y0 := hS.cell 0; have y1 := hS.cell 1; have y2 := hS.cell 2; have y3 := hS.cell 3
      have y4 := hS.cell 4; have y5 := hS.cell 5; have y6 := hS.cell 6; have y7 := hS.cell 7
      have f0 := hS.frozen 0; have f1 := hS.frozen 1; have f2 := hS.frozen 2; have f3 := hS.frozen 3
      have f4 := hS.frozen 4; have f5 := hS.frozen 5; have f6 := hS.frozen 6; have f7 := hS.frozen 7
      refine wpAnyH_ready (rs := [10]) (by kernel_rfl) (by simp) ?_
      refine AllReadyH.cons rfl (fun KS hKS => ?_) AllReadyH.nil
      go_simp
      refine hKS.out _ _ trivial (fun hHeld => ?_)
      clear hKS KS
      try simp only [Act.put, qGa, qGb, qGc, qSa, qSb, qSc]
      refine wpAnyH_done (by kernel_rfl) ?_ _
      try dsimp only
      repeat (first | go_values | go_skip | go_guarded | go_step | go_upon)
      have hset := hS.set8 (.int .i64 y) (.int .i64 0) (.int .i64 0) (.int .i64 0) (.int .i64 0) (.int .i64 r2) (.int .i64 0) (.int .i64 0)
      have x0 := hset.cell 0; have x1 := hset.cell 1; have x2 := hset.cell 2; have x3 := hset.cell 3
      have x4 := hset.cell 4; have x5 := hset.cell 5; have x6 := hset.cell 6; have x7 := hset.cell 7
      have hst := lstored8 hg (Nat.le_succ w.heap.size) hk hd (.int .i64 y) (.int .i64 0) (.int .i64 0) (.int .i64 0) (.int .i64 0) (.int .i64 r2) (.int .i64 0) (.int .i64 0)
      refine bodyPost_ret (v := .agg #[.int .i64 y, .int .i64 0, .int .i64 0, .int .i64 0, .int .i64 0, .int .i64 r2, .int .i64 0, .int .i64 0]) (by simp [results, Tryz.results27, go_sem, x0, x1, x2, x3, x4, x5, x6, x7]) rfl ?_
      exact ⟨_, _, _, _, _, _, _, _, rfl, by omega, hst.1, hst.2⟩
    have H_0_2_4 : ∀ (w1 : World) (L : Nat) (r1 : Nat) (y : Int), LDice B g w1 → Keeps g w w1 → Blk w1 (w.heap.size + 1) 62 #[.int .i64 0, .int .i64 0, .int .i64 0, .int .i64 0, .int .i64 0, .int .i64 0, .int .i64 0, .int .i64 0] → Blk w1 L 2 #[.int .i64 4, .int .i64 5] → w.heap.size ≤ L → (r1 : Int) < 2 → 4 ≤ y ∧ y ≤ 5 → G 3 #[true, true, true, true, true, true, true, true, false, false, false] { tmps := #[.pointer (some ⟨g, 0, none⟩), .agg #[.slice na nn nc, .slice fa fn fc], undef, .pointer (some ⟨w.heap.size, 0, none⟩), .pointer (some ⟨w.heap.size + 1, 0, none⟩), .int .i64 nn, .int .i64 fn, .pointer (some ⟨w.heap.size, 0, none⟩), .slice na nn nc, .int .i64 nn, .pointer (some ⟨w.heap.size, 1, none⟩), .slice fa fn fc, .int .i64 fn, .pointer (some ⟨g, 0, none⟩), .int .i64 4, .bool false, .bool false, .bool false, undef, undef, undef, undef, undef, undef, undef, .bool false, .bool false, .bool false, undef, undef, undef, undef, undef, .bool true, .bool true, .slice (some ⟨L, 0, none⟩) 2 2, .pointer (some ⟨g, 0, none⟩), .int .i64 r1, .pointer (some ⟨L, r1, none⟩), .int .i64 y, .pointer (some ⟨g, 0, none⟩), .int .i64 fn, .int .i64 ((fn : Int) + 1), undef, undef, undef, undef, undef, undef, undef, undef, undef, undef, undef, undef, undef, undef, undef], defers := [] } w1 := by
      intro w1 L r1 y hd hk hS hL hLb hr1 hy
      rw [← HG.out]
      refine wpAnyH_ready (rs := [8]) (by kernel_rfl) (by simp) ?_
      refine AllReadyH.cons rfl (fun K8 hK8 => ?_) AllReadyH.nil
      · go_simp
        refine (ldBelow_any B g ((fn : Int) + 1) _ hd (by omega) (by omega)).mono ?_
        rintro e w2 ⟨r2, rfl, hr2, ho, hd2⟩
        have hk2 := hk.trans ho.keeps
        have hS2 := hS.keeps ho.keeps (by omega)
        have hL2 := hL.keeps ho.keeps (by omega)
        clear ho
        go_wp2_with fail
        refine hK8.out _ _ trivial (fun hHeld => ?_)
        clear hK8 K8
        try simp only [Act.put, qGa, qGb, qGc, qSa, qSb, qSc]
        refine tk (i := 9) (v := ?vs2_89) rfl (by kernel_rfl) (fun _ _ _ h => h) (Or.inl ⟨by rfl, ?hys2_89⟩) (by assumption) ?rs2_89
        case hys2_89 => (intro w hSw; (try dsimp only at hSw); go_simp; try with_reducible rfl)
        try simp only [Act.put, qGa, qGb, qGc, qSa, qSb, qSc]
        rw [HG.out]
        exact H_0_2_4_8 _ L r1 y r2 hd2 hk2 hS2 hL2 hLb hr1 hy hr2
    have H_0_2_8 : ∀ (w1 : World) (L : Nat) (r1 : Nat) (r2 : Nat), LDice B g w1 → Keeps g w w1 → Blk w1 (w.heap.size + 1) 62 #[.int .i64 0, .int .i64 0, .int .i64 0, .int .i64 0, .int .i64 0, .int .i64 0, .int .i64 0, .int .i64 0] → Blk w1 L 2 #[.int .i64 4, .int .i64 5] → w.heap.size ≤ L → (r1 : Int) < 2 → (r2 : Int) < (fn : Int) + 1 → G 3 #[true, true, true, true, false, true, true, true, true, false, false] { tmps := #[.pointer (some ⟨g, 0, none⟩), .agg #[.slice na nn nc, .slice fa fn fc], undef, .pointer (some ⟨w.heap.size, 0, none⟩), .pointer (some ⟨w.heap.size + 1, 0, none⟩), .int .i64 nn, .int .i64 fn, .pointer (some ⟨w.heap.size, 0, none⟩), .slice na nn nc, .int .i64 nn, .pointer (some ⟨w.heap.size, 1, none⟩), .slice fa fn fc, .int .i64 fn, .pointer (some ⟨g, 0, none⟩), .int .i64 4, .bool false, .bool false, .bool false, undef, undef, undef, undef, undef, undef, undef, .bool false, .bool false, .bool false, undef, undef, undef, undef, undef, .bool true, .bool true, .slice (some ⟨L, 0, none⟩) 2 2, .pointer (some ⟨g, 0, none⟩), .int .i64 r1, .pointer (some ⟨L, r1, none⟩), undef, .pointer (some ⟨g, 0, none⟩), .int .i64 fn, .int .i64 ((fn : Int) + 1), .int .i64 r2, undef, undef, undef, undef, undef, undef, undef, undef, undef, undef, undef, undef, undef, undef], defers := [] } w1 := by
      intro w1 L r1 r2 hd hk hS hL hLb hr1 hr2
      rw [← HG.out]
      refine wpAnyH_ready (rs := [4]) (by kernel_rfl) (by simp) ?_
      refine AllReadyH.cons rfl (fun K4 hK4 => ?_) AllReadyH.nil
      · have q4 : w1.cell? ⟨L, r1, none⟩ = some (.int .i64 (([4, 5] : List Int).getD r1 0)) := by rw [hL.cell r1]; exact lit45 r1 (by omega)
        have hy := lit45_in r1 (by omega)
        generalize ([4, 5] : List Int).getD r1 0 = y at q4 hy
        go_simp
        refine hK4.out _ _ trivial (fun hHeld => ?_)
        clear hK4 K4 q4
        try simp only [Act.put, qGa, qGb, qGc, qSa, qSb, qSc]
        refine tk (i := 9) (v := ?vs3_49) rfl (by kernel_rfl) (fun _ _ _ h => h) (Or.inl ⟨by rfl, ?hys3_49⟩) (by assumption) ?rs3_49
        case hys3_49 => (intro w hSw; (try dsimp only at hSw); go_simp; try with_reducible rfl)
        try simp only [Act.put, qGa, qGb, qGc, qSa, qSb, qSc]
        rw [HG.out]
        exact H_0_2_4_8 _ L r1 y r2 hd hk hS hL hLb hr1 hy hr2
    have H_0_2 : ∀ (w1 : World) (L : Nat) (r1 : Nat), LDice B g w1 → Keeps g w w1 → Blk w1 (w.heap.size + 1) 62 #[.int .i64 0, .int .i64 0, .int .i64 0, .int .i64 0, .int .i64 0, .int .i64 0, .int .i64 0, .int .i64 0] → Blk w1 L 2 #[.int .i64 4, .int .i64 5] → w.heap.size ≤ L → (r1 : Int) < 2 → G 4 #[true, true, true, true, false, true, true, true, false, false, false] { tmps := #[.pointer (some ⟨g, 0, none⟩), .agg #[.slice na nn nc, .slice fa fn fc], undef, .pointer (some ⟨w.heap.size, 0, none⟩), .pointer (some ⟨w.heap.size + 1, 0, none⟩), .int .i64 nn, .int .i64 fn, .pointer (some ⟨w.heap.size, 0, none⟩), .slice na nn nc, .int .i64 nn, .pointer (some ⟨w.heap.size, 1, none⟩), .slice fa fn fc, .int .i64 fn, .pointer (some ⟨g, 0, none⟩), .int .i64 4, .bool false, .bool false, .bool false, undef, undef, undef, undef, undef, undef, undef, .bool false, .bool false, .bool false, undef, undef, undef, undef, undef, .bool true, .bool true, .slice (some ⟨L, 0, none⟩) 2 2, .pointer (some ⟨g, 0, none⟩), .int .i64 r1, .pointer (some ⟨L, r1, none⟩), undef, .pointer (some ⟨g, 0, none⟩), .int .i64 fn, .int .i64 ((fn : Int) + 1), undef, undef, undef, undef, undef, undef, undef, undef, undef, undef, undef, undef, undef, undef, undef], defers := [] } w1 := by
      intro w1 L r1 hd hk hS hL hLb hr1
      rw [← HG.out]
      refine wpAnyH_ready (rs := [4, 8]) (by kernel_rfl) (by simp) ?_
      refine AllReadyH.cons rfl (fun K4 hK4 => ?_) (AllReadyH.cons rfl (fun K8 hK8 => ?_) AllReadyH.nil)
      · have q4 : w1.cell? ⟨L, r1, none⟩ = some (.int .i64 (([4, 5] : List Int).getD r1 0)) := by rw [hL.cell r1]; exact lit45 r1 (by omega)
        have hy := lit45_in r1 (by omega)
        generalize ([4, 5] : List Int).getD r1 0 = y at q4 hy
        go_simp
        refine hK4.out _ _ trivial (fun hHeld => ?_)
        clear hK4 K4 q4
        try simp only [Act.put, qGa, qGb, qGc, qSa, qSb, qSc]
        rw [HG.out]
        exact H_0_2_4 _ L r1 y hd hk hS hL hLb hr1 hy
      · go_simp
        refine (ldBelow_any B g ((fn : Int) + 1) _ hd (by omega) (by omega)).mono ?_
        rintro e w2 ⟨r2, rfl, hr2, ho, hd2⟩
        have hk2 := hk.trans ho.keeps
        have hS2 := hS.keeps ho.keeps (by omega)
        have hL2 := hL.keeps ho.keeps (by omega)
        clear ho
        go_wp2_with fail
        refine hK8.out _ _ trivial (fun hHeld => ?_)
        clear hK8 K8
        try simp only [Act.put, qGa, qGb, qGc, qSa, qSb, qSc]
        rw [HG.out]
        exact H_0_2_8 _ L r1 r2 hd2 hk2 hS2 hL2 hLb hr1 hr2
    have H_2_8 : ∀ (w1 : World) (r1 : Nat) (r2 : Nat), LDice B g w1 → Keeps g w w1 → Blk w1 (w.heap.size + 1) 62 #[.int .i64 0, .int .i64 0, .int .i64 0, .int .i64 0, .int .i64 0, .int .i64 0, .int .i64 0, .int .i64 0] → (r1 : Int) < 2 → (r2 : Int) < (fn : Int) + 1 → G 5 #[false, true, true, false, false, true, true, true, true, false, false] { tmps := #[.pointer (some ⟨g, 0, none⟩), .agg #[.slice na nn nc, .slice fa fn fc], undef, .pointer (some ⟨w.heap.size, 0, none⟩), .pointer (some ⟨w.heap.size + 1, 0, none⟩), .int .i64 nn, .int .i64 fn, .pointer (some ⟨w.heap.size, 0, none⟩), .slice na nn nc, .int .i64 nn, .pointer (some ⟨w.heap.size, 1, none⟩), .slice fa fn fc, .int .i64 fn, .pointer (some ⟨g, 0, none⟩), .int .i64 4, .bool false, .bool false, .bool false, undef, undef, undef, undef, undef, undef, undef, .bool false, .bool false, .bool false, undef, undef, undef, undef, undef, .bool true, .bool true, undef, .pointer (some ⟨g, 0, none⟩), .int .i64 r1, undef, undef, .pointer (some ⟨g, 0, none⟩), .int .i64 fn, .int .i64 ((fn : Int) + 1), .int .i64 r2, undef, undef, undef, undef, undef, undef, undef, undef, undef, undef, undef, undef, undef, undef], defers := [] } w1 := by
      intro w1 r1 r2 hd hk hS hr1 hr2
      rw [← HG.out]
      refine wpAnyH_ready (rs := [0]) (by kernel_rfl) (by simp) ?_
      refine AllReadyH.cons rfl (fun K0 hK0 => ?_) AllReadyH.nil
      · obtain ⟨w2, hW⟩ : ∃ x, x = w1.alloc (.cells #[.int .i64 4, .int .i64 5] 2) := ⟨_, rfl⟩
        obtain ⟨L, hg2⟩ : ∃ x, x = w1.heap.size := ⟨_, rfl⟩
        have hL2 : Blk w2 L 2 #[.int .i64 4, .int .i64 5] := by rw [hW, hg2]; exact Blk.new _ _ _
        have hd2 : LDice B g w2 := by rw [hW]; exact hd.below ((Below.refl w1.heap.size w1).alloc (Nat.le_refl _) _) hd.hg
        have hk2 : Keeps g w w2 := by rw [hW]; exact hk.trans (Keeps.alloc _ _ _)
        have hS2 : Blk w2 (w.heap.size + 1) 62 #[.int .i64 0, .int .i64 0, .int .i64 0, .int .i64 0, .int .i64 0, .int .i64 0, .int .i64 0, .int .i64 0] := by rw [hW]; exact hS.alloc _
        have hLb2 : w.heap.size ≤ L := by rw [hg2]; exact hk.size
        go_simp
        rw [← hW, ← hg2]
        refine hK0.out _ _ trivial (fun hHeld => ?_)
        clear hK0 K0 hW hg2
        try simp only [Act.put, qGa, qGb, qGc, qSa, qSb, qSc]
        have hi0 : (0 : Int) ≤ r1 := by omega
        have hi5 : (r1 : Int) < 2 := hr1
        refine tk (i := 3) (v := ?vs5_03) rfl (by kernel_rfl) (fun _ _ _ h => h) (Or.inl ⟨by rfl, ?hys5_03⟩) (by assumption) ?rs5_03
        case hys5_03 => (intro w hSw; (try dsimp only at hSw); go_simp; try with_reducible rfl)
        try simp only [Act.put, qGa, qGb, qGc, qSa, qSb, qSc]
        rw [HG.out]
        exact H_0_2_8 _ L r1 r2 hd2 hk2 hS2 hL2 hLb2 hr1 hr2
    have H_0 : ∀ (w1 : World) (L : Nat), LDice B g w1 → Keeps g w w1 → Blk w1 (w.heap.size + 1) 62 #[.int .i64 0, .int .i64 0, .int .i64 0, .int .i64 0, .int .i64 0, .int .i64 0, .int .i64 0, .int .i64 0] → Blk w1 L 2 #[.int .i64 4, .int .i64 5] → w.heap.size ≤ L → G 6 #[true, true, false, false, false, true, true, true, false, false, false] { tmps := #[.pointer (some ⟨g, 0, none⟩), .agg #[.slice na nn nc, .slice fa fn fc], undef, .pointer (some ⟨w.heap.size, 0, none⟩), .pointer (some ⟨w.heap.size + 1, 0, none⟩), .int .i64 nn, .int .i64 fn, .pointer (some ⟨w.heap.size, 0, none⟩), .slice na nn nc, .int .i64 nn, .pointer (some ⟨w.heap.size, 1, none⟩), .slice fa fn fc, .int .i64 fn, .pointer (some ⟨g, 0, none⟩), .int .i64 4, .bool false, .bool false, .bool false, undef, undef, undef, undef, undef, undef, undef, .bool false, .bool false, .bool false, undef, undef, undef, undef, undef, .bool true, .bool true, .slice (some ⟨L, 0, none⟩) 2 2, .pointer (some ⟨g, 0, none⟩), undef, undef, undef, .pointer (some ⟨g, 0, none⟩), .int .i64 fn, .int .i64 ((fn : Int) + 1), undef, undef, undef, undef, undef, undef, undef, undef, undef, undef, undef, undef, undef, undef, undef], defers := [] } w1 := by
      intro w1 L hd hk hS hL hLb
      rw [← HG.out]
      refine wpAnyH_ready (rs := [2]) (by kernel_rfl) (by simp) ?_
      refine AllReadyH.cons rfl (fun K2 hK2 => ?_) AllReadyH.nil
      · go_simp
        refine (ldBelow_any B g 2 _ hd (by omega) (by omega)).mono ?_
        rintro e w2 ⟨r1, rfl, hr1, ho, hd2⟩
        have hk2 := hk.trans ho.keeps
        have hS2 := hS.keeps ho.keeps (by omega)
        have hL2 := hL.keeps ho.keeps (by omega)
        clear ho
        go_wp2_with fail
        refine hK2.out _ _ trivial (fun hHeld => ?_)
        clear hK2 K2
        try simp only [Act.put, qGa, qGb, qGc, qSa, qSb, qSc]
        have hi0 : (0 : Int) ≤ r1 := by omega
        have hi5 : (r1 : Int) < 2 := hr1
        refine tk (i := 3) (v := ?vs6_23) rfl (by kernel_rfl) (fun _ _ _ h => h) (Or.inl ⟨by rfl, ?hys6_23⟩) (by assumption) ?rs6_23
        case hys6_23 => (intro w hSw; (try dsimp only at hSw); go_simp; try with_reducible rfl)
        try simp only [Act.put, qGa, qGb, qGc, qSa, qSb, qSc]
        rw [HG.out]
        exact H_0_2 _ L r1 hd2 hk2 hS2 hL2 hLb hr1
    have H_2 : ∀ (w1 : World) (r1 : Nat), LDice B g w1 → Keeps g w w1 → Blk w1 (w.heap.size + 1) 62 #[.int .i64 0, .int .i64 0, .int .i64 0, .int .i64 0, .int .i64 0, .int .i64 0, .int .i64 0, .int .i64 0] → (r1 : Int) < 2 → G 6 #[false, true, true, false, false, true, true, true, false, false, false] { tmps := #[.pointer (some ⟨g, 0, none⟩), .agg #[.slice na nn nc, .slice fa fn fc], undef, .pointer (some ⟨w.heap.size, 0, none⟩), .pointer (some ⟨w.heap.size + 1, 0, none⟩), .int .i64 nn, .int .i64 fn, .pointer (some ⟨w.heap.size, 0, none⟩), .slice na nn nc, .int .i64 nn, .pointer (some ⟨w.heap.size, 1, none⟩), .slice fa fn fc, .int .i64 fn, .pointer (some ⟨g, 0, none⟩), .int .i64 4, .bool false, .bool false, .bool false, undef, undef, undef, undef, undef, undef, undef, .bool false, .bool false, .bool false, undef, undef, undef, undef, undef, .bool true, .bool true, undef, .pointer (some ⟨g, 0, none⟩), .int .i64 r1, undef, undef, .pointer (some ⟨g, 0, none⟩), .int .i64 fn, .int .i64 ((fn : Int) + 1), undef, undef, undef, undef, undef, undef, undef, undef, undef, undef, undef, undef, undef, undef, undef], defers := [] } w1 := by
      intro w1 r1 hd hk hS hr1
      rw [← HG.out]
      refine wpAnyH_ready (rs := [0, 8]) (by kernel_rfl) (by simp) ?_
      refine AllReadyH.cons rfl (fun K0 hK0 => ?_) (AllReadyH.cons rfl (fun K8 hK8 => ?_) AllReadyH.nil)
      · obtain ⟨w2, hW⟩ : ∃ x, x = w1.alloc (.cells #[.int .i64 4, .int .i64 5] 2) := ⟨_, rfl⟩
        obtain ⟨L, hg2⟩ : ∃ x, x = w1.heap.size := ⟨_, rfl⟩
        have hL2 : Blk w2 L 2 #[.int .i64 4, .int .i64 5] := by rw [hW, hg2]; exact Blk.new _ _ _
        have hd2 : LDice B g w2 := by rw [hW]; exact hd.below ((Below.refl w1.heap.size w1).alloc (Nat.le_refl _) _) hd.hg
        have hk2 : Keeps g w w2 := by rw [hW]; exact hk.trans (Keeps.alloc _ _ _)
        have hS2 : Blk w2 (w.heap.size + 1) 62 #[.int .i64 0, .int .i64 0, .int .i64 0, .int .i64 0, .int .i64 0, .int .i64 0, .int .i64 0, .int .i64 0] := by rw [hW]; exact hS.alloc _
        have hLb2 : w.heap.size ≤ L := by rw [hg2]; exact hk.size
        go_simp
        rw [← hW, ← hg2]
        refine hK0.out _ _ trivial (fun hHeld => ?_)
        clear hK0 K0 hW hg2
        try simp only [Act.put, qGa, qGb, qGc, qSa, qSb, qSc]
        have hi0 : (0 : Int) ≤ r1 := by omega
        have hi5 : (r1 : Int) < 2 := hr1
        refine tk (i := 3) (v := ?vs7_03) rfl (by kernel_rfl) (fun _ _ _ h => h) (Or.inl ⟨by rfl, ?hys7_03⟩) (by assumption) ?rs7_03
        case hys7_03 => (intro w hSw; (try dsimp only at hSw); go_simp; try with_reducible rfl)
        try simp only [Act.put, qGa, qGb, qGc, qSa, qSb, qSc]
        rw [HG.out]
        exact H_0_2 _ L r1 hd2 hk2 hS2 hL2 hLb2 hr1
      · go_simp
        refine (ldBelow_any B g ((fn : Int) + 1) _ hd (by omega) (by omega)).mono ?_
        rintro e w2 ⟨r2, rfl, hr2, ho, hd2⟩
        have hk2 := hk.trans ho.keeps
        have hS2 := hS.keeps ho.keeps (by omega)
        clear ho
        go_wp2_with fail
        refine hK8.out _ _ trivial (fun hHeld => ?_)
        clear hK8 K8
        try simp only [Act.put, qGa, qGb, qGc, qSa, qSb, qSc]
        rw [HG.out]
        exact H_2_8 _ r1 r2 hd2 hk2 hS2 hr1 hr2
    have H_start : ∀ (w1 : World), LDice B g w1 → Keeps g w w1 → Blk w1 (w.heap.size + 1) 62 #[.int .i64 0, .int .i64 0, .int .i64 0, .int .i64 0, .int .i64 0, .int .i64 0, .int .i64 0, .int .i64 0] → G 7 #[false, true, false, false, false, true, true, true, false, false, false] { tmps := #[.pointer (some ⟨g, 0, none⟩), .agg #[.slice na nn nc, .slice fa fn fc], undef, .pointer (some ⟨w.heap.size, 0, none⟩), .pointer (some ⟨w.heap.size + 1, 0, none⟩), .int .i64 nn, .int .i64 fn, .pointer (some ⟨w.heap.size, 0, none⟩), .slice na nn nc, .int .i64 nn, .pointer (some ⟨w.heap.size, 1, none⟩), .slice fa fn fc, .int .i64 fn, .pointer (some ⟨g, 0, none⟩), .int .i64 4, .bool false, .bool false, .bool false, undef, undef, undef, undef, undef, undef, undef, .bool false, .bool false, .bool false, undef, undef, undef, undef, undef, .bool true, .bool true, undef, .pointer (some ⟨g, 0, none⟩), undef, undef, undef, .pointer (some ⟨g, 0, none⟩), .int .i64 fn, .int .i64 ((fn : Int) + 1), undef, undef, undef, undef, undef, undef, undef, undef, undef, undef, undef, undef, undef, undef, undef], defers := [] } w1 := by
      intro w1  hd hk hS
      rw [← HG.out]
      refine wpAnyH_ready (rs := [0, 2]) (by kernel_rfl) (by simp) ?_
      refine AllReadyH.cons rfl (fun K0 hK0 => ?_) (AllReadyH.cons rfl (fun K2 hK2 => ?_) AllReadyH.nil)
      · obtain ⟨w2, hW⟩ : ∃ x, x = w1.alloc (.cells #[.int .i64 4, .int .i64 5] 2) := ⟨_, rfl⟩
        obtain ⟨L, hg2⟩ : ∃ x, x = w1.heap.size := ⟨_, rfl⟩
        have hL2 : Blk w2 L 2 #[.int .i64 4, .int .i64 5] := by rw [hW, hg2]; exact Blk.new _ _ _
        have hd2 : LDice B g w2 := by rw [hW]; exact hd.below ((Below.refl w1.heap.size w1).alloc (Nat.le_refl _) _) hd.hg
        have hk2 : Keeps g w w2 := by rw [hW]; exact hk.trans (Keeps.alloc _ _ _)
        have hS2 : Blk w2 (w.heap.size + 1) 62 #[.int .i64 0, .int .i64 0, .int .i64 0, .int .i64 0, .int .i64 0, .int .i64 0, .int .i64 0, .int .i64 0] := by rw [hW]; exact hS.alloc _
        have hLb2 : w.heap.size ≤ L := by rw [hg2]; exact hk.size
        go_simp
        rw [← hW, ← hg2]
        refine hK0.out _ _ trivial (fun hHeld => ?_)
        clear hK0 K0 hW hg2
        try simp only [Act.put, qGa, qGb, qGc, qSa, qSb, qSc]
        rw [HG.out]
        exact H_0 _ L hd2 hk2 hS2 hL2 hLb2
      · go_simp
        refine (ldBelow_any B g 2 _ hd (by omega) (by omega)).mono ?_
        rintro e w2 ⟨r1, rfl, hr1, ho, hd2⟩
        have hk2 := hk.trans ho.keeps
        have hS2 := hS.keeps ho.keeps (by omega)
        clear ho
        go_wp2_with fail
        refine hK2.out _ _ trivial (fun hHeld => ?_)
        clear hK2 K2
        try simp only [Act.put, qGa, qGb, qGc, qSa, qSb, qSc]
        rw [HG.out]
        exact H_2 _ r1 hd2 hk2 hS2 hr1
    exact H_start W0 hdW hkW hSW
  by_cases hr5 : r = 5
  · subst hr5
    clear hN1
    go_wp2_with fail
    refine (ldBelow_any B g 3 _ hd1 (by omega) (by omega)).mono ?_
    rintro e w2 ⟨q, rfl, hq, ho2, hd2⟩
    have hS2 := hS1.keeps ho2.keeps hne2
    have hk2 := hk1.trans ho2.keeps
    clear ho2 hd1 hS1 hk1
    by_cases hq0 : q = 0
    · subst hq0
      go_wp2_with fail
      refine (ldBelow_any B g nn _ hd2 (by omega) (by omega)).mono ?_
      rintro e w3 ⟨a, rfl, ha, ho3, hd3⟩
      have hS3 := hS2.keeps ho3.keeps hne2
      have hk3 := hk2.trans ho3.keeps
      clear ho3 hd2 hS2 hk2
      have y0 := hS3.cell 0; have y1 := hS3.cell 1; have y2 := hS3.cell 2; have y3 := hS3.cell 3
      have y4 := hS3.cell 4; have y5 := hS3.cell 5; have y6 := hS3.cell 6; have y7 := hS3.cell 7
      have f0 := hS3.frozen 0; have f1 := hS3.frozen 1; have f2 := hS3.frozen 2; have f3 := hS3.frozen 3
      have f4 := hS3.frozen 4; have f5 := hS3.frozen 5; have f6 := hS3.frozen 6; have f7 := hS3.frozen 7
      try dsimp only
      repeat (first | go_values | go_skip | go_guarded | go_step | go_upon)
      have hset := hS3.set8 (.int .i64 7) (.int .i64 0) (.int .i64 0) (.int .i64 0) (.int .i64 0) (.int .i64 a) (.int .i64 0) (.int .i64 0)
      have x0 := hset.cell 0; have x1 := hset.cell 1; have x2 := hset.cell 2; have x3 := hset.cell 3
      have x4 := hset.cell 4; have x5 := hset.cell 5; have x6 := hset.cell 6; have x7 := hset.cell 7
      have hst := lstored8 hg (Nat.le_succ w.heap.size) hk3 hd3 (.int .i64 7) (.int .i64 0) (.int .i64 0) (.int .i64 0) (.int .i64 0) (.int .i64 a) (.int .i64 0) (.int .i64 0)
      refine bodyPost_ret (v := .agg #[.int .i64 7, .int .i64 0, .int .i64 0, .int .i64 0, .int .i64 0, .int .i64 a, .int .i64 0, .int .i64 0]) (by simp [results, Tryz.results27, go_sem, x0, x1, x2, x3, x4, x5, x6, x7]) rfl ?_
      exact ⟨_, _, _, _, _, _, _, _, rfl, by omega, hst.1, hst.2⟩
    · have hq1 : ¬ (q : Int) = 0 := by omega
      go_wp2_with fail
      refine (wish_any B g nn _ hd2 (by omega) (by omega)).mono ?_
      rintro e w5 ⟨k, n, t, m, rfl, hok5, hk5, hd5⟩
      have hS5 := hS2.keeps hk5 hne2
      have hkw5 := hk2.trans hk5
      clear hok5 hk5 hd2 hS2 hk2
      have y0 := hS5.cell 0; have y1 := hS5.cell 1; have y2 := hS5.cell 2; have y3 := hS5.cell 3
      have y4 := hS5.cell 4; have y5 := hS5.cell 5; have y6 := hS5.cell 6; have y7 := hS5.cell 7
      have f0 := hS5.frozen 0; have f1 := hS5.frozen 1; have f2 := hS5.frozen 2; have f3 := hS5.frozen 3
      have f4 := hS5.frozen 4; have f5 := hS5.frozen 5; have f6 := hS5.frozen 6; have f7 := hS5.frozen 7
      try dsimp only
      repeat (first | go_values | go_skip | go_guarded | go_step | go_upon)
      have hset := hS5.set8 (.int .i64 1) (.int .i64 k) (.int .i64 n) (.int .i64 t) (.int .i64 m) (.int .i64 0) (.int .i64 0) (.int .i64 0)
      have x0 := hset.cell 0; have x1 := hset.cell 1; have x2 := hset.cell 2; have x3 := hset.cell 3
      have x4 := hset.cell 4; have x5 := hset.cell 5; have x6 := hset.cell 6; have x7 := hset.cell 7
      have hst := lstored8 hg (Nat.le_succ w.heap.size) hkw5 hd5 (.int .i64 1) (.int .i64 k) (.int .i64 n) (.int .i64 t) (.int .i64 m) (.int .i64 0) (.int .i64 0) (.int .i64 0)
      refine bodyPost_ret (v := .agg #[.int .i64 1, .int .i64 k, .int .i64 n, .int .i64 t, .int .i64 m, .int .i64 0, .int .i64 0, .int .i64 0]) (by simp [results, Tryz.results27, go_sem, x0, x1, x2, x3, x4, x5, x6, x7]) rfl ?_
      exact ⟨_, _, _, _, _, _, _, _, rfl, by omega, hst.1, hst.2⟩
  have hr' : r = 6 ∨ r = 7 := by omega
  clear hN1
  rcases hr' with rfl | rfl
  all_goals
    go_wp2_with fail
    refine (wish_any B g nn _ hd1 (by omega) (by omega)).mono ?_
    rintro e w5 ⟨k, n, t, m, rfl, hok5, hk5, hd5⟩
    have hS5 := hS1.keeps hk5 hne2
    have hkw5 := hk1.trans hk5
    clear hok5 hk5 hd1 hS1 hk1
    have y0 := hS5.cell 0; have y1 := hS5.cell 1; have y2 := hS5.cell 2; have y3 := hS5.cell 3
    have y4 := hS5.cell 4; have y5 := hS5.cell 5; have y6 := hS5.cell 6; have y7 := hS5.cell 7
    have f0 := hS5.frozen 0; have f1 := hS5.frozen 1; have f2 := hS5.frozen 2; have f3 := hS5.frozen 3
    have f4 := hS5.frozen 4; have f5 := hS5.frozen 5; have f6 := hS5.frozen 6; have f7 := hS5.frozen 7
    try dsimp only
    repeat (first | go_values | go_skip | go_guarded | go_step | go_upon)
    have hset := hS5.set8 (.int .i64 1) (.int .i64 k) (.int .i64 n) (.int .i64 t) (.int .i64 m) (.int .i64 0) (.int .i64 0) (.int .i64 0)
    have x0 := hset.cell 0; have x1 := hset.cell 1; have x2 := hset.cell 2; have x3 := hset.cell 3
    have x4 := hset.cell 4; have x5 := hset.cell 5; have x6 := hset.cell 6; have x7 := hset.cell 7
    have hst := lstored8 hg (Nat.le_succ w.heap.size) hkw5 hd5 (.int .i64 1) (.int .i64 k) (.int .i64 n) (.int .i64 t) (.int .i64 m) (.int .i64 0) (.int .i64 0) (.int .i64 0)
    refine bodyPost_ret (v := .agg #[.int .i64 1, .int .i64 k, .int .i64 n, .int .i64 t, .int .i64 m, .int .i64 0, .int .i64 0, .int .i64 0]) (by simp [results, Tryz.results27, go_sem, x0, x1, x2, x3, x4, x5, x6, x7]) rfl ?_
    exact ⟨_, _, _, _, _, _, _, _, rfl, by omega, hst.1, hst.2⟩
end Go.Proofs.YtoniahfdjhhalaaGreat
