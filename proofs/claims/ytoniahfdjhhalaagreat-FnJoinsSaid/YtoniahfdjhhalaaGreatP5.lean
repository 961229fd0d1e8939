/- Texts of this claim, put together. -/
import Derived.Test.YtoniahfdjhhalaaGreatP1
import Derived.Test.YtoniahfdjhhalaaGreatP3
import Derived.Test.YtoniahfdjhhalaaGreatP4

namespace Go.Proofs.YtoniahfdjhhalaaGreat
open Go.RowKit
theorem Blk.set8 {w : World} {g : Nat} {t : TypeId} {a b c d e f h i : Value} (hb : Blk w g t #[a, b, c, d, e, f, h, i]) (a' b' c' d' e' f' h' i' : Value) :
    Blk ((((((((w.setCell ⟨g, 0, none⟩ a').setCell ⟨g, 1, none⟩ b').setCell ⟨g, 2, none⟩ c').setCell ⟨g, 3, none⟩ d').setCell ⟨g, 4, none⟩ e').setCell ⟨g, 5, none⟩ f').setCell ⟨g, 6, none⟩ h').setCell ⟨g, 7, none⟩ i') g t #[a', b', c', d', e', f', h', i'] := by
  have h0 := hb.set_ 0 a'
  have h1 := h0.set_ 1 b'
  have h2 := h1.set_ 2 c'
  have h3 := h2.set_ 3 d'
  have h4 := h3.set_ 4 e'
  have h5 := h4.set_ 5 f'
  have h6 := h5.set_ 6 h'
  have h7 := h6.set_ 7 i'
  simpa using h7
theorem stored8 {B g r : Nat} {w w4 : World} (hg : g < w.heap.size) (hr : w.heap.size ≤ r) (hk : Keeps g w w4) (hd : Dice B g w4) (a b c e f h i j : Value) :
    Keeps g w ((((((((w4.setCell ⟨r, 0, none⟩ a).setCell ⟨r, 1, none⟩ b).setCell ⟨r, 2, none⟩ c).setCell ⟨r, 3, none⟩ e).setCell ⟨r, 4, none⟩ f).setCell ⟨r, 5, none⟩ h).setCell ⟨r, 6, none⟩ i).setCell ⟨r, 7, none⟩ j) ∧ Dice B g ((((((((w4.setCell ⟨r, 0, none⟩ a).setCell ⟨r, 1, none⟩ b).setCell ⟨r, 2, none⟩ c).setCell ⟨r, 3, none⟩ e).setCell ⟨r, 4, none⟩ f).setCell ⟨r, 5, none⟩ h).setCell ⟨r, 6, none⟩ i).setCell ⟨r, 7, none⟩ j) := by
  have h1 := stored4 hg hr hk hd a b c e
  have h2 := stored1 (k := 4) hg hr h1.1 h1.2 f
  have h3 := stored1 (k := 5) hg hr h2.1 h2.2 h
  have h4 := stored1 (k := 6) hg hr h3.1 h3.2 i
  exact stored1 (k := 7) hg hr h4.1 h4.2 j
theorem lit3 (r : Nat) (h : r < 3) : (#[.int .i64 4, .int .i64 5, .int .i64 7] : Array Value)[r]? = some (.int .i64 (([4, 5, 7] : List Int).getD r 0)) := by
  match r, h with
  | 0, _ => rfl
  | 1, _ => rfl
  | 2, _ => rfl
def StepSaid (B g : Nat) (w : World) (e : Ending) (w' : World) : Prop :=
  ∃ k dk dn dt dm a b c : Int, e = .returned (.agg #[.int .i64 k, .int .i64 dk, .int .i64 dn, .int .i64 dt, .int .i64 dm, .int .i64 a, .int .i64 b, .int .i64 c]) ∧ I64 k ∧ I64 dk ∧ I64 dn ∧ I64 dt ∧ I64 dm ∧ I64 a ∧ I64 b ∧ I64 c ∧ Keeps g w w' ∧ Dice B g w'
set_option linter.unusedSimpArgs false in
set_option maxHeartbeats 10000000 in
set_option maxRecDepth 100000 in
theorem l16DrawStep_any (B g : Nat) (w : World) (na fa : Option Addr) (nn nc fn fc : Nat) (hd : Dice B g w) (hn1 : 1 ≤ nn) (hn2 : nn ≤ 1048576) (hf2 : fn ≤ 1048576) :
    Calls Tryz.prog 42 #[.pointer (some ⟨g, 0, none⟩), .agg #[.slice na nn nc, .slice fa fn fc]] w (StepSaid B g w) := by
  have hg := hd.hg
  obtain ⟨wa, hwa⟩ : ∃ wa, wa = (w.alloc (.cells #[.slice na nn nc, .slice fa fn fc] 33)).alloc (.cells #[.int .i64 0, .int .i64 0, .int .i64 0, .int .i64 0, .int .i64 0, .int .i64 0, .int .i64 0, .int .i64 0] 62) := ⟨_, rfl⟩
  have hN : Blk wa w.heap.size 33 #[.slice na nn nc, .slice fa fn fc] := by rw [hwa]; exact (Blk.new _ _ _).alloc _
  have hS : Blk wa (w.heap.size + 1) 62 #[.int .i64 0, .int .i64 0, .int .i64 0, .int .i64 0, .int .i64 0, .int .i64 0, .int .i64 0, .int .i64 0] := by
    rw [hwa]
    have := Blk.new (w.alloc (.cells #[.slice na nn nc, .slice fa fn fc] 33)) 62 #[.int .i64 0, .int .i64 0, .int .i64 0, .int .i64 0, .int .i64 0, .int .i64 0, .int .i64 0, .int .i64 0]
    simpa using this
  have hda : Dice B g wa := by rw [hwa]; exact (hd.alloc _).alloc _
  have hka : Keeps g w wa := by rw [hwa]; exact (Keeps.alloc _ _ _).trans (Keeps.alloc _ _ _)
  have c0 := hN.cell 0; have c1 := hN.cell 1
  go_enter Tryz.func42, Tryz.ntmps42
  go_upto_region 1 with fail
  rw [← hwa]
  clear hwa
  go_wp2_with fail
  refine (l1Below_any B g 9 _ hda ⟨by decide, by decide⟩).mono ?_
  rintro e w1 ⟨r, rfl, hr, -, ho1, hd1⟩
  have hr : (r : Int) < 9 := hr (by omega)
  have hN1 := hN.keeps ho1.keeps (by omega)
  have hS1 := hS.keeps ho1.keeps (by omega)
  have hk1 := hka.trans ho1.keeps
  clear c0 c1 hN hS ho1 hda hka
  have hne : ¬ w.heap.size = g := by omega
  have c0 := hN1.cell 0; have c1 := hN1.cell 1
  by_cases hr3 : r ≤ 2
  · have hr' : r = 0 ∨ r = 1 ∨ r = 2 := by omega
    have hnz : ¬ (nn : Int) = 0 := by omega
    rcases hr' with rfl | rfl | rfl
    all_goals
      go_wp2_with fail
      refine (l8Draw_any B g _ hd1).mono ?_
      rintro e w2 ⟨k, n, t, m, rfl, hk, hn, ht, hm, hkp2, hd2⟩
      have hS2 := hS1.keeps hkp2 (by omega)
      have hk2 := hk1.trans hkp2
      have hsz2 := hk2.size
      obtain ⟨ge, hge⟩ : ∃ ge, ge = w2.heap.size := ⟨_, rfl⟩
      obtain ⟨w3, hw3⟩ : ∃ w3, w3 = w2.alloc (.cells #[.int .i64 k, .int .i64 n, .int .i64 t, .int .i64 m] 60) := ⟨_, rfl⟩
      have hE3 : Blk w3 ge 60 #[.int .i64 k, .int .i64 n, .int .i64 t, .int .i64 m] := by rw [hw3, hge]; exact Blk.new _ _ _
      have hS3 : Blk w3 (w.heap.size + 1) 62 #[.int .i64 0, .int .i64 0, .int .i64 0, .int .i64 0, .int .i64 0, .int .i64 0, .int .i64 0, .int .i64 0] := by rw [hw3]; exact hS2.alloc _
      have hd3 : Dice B g w3 := by rw [hw3]; exact hd2.alloc _
      have hk3 : Keeps g w w3 := by rw [hw3]; exact hk2.trans (Keeps.alloc _ _ _)
      have hlS := hS2.lt
      have hgl : w.heap.size + 1 < ge := by omega
      go_upto_region 7 with fail
      rw [← hw3, ← hge]
      clear hw3 hge c0 c1 hN1 hS1 hS2 hd1 hd2 hkp2 hk1 hk2
      have e0 := hE3.cell 0; have e1 := hE3.cell 1; have e2 := hE3.cell 2; have e3 := hE3.cell 3
      have v1 := hE3.frozen 1
      have hn4 : 0 ≤ n % (nn : Int) ∧ n % (nn : Int) < nn := ⟨Int.emod_nonneg n hnz, Int.emod_lt_of_pos n (by omega)⟩
      have hE4 : Blk (w3.setCell ⟨ge, 1, none⟩ (.int .i64 (n % (nn : Int)))) ge 60 #[.int .i64 k, .int .i64 (n % (nn : Int)), .int .i64 t, .int .i64 m] := by simpa using hE3.set_ 1 (.int .i64 (n % (nn : Int)))
      have hS4 : Blk (w3.setCell ⟨ge, 1, none⟩ (.int .i64 (n % (nn : Int)))) (w.heap.size + 1) 62 #[.int .i64 0, .int .i64 0, .int .i64 0, .int .i64 0, .int .i64 0, .int .i64 0, .int .i64 0, .int .i64 0] := hS3.far (p := ⟨ge, 1, none⟩) (by show w.heap.size + 1 ≠ ge; omega) _
      have hst4 := stored1 (k := 1) hg (Nat.le_of_lt (show w.heap.size < ge by omega)) hk3 hd3 (.int .i64 (n % (nn : Int)))
      obtain ⟨w4, hw4⟩ : ∃ w4, w4 = w3.setCell ⟨ge, 1, none⟩ (.int .i64 (n % (nn : Int))) := ⟨_, rfl⟩
      go_upto_region 8 with fail
      rw [← hw4] at hE4 hS4 hst4 ⊢
      clear hw4 e0 e1 e2 e3 v1 hE3 hS3
      generalize n % (nn : Int) = n' at hn4 hE4 hst4 ⊢
      have e0 := hE4.cell 0; have e1 := hE4.cell 1; have e2 := hE4.cell 2; have e3 := hE4.cell 3
      by_cases hkk : k = 2
      · subst hkk
        by_cases hmn : 1 < (nn : Int)
        · have hdD := hst4.2.below (Below.refl w4.heap.size w4).drew
          have hkD := hst4.1.trans (Keeps.of_below (Below.refl w4.heap.size w4).drew)
          have hED : Blk w4.drew ge 60 #[.int .i64 2, .int .i64 n', .int .i64 t, .int .i64 m] := hE4
          have hSD : Blk w4.drew (w.heap.size + 1) 62 #[.int .i64 0, .int .i64 0, .int .i64 0, .int .i64 0, .int .i64 0, .int .i64 0, .int .i64 0, .int .i64 0] := hS4
          have u1 : IntKind.i64.wrap (n' + 1) = n' + 1 := by rw [IntKind.wrap_i64]; omega
          have u2 : IntKind.i64.wrap ((nn : Int) - 1) = nn - 1 := by rw [IntKind.wrap_i64]; omega
          have hi2 : I64 ((nn : Int) - 1) := ⟨by omega, by omega⟩
          have hng : ge ≠ g := by omega
          have hns : w.heap.size + 1 ≠ g := by omega
          go_upto_region 9 with fail
          go_cut [39] (fun s39 wx => ∃ t' : Int, (0 ≤ t' ∧ t' < nn) ∧ Blk wx ge 60 #[.int .i64 2, .int .i64 n', .int .i64 t', .int .i64 m] ∧ Blk wx (w.heap.size + 1) 62 #[.int .i64 0, .int .i64 0, .int .i64 0, .int .i64 0, .int .i64 0, .int .i64 0, .int .i64 0, .int .i64 0] ∧ Keeps g w wx ∧ Dice B g wx)
          case first =>
            go_region_with (first
              | (go_at_call 30; ((with_reducible refine (l1Below_any _ _ ((nn : Int) - 1) _ hdD hi2).mono ?_); rintro e wA ⟨r2, rfl, hr0, -, ho, hdA⟩; have hr2 : (r2 : Int) < (nn : Int) - 1 := hr0 (by omega); have hEA := hED.keeps ho.keeps hng; have hSA := hSD.keeps ho.keeps hns; have q1 := hEA.cell 1; have q2 := hEA.cell 2; have v2 := hEA.frozen 2; have u3 : IntKind.i64.wrap (n' + 1 + (r2 : Int)) = n' + 1 + r2 := by rw [IntKind.wrap_i64]; omega)))
            all_goals
              go_wp2_with fail
              go_meet
              have hmod : 0 ≤ (n' + 1 + (r2 : Int)) % (nn : Int) ∧ (n' + 1 + (r2 : Int)) % (nn : Int) < nn := ⟨Int.emod_nonneg _ hnz, Int.emod_lt_of_pos _ (by omega)⟩
              have hst := stored1 (k := 2) hg (Nat.le_of_lt (show w.heap.size < ge by omega)) (hkD.trans ho.keeps) hdA (.int .i64 ((n' + 1 + (r2 : Int)) % (nn : Int)))
              exact ⟨_, hmod, by simpa using hEA.set_ 2 _, hSA.far (p := ⟨ge, 2, none⟩) (by show w.heap.size + 1 ≠ ge; omega) _, hst.1, hst.2⟩
          case rest =>
            obtain ⟨t', ht', hE6, hS6, hk6, hd6⟩ := hcut
            clear e0 e1 e2 e3
            have e0 := hE6.cell 0; have e1 := hE6.cell 1; have e2 := hE6.cell 2; have e3 := hE6.cell 3
            go_upto_region 10 with fail
            have y0 := hS6.cell 0; have y1 := hS6.cell 1; have y2 := hS6.cell 2; have y3 := hS6.cell 3
            have y4 := hS6.cell 4; have y5 := hS6.cell 5; have y6 := hS6.cell 6; have y7 := hS6.cell 7
            have f0 := hS6.frozen 0; have f1 := hS6.frozen 1; have f2 := hS6.frozen 2; have f3 := hS6.frozen 3
            have f4 := hS6.frozen 4; have f5 := hS6.frozen 5; have f6 := hS6.frozen 6; have f7 := hS6.frozen 7
            try dsimp only
            repeat (first | go_values | go_skip | go_guarded | go_step | go_upon)
            have hset := hS6.set8 (.int .i64 1) (.int .i64 2) (.int .i64 n') (.int .i64 t') (.int .i64 m) (.int .i64 0) (.int .i64 0) (.int .i64 0)
            have x0 := hset.cell 0; have x1 := hset.cell 1; have x2 := hset.cell 2; have x3 := hset.cell 3
            have x4 := hset.cell 4; have x5 := hset.cell 5; have x6 := hset.cell 6; have x7 := hset.cell 7
            have hst := stored8 hg (Nat.le_succ w.heap.size) hk6 hd6 (.int .i64 1) (.int .i64 2) (.int .i64 n') (.int .i64 t') (.int .i64 m) (.int .i64 0) (.int .i64 0) (.int .i64 0)
            refine bodyPost_ret (v := .agg #[.int .i64 1, .int .i64 2, .int .i64 n', .int .i64 t', .int .i64 m, .int .i64 0, .int .i64 0, .int .i64 0]) (by simp [results, Tryz.results42, go_sem, x0, x1, x2, x3, x4, x5, x6, x7]) rfl ?_
            exact ⟨_, _, _, _, _, _, _, _, rfl, by unfold I64; omega, by unfold I64; omega, by unfold I64; omega, by unfold I64; omega, by unfold I64; omega, by unfold I64; omega, by unfold I64; omega, by unfold I64; omega, hst.1, hst.2⟩
        · go_upto_region 10 with fail
          have y0 := hS4.cell 0; have y1 := hS4.cell 1; have y2 := hS4.cell 2; have y3 := hS4.cell 3
          have y4 := hS4.cell 4; have y5 := hS4.cell 5; have y6 := hS4.cell 6; have y7 := hS4.cell 7
          have f0 := hS4.frozen 0; have f1 := hS4.frozen 1; have f2 := hS4.frozen 2; have f3 := hS4.frozen 3
          have f4 := hS4.frozen 4; have f5 := hS4.frozen 5; have f6 := hS4.frozen 6; have f7 := hS4.frozen 7
          try dsimp only
          repeat (first | go_values | go_skip | go_guarded | go_step | go_upon)
          have hset := hS4.set8 (.int .i64 1) (.int .i64 2) (.int .i64 n') (.int .i64 t) (.int .i64 m) (.int .i64 0) (.int .i64 0) (.int .i64 0)
          have x0 := hset.cell 0; have x1 := hset.cell 1; have x2 := hset.cell 2; have x3 := hset.cell 3
          have x4 := hset.cell 4; have x5 := hset.cell 5; have x6 := hset.cell 6; have x7 := hset.cell 7
          have hst := stored8 hg (Nat.le_succ w.heap.size) hst4.1 hst4.2 (.int .i64 1) (.int .i64 2) (.int .i64 n') (.int .i64 t) (.int .i64 m) (.int .i64 0) (.int .i64 0) (.int .i64 0)
          refine bodyPost_ret (v := .agg #[.int .i64 1, .int .i64 2, .int .i64 n', .int .i64 t, .int .i64 m, .int .i64 0, .int .i64 0, .int .i64 0]) (by simp [results, Tryz.results42, go_sem, x0, x1, x2, x3, x4, x5, x6, x7]) rfl ?_
          exact ⟨_, _, _, _, _, _, _, _, rfl, by unfold I64; omega, by unfold I64; omega, by unfold I64; omega, by unfold I64; omega, by unfold I64; omega, by unfold I64; omega, by unfold I64; omega, by unfold I64; omega, hst.1, hst.2⟩
      · have hkk' : (k == 2) = false := by simpa using hkk
        go_upto_region 10 with fail
        have y0 := hS4.cell 0; have y1 := hS4.cell 1; have y2 := hS4.cell 2; have y3 := hS4.cell 3
        have y4 := hS4.cell 4; have y5 := hS4.cell 5; have y6 := hS4.cell 6; have y7 := hS4.cell 7
        have f0 := hS4.frozen 0; have f1 := hS4.frozen 1; have f2 := hS4.frozen 2; have f3 := hS4.frozen 3
        have f4 := hS4.frozen 4; have f5 := hS4.frozen 5; have f6 := hS4.frozen 6; have f7 := hS4.frozen 7
        try dsimp only
        repeat (first | go_values | go_skip | go_guarded | go_step | go_upon)
        have hset := hS4.set8 (.int .i64 1) (.int .i64 k) (.int .i64 n') (.int .i64 t) (.int .i64 m) (.int .i64 0) (.int .i64 0) (.int .i64 0)
        have x0 := hset.cell 0; have x1 := hset.cell 1; have x2 := hset.cell 2; have x3 := hset.cell 3
        have x4 := hset.cell 4; have x5 := hset.cell 5; have x6 := hset.cell 6; have x7 := hset.cell 7
        have hst := stored8 hg (Nat.le_succ w.heap.size) hst4.1 hst4.2 (.int .i64 1) (.int .i64 k) (.int .i64 n') (.int .i64 t) (.int .i64 m) (.int .i64 0) (.int .i64 0) (.int .i64 0)
        refine bodyPost_ret (v := .agg #[.int .i64 1, .int .i64 k, .int .i64 n', .int .i64 t, .int .i64 m, .int .i64 0, .int .i64 0, .int .i64 0]) (by simp [results, Tryz.results42, go_sem, x0, x1, x2, x3, x4, x5, x6, x7]) rfl ?_
        exact ⟨_, _, _, _, _, _, _, _, rfl, by unfold I64; omega, by unfold I64; omega, by unfold I64; omega, by unfold I64; omega, by unfold I64; omega, by unfold I64; omega, by unfold I64; omega, by unfold I64; omega, hst.1, hst.2⟩
  by_cases hr5 : r ≤ 4
  · have hr' : r = 3 ∨ r = 4 := by omega
    rcases hr' with rfl | rfl
    all_goals
      go_wp2_with fail
      refine (l1Below_any B g nn _ hd1 ⟨by omega, by omega⟩).mono ?_
      rintro e w2 ⟨a, rfl, ha, -, ho2, hd2⟩
      have ha : (a : Int) < nn := ha (by omega)
      have hS2 := hS1.keeps ho2.keeps (by omega)
      have hk2 := hk1.trans ho2.keeps
      clear ho2
      go_wp2_with fail
      refine (l1Below_any B g nn _ hd2 ⟨by omega, by omega⟩).mono ?_
      rintro e w3 ⟨b, rfl, hb, -, ho3, hd3⟩
      have hb : (b : Int) < nn := hb (by omega)
      have hS3 := hS2.keeps ho3.keeps (by omega)
      have hk3 := hk2.trans ho3.keeps
      clear ho3 c0 c1 hN1
      have y0 := hS3.cell 0; have y1 := hS3.cell 1; have y2 := hS3.cell 2; have y3 := hS3.cell 3
      have y4 := hS3.cell 4; have y5 := hS3.cell 5; have y6 := hS3.cell 6; have y7 := hS3.cell 7
      have f0 := hS3.frozen 0; have f1 := hS3.frozen 1; have f2 := hS3.frozen 2; have f3 := hS3.frozen 3
      have f4 := hS3.frozen 4; have f5 := hS3.frozen 5; have f6 := hS3.frozen 6; have f7 := hS3.frozen 7
      try dsimp only
      repeat (first | go_values | go_skip | go_guarded | go_step | go_upon)
      have hset := hS3.set8 (.int .i64 2) (.int .i64 0) (.int .i64 0) (.int .i64 0) (.int .i64 0) (.int .i64 a) (.int .i64 b) (.int .i64 0)
      have x0 := hset.cell 0; have x1 := hset.cell 1; have x2 := hset.cell 2; have x3 := hset.cell 3
      have x4 := hset.cell 4; have x5 := hset.cell 5; have x6 := hset.cell 6; have x7 := hset.cell 7
      have hst := stored8 hg (Nat.le_succ w.heap.size) hk3 hd3 (.int .i64 2) (.int .i64 0) (.int .i64 0) (.int .i64 0) (.int .i64 0) (.int .i64 a) (.int .i64 b) (.int .i64 0)
      refine bodyPost_ret (v := .agg #[.int .i64 2, .int .i64 0, .int .i64 0, .int .i64 0, .int .i64 0, .int .i64 a, .int .i64 b, .int .i64 0]) (by simp [results, Tryz.results42, go_sem, x0, x1, x2, x3, x4, x5, x6, x7]) rfl ?_
      exact ⟨_, _, _, _, _, _, _, _, rfl, by unfold I64; omega, by unfold I64; omega, by unfold I64; omega, by unfold I64; omega, by unfold I64; omega, by unfold I64; omega, by unfold I64; omega, by unfold I64; omega, hst.1, hst.2⟩
  by_cases hr7 : r ≤ 6
  · have hr' : r = 5 ∨ r = 6 := by omega
    rcases hr' with rfl | rfl
    all_goals
      go_wp2_with fail
      refine (l1Max_any 1 fn _).mono ?_
      rintro e w2 ⟨rfl, rfl⟩
      have hmx : 1 ≤ max 1 (fn : Int) ∧ max 1 (fn : Int) ≤ 1048576 := by omega
      generalize max 1 (fn : Int) = mx1 at hmx ⊢
      go_wp2_with fail
      refine (l1Below_any B g mx1 _ hd1 ⟨by omega, by omega⟩).mono ?_
      rintro e w3 ⟨a, rfl, ha, -, ho3, hd3⟩
      have ha : (a : Int) < mx1 := ha (by omega)
      have hS3 := hS1.keeps ho3.keeps (by omega)
      have hk3 := hk1.trans ho3.keeps
      clear ho3 c0 c1 hN1
      have y0 := hS3.cell 0; have y1 := hS3.cell 1; have y2 := hS3.cell 2; have y3 := hS3.cell 3
      have y4 := hS3.cell 4; have y5 := hS3.cell 5; have y6 := hS3.cell 6; have y7 := hS3.cell 7
      have f0 := hS3.frozen 0; have f1 := hS3.frozen 1; have f2 := hS3.frozen 2; have f3 := hS3.frozen 3
      have f4 := hS3.frozen 4; have f5 := hS3.frozen 5; have f6 := hS3.frozen 6; have f7 := hS3.frozen 7
      try dsimp only
      repeat (first | go_values | go_skip | go_guarded | go_step | go_upon)
      have hset := hS3.set8 (.int .i64 3) (.int .i64 0) (.int .i64 0) (.int .i64 0) (.int .i64 0) (.int .i64 a) (.int .i64 0) (.int .i64 0)
      have x0 := hset.cell 0; have x1 := hset.cell 1; have x2 := hset.cell 2; have x3 := hset.cell 3
      have x4 := hset.cell 4; have x5 := hset.cell 5; have x6 := hset.cell 6; have x7 := hset.cell 7
      have hst := stored8 hg (Nat.le_succ w.heap.size) hk3 hd3 (.int .i64 3) (.int .i64 0) (.int .i64 0) (.int .i64 0) (.int .i64 0) (.int .i64 a) (.int .i64 0) (.int .i64 0)
      refine bodyPost_ret (v := .agg #[.int .i64 3, .int .i64 0, .int .i64 0, .int .i64 0, .int .i64 0, .int .i64 a, .int .i64 0, .int .i64 0]) (by simp [results, Tryz.results42, go_sem, x0, x1, x2, x3, x4, x5, x6, x7]) rfl ?_
      exact ⟨_, _, _, _, _, _, _, _, rfl, by unfold I64; omega, by unfold I64; omega, by unfold I64; omega, by unfold I64; omega, by unfold I64; omega, by unfold I64; omega, by unfold I64; omega, by unfold I64; omega, hst.1, hst.2⟩
  have hr' : r = 7 ∨ r = 8 := by omega
  rcases hr' with rfl | rfl
  · go_upto_region 18 with fail
    refine wp_region_held_drew (S := fun _ => True) (by kernel_rfl) trivial (fun hHeld => ?_)
    obtain ⟨W0, hW0⟩ : ∃ x, x = w1.drew := ⟨_, rfl⟩
    have hbW : Below w1.heap.size w1 W0 := by rw [hW0]; exact (Below.refl _ _).drew
    have hdW : Dice B g W0 := hd1.below hbW
    have hkW : Keeps g w W0 := hk1.trans (Keeps.of_below hbW)
    have hSW : Blk W0 (w.heap.size + 1) 62 #[.int .i64 0, .int .i64 0, .int .i64 0, .int .i64 0, .int .i64 0, .int .i64 0, .int .i64 0, .int .i64 0] := hS1.below hbW hS1.lt
    rw [← hW0]
    clear hW0 hbW hd1 hk1 hS1 c0 c1 hN1
    refine tk (i := 1) (v := ?vi1) rfl (by kernel_rfl) (fun _ _ _ h => h) (Or.inl ⟨by rfl, ?hyi1⟩) (by assumption) ?ri1
    case hyi1 => (intro w hSw; (try dsimp only at hSw); go_simp; try with_reducible rfl)
    try simp only [Act.put, qGa, qGb, qGc, qSa, qSb, qSc]
    refine tk (i := 5) (v := ?vi5) rfl (by kernel_rfl) (fun _ _ _ h => h) (Or.inl ⟨by rfl, ?hyi5⟩) (by assumption) ?ri5
    case hyi5 => (intro w hSw; (try dsimp only at hSw); go_simp; try with_reducible rfl)
    try simp only [Act.put, qGa, qGb, qGc, qSa, qSb, qSc]
    generalize hG : wpAnyH _ _ _ _ _ = G
    have HG := Lib.hid hG
    clear hG
    change G 7 #[false, true, false, false, false, true, false, false, false] { tmps := #[.pointer (some ⟨g, 0, none⟩), .agg #[.slice na nn nc, .slice fa fn fc], undef, .pointer (some ⟨w.heap.size, 0, none⟩), .pointer (some ⟨w.heap.size + 1, 0, none⟩), .int .i64 nn, undef, .pointer (some ⟨w.heap.size, 0, none⟩), .slice na nn nc, .int .i64 nn, .pointer (some ⟨g, 0, none⟩), .int .i64 7, .bool false, .bool false, .bool false, .bool false, undef, undef, undef, undef, undef, undef, undef, undef, undef, undef, undef, undef, undef, undef, undef, undef, undef, undef, undef, undef, undef, undef, undef, undef, undef, undef, undef, .bool false, .bool false, .bool false, undef, undef, undef, undef, undef, undef, undef, .bool false, .bool false, .bool false, undef, undef, undef, undef, undef, undef, undef, .bool true, .bool true, undef, .pointer (some ⟨g, 0, none⟩), undef, undef, undef, .pointer (some ⟨g, 0, none⟩), undef, undef, undef, undef, undef, undef, undef, undef, undef, undef], defers := [] } W0
    have H_0_2_4_6 : ∀ (w1 : World) (L : Nat) (r1 : Nat) (y : Int) (r2 : Nat), Dice B g w1 → Keeps g w w1 → Blk w1 (w.heap.size + 1) 62 #[.int .i64 0, .int .i64 0, .int .i64 0, .int .i64 0, .int .i64 0, .int .i64 0, .int .i64 0, .int .i64 0] → Blk w1 L 2 #[.int .i64 4, .int .i64 5, .int .i64 7] → w.heap.size ≤ L → (r1 : Int) < 3 → 4 ≤ y ∧ y ≤ 7 → (r2 : Int) < 3 → G 1 #[true, true, true, true, true, true, true, true, false] { tmps := #[.pointer (some ⟨g, 0, none⟩), .agg #[.slice na nn nc, .slice fa fn fc], undef, .pointer (some ⟨w.heap.size, 0, none⟩), .pointer (some ⟨w.heap.size + 1, 0, none⟩), .int .i64 nn, undef, .pointer (some ⟨w.heap.size, 0, none⟩), .slice na nn nc, .int .i64 nn, .pointer (some ⟨g, 0, none⟩), .int .i64 7, .bool false, .bool false, .bool false, .bool false, undef, undef, undef, undef, undef, undef, undef, undef, undef, undef, undef, undef, undef, undef, undef, undef, undef, undef, undef, undef, undef, undef, undef, undef, undef, undef, undef, .bool false, .bool false, .bool false, undef, undef, undef, undef, undef, undef, undef, .bool false, .bool false, .bool false, undef, undef, undef, undef, undef, undef, undef, .bool true, .bool true, .slice (some ⟨L, 0, none⟩) 3 3, .pointer (some ⟨g, 0, none⟩), .int .i64 r1, .pointer (some ⟨L, r1, none⟩), .int .i64 y, .pointer (some ⟨g, 0, none⟩), .int .i64 r2, .agg #[.int .i64 y, .int .i64 0, .int .i64 0, .int .i64 0, .int .i64 0, .int .i64 r2, .int .i64 0, .int .i64 0], undef, undef, undef, undef, undef, undef, undef, undef], defers := [] } w1 := by
      intro w1 L r1 y r2 hd hk hS hL hLb hr1 hy hr2
      rw [← HG.out]
      have y0 := hS.cell 0; have y1 := hS.cell 1; have y2 := hS.cell 2; have y3 := hS.cell 3
      have y4 := hS.cell 4; have y5 := hS.cell 5; have y6 := hS.cell 6; have y7 := hS.cell 7
      have f0 := hS.frozen 0; have f1 := hS.frozen 1; have f2 := hS.frozen 2; have f3 := hS.frozen 3
      have f4 := hS.frozen 4; have f5 := hS.frozen 5; have f6 := hS.frozen 6; have f7 := hS.frozen 7
      refine wpAnyH_ready (rs := [8]) (by kernel_rfl) (by simp) ?_
      refine AllReadyH.cons rfl (fun KS hKS => ?_) AllReadyH.nil
      go_simp
      refine hKS.out _ _ trivial (fun hHeld => ?_)
      clear hKS KS
      try simp only [Act.put, qGa, qGb, qGc, qSa, qSb, qSc]
      refine wpAnyH_done (by kernel_rfl) ?_ _
      try dsimp only
      repeat (first | go_values | go_skip | go_guarded | go_step | go_upon)
      have hset := hS.set8 (.int .i64 y) (.int .i64 0) (.int .i64 0) (.int .i64 0) (.int .i64 0) (.int .i64 r2) (.int .i64 0) (.int .i64 0)
      have x0 := hset.cell 0; have x1 := hset.cell 1; have x2 := hset.cell 2; have x3 := hset.cell 3
      have x4 := hset.cell 4; have x5 := hset.cell 5; have x6 := hset.cell 6; have x7 := hset.cell 7
      have hst := stored8 hg (Nat.le_succ w.heap.size) hk hd (.int .i64 y) (.int .i64 0) (.int .i64 0) (.int .i64 0) (.int .i64 0) (.int .i64 r2) (.int .i64 0) (.int .i64 0)
      refine bodyPost_ret (v := .agg #[.int .i64 y, .int .i64 0, .int .i64 0, .int .i64 0, .int .i64 0, .int .i64 r2, .int .i64 0, .int .i64 0]) (by simp [results, Tryz.results42, go_sem, x0, x1, x2, x3, x4, x5, x6, x7]) rfl ?_
      exact ⟨_, _, _, _, _, _, _, _, rfl, by unfold I64; omega, by unfold I64; omega, by unfold I64; omega, by unfold I64; omega, by unfold I64; omega, by unfold I64; omega, by unfold I64; omega, by unfold I64; omega, hst.1, hst.2⟩
    have H_0_2_4 : ∀ (w1 : World) (L : Nat) (r1 : Nat) (y : Int), Dice B g w1 → Keeps g w w1 → Blk w1 (w.heap.size + 1) 62 #[.int .i64 0, .int .i64 0, .int .i64 0, .int .i64 0, .int .i64 0, .int .i64 0, .int .i64 0, .int .i64 0] → Blk w1 L 2 #[.int .i64 4, .int .i64 5, .int .i64 7] → w.heap.size ≤ L → (r1 : Int) < 3 → 4 ≤ y ∧ y ≤ 7 → G 3 #[true, true, true, true, true, true, false, false, false] { tmps := #[.pointer (some ⟨g, 0, none⟩), .agg #[.slice na nn nc, .slice fa fn fc], undef, .pointer (some ⟨w.heap.size, 0, none⟩), .pointer (some ⟨w.heap.size + 1, 0, none⟩), .int .i64 nn, undef, .pointer (some ⟨w.heap.size, 0, none⟩), .slice na nn nc, .int .i64 nn, .pointer (some ⟨g, 0, none⟩), .int .i64 7, .bool false, .bool false, .bool false, .bool false, undef, undef, undef, undef, undef, undef, undef, undef, undef, undef, undef, undef, undef, undef, undef, undef, undef, undef, undef, undef, undef, undef, undef, undef, undef, undef, undef, .bool false, .bool false, .bool false, undef, undef, undef, undef, undef, undef, undef, .bool false, .bool false, .bool false, undef, undef, undef, undef, undef, undef, undef, .bool true, .bool true, .slice (some ⟨L, 0, none⟩) 3 3, .pointer (some ⟨g, 0, none⟩), .int .i64 r1, .pointer (some ⟨L, r1, none⟩), .int .i64 y, .pointer (some ⟨g, 0, none⟩), undef, undef, undef, undef, undef, undef, undef, undef, undef, undef], defers := [] } w1 := by
      intro w1 L r1 y hd hk hS hL hLb hr1 hy
      rw [← HG.out]
      refine wpAnyH_ready (rs := [6]) (by kernel_rfl) (by simp) ?_
      refine AllReadyH.cons rfl (fun K6 hK6 => ?_) AllReadyH.nil
      · go_simp
        refine (l1Below_any B g 3 _ hd ⟨by decide, by decide⟩).mono ?_
        rintro e w2 ⟨r2, rfl, hr20, -, ho, hd2⟩
        have hr2 : (r2 : Int) < 3 := hr20 (by omega)
        have hk2 := hk.trans ho.keeps
        have hS2 := hS.keeps ho.keeps (by omega)
        have hL2 := hL.keeps ho.keeps (by omega)
        clear ho
        go_wp2_with fail
        refine hK6.out _ _ trivial (fun hHeld => ?_)
        clear hK6 K6
        try simp only [Act.put, qGa, qGb, qGc, qSa, qSb, qSc]
        refine tk (i := 7) (v := ?vs2_67) rfl (by kernel_rfl) (fun _ _ _ h => h) (Or.inl ⟨by rfl, ?hys2_67⟩) (by assumption) ?rs2_67
        case hys2_67 => (intro w hSw; (try dsimp only at hSw); go_simp; try with_reducible rfl)
        try simp only [Act.put, qGa, qGb, qGc, qSa, qSb, qSc]
        rw [HG.out]
        exact H_0_2_4_6 _ L r1 y r2 hd2 hk2 hS2 hL2 hLb hr1 hy hr2
    have H_0_2_6 : ∀ (w1 : World) (L : Nat) (r1 : Nat) (r2 : Nat), Dice B g w1 → Keeps g w w1 → Blk w1 (w.heap.size + 1) 62 #[.int .i64 0, .int .i64 0, .int .i64 0, .int .i64 0, .int .i64 0, .int .i64 0, .int .i64 0, .int .i64 0] → Blk w1 L 2 #[.int .i64 4, .int .i64 5, .int .i64 7] → w.heap.size ≤ L → (r1 : Int) < 3 → (r2 : Int) < 3 → G 3 #[true, true, true, true, false, true, true, false, false] { tmps := #[.pointer (some ⟨g, 0, none⟩), .agg #[.slice na nn nc, .slice fa fn fc], undef, .pointer (some ⟨w.heap.size, 0, none⟩), .pointer (some ⟨w.heap.size + 1, 0, none⟩), .int .i64 nn, undef, .pointer (some ⟨w.heap.size, 0, none⟩), .slice na nn nc, .int .i64 nn, .pointer (some ⟨g, 0, none⟩), .int .i64 7, .bool false, .bool false, .bool false, .bool false, undef, undef, undef, undef, undef, undef, undef, undef, undef, undef, undef, undef, undef, undef, undef, undef, undef, undef, undef, undef, undef, undef, undef, undef, undef, undef, undef, .bool false, .bool false, .bool false, undef, undef, undef, undef, undef, undef, undef, .bool false, .bool false, .bool false, undef, undef, undef, undef, undef, undef, undef, .bool true, .bool true, .slice (some ⟨L, 0, none⟩) 3 3, .pointer (some ⟨g, 0, none⟩), .int .i64 r1, .pointer (some ⟨L, r1, none⟩), undef, .pointer (some ⟨g, 0, none⟩), .int .i64 r2, undef, undef, undef, undef, undef, undef, undef, undef, undef], defers := [] } w1 := by
      intro w1 L r1 r2 hd hk hS hL hLb hr1 hr2
      rw [← HG.out]
      refine wpAnyH_ready (rs := [4]) (by kernel_rfl) (by simp) ?_
      refine AllReadyH.cons rfl (fun K4 hK4 => ?_) AllReadyH.nil
      · have q4 : w1.cell? ⟨L, r1, none⟩ = some (.int .i64 (([4, 5, 7] : List Int).getD r1 0)) := by rw [hL.cell r1]; exact lit3 r1 (by omega)
        have hy : (4 ≤ ([4, 5, 7] : List Int).getD r1 0 ∧ ([4, 5, 7] : List Int).getD r1 0 ≤ 7) := all_getD (P := fun x => 4 ≤ x ∧ x ≤ 7) (fun x hx => by simp at hx; omega) (by simp; omega)
        generalize ([4, 5, 7] : List Int).getD r1 0 = y at q4 hy
        go_simp
        refine hK4.out _ _ trivial (fun hHeld => ?_)
        clear hK4 K4 q4
        try simp only [Act.put, qGa, qGb, qGc, qSa, qSb, qSc]
        refine tk (i := 7) (v := ?vs3_47) rfl (by kernel_rfl) (fun _ _ _ h => h) (Or.inl ⟨by rfl, ?hys3_47⟩) (by assumption) ?rs3_47
        case hys3_47 => (intro w hSw; (try dsimp only at hSw); go_simp; try with_reducible rfl)
        try simp only [Act.put, qGa, qGb, qGc, qSa, qSb, qSc]
        rw [HG.out]
        exact H_0_2_4_6 _ L r1 y r2 hd hk hS hL hLb hr1 hy hr2
    have H_0_2 : ∀ (w1 : World) (L : Nat) (r1 : Nat), Dice B g w1 → Keeps g w w1 → Blk w1 (w.heap.size + 1) 62 #[.int .i64 0, .int .i64 0, .int .i64 0, .int .i64 0, .int .i64 0, .int .i64 0, .int .i64 0, .int .i64 0] → Blk w1 L 2 #[.int .i64 4, .int .i64 5, .int .i64 7] → w.heap.size ≤ L → (r1 : Int) < 3 → G 4 #[true, true, true, true, false, true, false, false, false] { tmps := #[.pointer (some ⟨g, 0, none⟩), .agg #[.slice na nn nc, .slice fa fn fc], undef, .pointer (some ⟨w.heap.size, 0, none⟩), .pointer (some ⟨w.heap.size + 1, 0, none⟩), .int .i64 nn, undef, .pointer (some ⟨w.heap.size, 0, none⟩), .slice na nn nc, .int .i64 nn, .pointer (some ⟨g, 0, none⟩), .int .i64 7, .bool false, .bool false, .bool false, .bool false, undef, undef, undef, undef, undef, undef, undef, undef, undef, undef, undef, undef, undef, undef, undef, undef, undef, undef, undef, undef, undef, undef, undef, undef, undef, undef, undef, .bool false, .bool false, .bool false, undef, undef, undef, undef, undef, undef, undef, .bool false, .bool false, .bool false, undef, undef, undef, undef, undef, undef, undef, .bool true, .bool true, .slice (some ⟨L, 0, none⟩) 3 3, .pointer (some ⟨g, 0, none⟩), .int .i64 r1, .pointer (some ⟨L, r1, none⟩), undef, .pointer (some ⟨g, 0, none⟩), undef, undef, undef, undef, undef, undef, undef, undef, undef, undef], defers := [] } w1 := by
      intro w1 L r1 hd hk hS hL hLb hr1
      rw [← HG.out]
      refine wpAnyH_ready (rs := [4, 6]) (by kernel_rfl) (by simp) ?_
      refine AllReadyH.cons rfl (fun K4 hK4 => ?_) (AllReadyH.cons rfl (fun K6 hK6 => ?_) AllReadyH.nil)
      · have q4 : w1.cell? ⟨L, r1, none⟩ = some (.int .i64 (([4, 5, 7] : List Int).getD r1 0)) := by rw [hL.cell r1]; exact lit3 r1 (by omega)
        have hy : (4 ≤ ([4, 5, 7] : List Int).getD r1 0 ∧ ([4, 5, 7] : List Int).getD r1 0 ≤ 7) := all_getD (P := fun x => 4 ≤ x ∧ x ≤ 7) (fun x hx => by simp at hx; omega) (by simp; omega)
        generalize ([4, 5, 7] : List Int).getD r1 0 = y at q4 hy
        go_simp
        refine hK4.out _ _ trivial (fun hHeld => ?_)
        clear hK4 K4 q4
        try simp only [Act.put, qGa, qGb, qGc, qSa, qSb, qSc]
        rw [HG.out]
        exact H_0_2_4 _ L r1 y hd hk hS hL hLb hr1 hy
      · go_simp
        refine (l1Below_any B g 3 _ hd ⟨by decide, by decide⟩).mono ?_
        rintro e w2 ⟨r2, rfl, hr20, -, ho, hd2⟩
        have hr2 : (r2 : Int) < 3 := hr20 (by omega)
        have hk2 := hk.trans ho.keeps
        have hS2 := hS.keeps ho.keeps (by omega)
        have hL2 := hL.keeps ho.keeps (by omega)
        clear ho
        go_wp2_with fail
        refine hK6.out _ _ trivial (fun hHeld => ?_)
        clear hK6 K6
        try simp only [Act.put, qGa, qGb, qGc, qSa, qSb, qSc]
        rw [HG.out]
        exact H_0_2_6 _ L r1 r2 hd2 hk2 hS2 hL2 hLb hr1 hr2
    have H_2_6 : ∀ (w1 : World) (r1 : Nat) (r2 : Nat), Dice B g w1 → Keeps g w w1 → Blk w1 (w.heap.size + 1) 62 #[.int .i64 0, .int .i64 0, .int .i64 0, .int .i64 0, .int .i64 0, .int .i64 0, .int .i64 0, .int .i64 0] → (r1 : Int) < 3 → (r2 : Int) < 3 → G 5 #[false, true, true, false, false, true, true, false, false] { tmps := #[.pointer (some ⟨g, 0, none⟩), .agg #[.slice na nn nc, .slice fa fn fc], undef, .pointer (some ⟨w.heap.size, 0, none⟩), .pointer (some ⟨w.heap.size + 1, 0, none⟩), .int .i64 nn, undef, .pointer (some ⟨w.heap.size, 0, none⟩), .slice na nn nc, .int .i64 nn, .pointer (some ⟨g, 0, none⟩), .int .i64 7, .bool false, .bool false, .bool false, .bool false, undef, undef, undef, undef, undef, undef, undef, undef, undef, undef, undef, undef, undef, undef, undef, undef, undef, undef, undef, undef, undef, undef, undef, undef, undef, undef, undef, .bool false, .bool false, .bool false, undef, undef, undef, undef, undef, undef, undef, .bool false, .bool false, .bool false, undef, undef, undef, undef, undef, undef, undef, .bool true, .bool true, undef, .pointer (some ⟨g, 0, none⟩), .int .i64 r1, undef, undef, .pointer (some ⟨g, 0, none⟩), .int .i64 r2, undef, undef, undef, undef, undef, undef, undef, undef, undef], defers := [] } w1 := by
      intro w1 r1 r2 hd hk hS hr1 hr2
      rw [← HG.out]
      refine wpAnyH_ready (rs := [0]) (by kernel_rfl) (by simp) ?_
      refine AllReadyH.cons rfl (fun K0 hK0 => ?_) AllReadyH.nil
      · obtain ⟨w2, hW⟩ : ∃ x, x = w1.alloc (.cells #[.int .i64 4, .int .i64 5, .int .i64 7] 2) := ⟨_, rfl⟩
        obtain ⟨L, hg2⟩ : ∃ x, x = w1.heap.size := ⟨_, rfl⟩
        have hL2 : Blk w2 L 2 #[.int .i64 4, .int .i64 5, .int .i64 7] := by rw [hW, hg2]; exact Blk.new _ _ _
        have hd2 : Dice B g w2 := by rw [hW]; exact hd.alloc _
        have hk2 : Keeps g w w2 := by rw [hW]; exact hk.trans (Keeps.alloc _ _ _)
        have hS2 : Blk w2 (w.heap.size + 1) 62 #[.int .i64 0, .int .i64 0, .int .i64 0, .int .i64 0, .int .i64 0, .int .i64 0, .int .i64 0, .int .i64 0] := by rw [hW]; exact hS.alloc _
        have hLb2 : w.heap.size ≤ L := by rw [hg2]; exact hk.size
        go_simp
        rw [← hW, ← hg2]
        refine hK0.out _ _ trivial (fun hHeld => ?_)
        clear hK0 K0 hW hg2
        try simp only [Act.put, qGa, qGb, qGc, qSa, qSb, qSc]
        have hi0 : (0 : Int) ≤ r1 := by omega
        have hi5 : (r1 : Int) < 3 := hr1
        refine tk (i := 3) (v := ?vs5_03) rfl (by kernel_rfl) (fun _ _ _ h => h) (Or.inl ⟨by rfl, ?hys5_03⟩) (by assumption) ?rs5_03
        case hys5_03 => (intro w hSw; (try dsimp only at hSw); go_simp; try with_reducible rfl)
        try simp only [Act.put, qGa, qGb, qGc, qSa, qSb, qSc]
        rw [HG.out]
        exact H_0_2_6 _ L r1 r2 hd2 hk2 hS2 hL2 hLb2 hr1 hr2
    have H_0 : ∀ (w1 : World) (L : Nat), Dice B g w1 → Keeps g w w1 → Blk w1 (w.heap.size + 1) 62 #[.int .i64 0, .int .i64 0, .int .i64 0, .int .i64 0, .int .i64 0, .int .i64 0, .int .i64 0, .int .i64 0] → Blk w1 L 2 #[.int .i64 4, .int .i64 5, .int .i64 7] → w.heap.size ≤ L → G 6 #[true, true, false, false, false, true, false, false, false] { tmps := #[.pointer (some ⟨g, 0, none⟩), .agg #[.slice na nn nc, .slice fa fn fc], undef, .pointer (some ⟨w.heap.size, 0, none⟩), .pointer (some ⟨w.heap.size + 1, 0, none⟩), .int .i64 nn, undef, .pointer (some ⟨w.heap.size, 0, none⟩), .slice na nn nc, .int .i64 nn, .pointer (some ⟨g, 0, none⟩), .int .i64 7, .bool false, .bool false, .bool false, .bool false, undef, undef, undef, undef, undef, undef, undef, undef, undef, undef, undef, undef, undef, undef, undef, undef, undef, undef, undef, undef, undef, undef, undef, undef, undef, undef, undef, .bool false, .bool false, .bool false, undef, undef, undef, undef, undef, undef, undef, .bool false, .bool false, .bool false, undef, undef, undef, undef, undef, undef, undef, .bool true, .bool true, .slice (some ⟨L, 0, none⟩) 3 3, .pointer (some ⟨g, 0, none⟩), undef, undef, undef, .pointer (some ⟨g, 0, none⟩), undef, undef, undef, undef, undef, undef, undef, undef, undef, undef], defers := [] } w1 := by
      intro w1 L hd hk hS hL hLb
      rw [← HG.out]
      refine wpAnyH_ready (rs := [2]) (by kernel_rfl) (by simp) ?_
      refine AllReadyH.cons rfl (fun K2 hK2 => ?_) AllReadyH.nil
      · go_simp
        refine (l1Below_any B g 3 _ hd ⟨by decide, by decide⟩).mono ?_
        rintro e w2 ⟨r1, rfl, hr10, -, ho, hd2⟩
        have hr1 : (r1 : Int) < 3 := hr10 (by omega)
        have hk2 := hk.trans ho.keeps
        have hS2 := hS.keeps ho.keeps (by omega)
        have hL2 := hL.keeps ho.keeps (by omega)
        clear ho
        go_wp2_with fail
        refine hK2.out _ _ trivial (fun hHeld => ?_)
        clear hK2 K2
        try simp only [Act.put, qGa, qGb, qGc, qSa, qSb, qSc]
        have hi0 : (0 : Int) ≤ r1 := by omega
        have hi5 : (r1 : Int) < 3 := hr1
        refine tk (i := 3) (v := ?vs6_23) rfl (by kernel_rfl) (fun _ _ _ h => h) (Or.inl ⟨by rfl, ?hys6_23⟩) (by assumption) ?rs6_23
        case hys6_23 => (intro w hSw; (try dsimp only at hSw); go_simp; try with_reducible rfl)
        try simp only [Act.put, qGa, qGb, qGc, qSa, qSb, qSc]
        rw [HG.out]
        exact H_0_2 _ L r1 hd2 hk2 hS2 hL2 hLb hr1
    have H_2 : ∀ (w1 : World) (r1 : Nat), Dice B g w1 → Keeps g w w1 → Blk w1 (w.heap.size + 1) 62 #[.int .i64 0, .int .i64 0, .int .i64 0, .int .i64 0, .int .i64 0, .int .i64 0, .int .i64 0, .int .i64 0] → (r1 : Int) < 3 → G 6 #[false, true, true, false, false, true, false, false, false] { tmps := #[.pointer (some ⟨g, 0, none⟩), .agg #[.slice na nn nc, .slice fa fn fc], undef, .pointer (some ⟨w.heap.size, 0, none⟩), .pointer (some ⟨w.heap.size + 1, 0, none⟩), .int .i64 nn, undef, .pointer (some ⟨w.heap.size, 0, none⟩), .slice na nn nc, .int .i64 nn, .pointer (some ⟨g, 0, none⟩), .int .i64 7, .bool false, .bool false, .bool false, .bool false, undef, undef, undef, undef, undef, undef, undef, undef, undef, undef, undef, undef, undef, undef, undef, undef, undef, undef, undef, undef, undef, undef, undef, undef, undef, undef, undef, .bool false, .bool false, .bool false, undef, undef, undef, undef, undef, undef, undef, .bool false, .bool false, .bool false, undef, undef, undef, undef, undef, undef, undef, .bool true, .bool true, undef, .pointer (some ⟨g, 0, none⟩), .int .i64 r1, undef, undef, .pointer (some ⟨g, 0, none⟩), undef, undef, undef, undef, undef, undef, undef, undef, undef, undef], defers := [] } w1 := by
      intro w1 r1 hd hk hS hr1
      rw [← HG.out]
      refine wpAnyH_ready (rs := [0, 6]) (by kernel_rfl) (by simp) ?_
      refine AllReadyH.cons rfl (fun K0 hK0 => ?_) (AllReadyH.cons rfl (fun K6 hK6 => ?_) AllReadyH.nil)
      · obtain ⟨w2, hW⟩ : ∃ x, x = w1.alloc (.cells #[.int .i64 4, .int .i64 5, .int .i64 7] 2) := ⟨_, rfl⟩
        obtain ⟨L, hg2⟩ : ∃ x, x = w1.heap.size := ⟨_, rfl⟩
        have hL2 : Blk w2 L 2 #[.int .i64 4, .int .i64 5, .int .i64 7] := by rw [hW, hg2]; exact Blk.new _ _ _
        have hd2 : Dice B g w2 := by rw [hW]; exact hd.alloc _
        have hk2 : Keeps g w w2 := by rw [hW]; exact hk.trans (Keeps.alloc _ _ _)
        have hS2 : Blk w2 (w.heap.size + 1) 62 #[.int .i64 0, .int .i64 0, .int .i64 0, .int .i64 0, .int .i64 0, .int .i64 0, .int .i64 0, .int .i64 0] := by rw [hW]; exact hS.alloc _
        have hLb2 : w.heap.size ≤ L := by rw [hg2]; exact hk.size
        go_simp
        rw [← hW, ← hg2]
        refine hK0.out _ _ trivial (fun hHeld => ?_)
        clear hK0 K0 hW hg2
        try simp only [Act.put, qGa, qGb, qGc, qSa, qSb, qSc]
        have hi0 : (0 : Int) ≤ r1 := by omega
        have hi5 : (r1 : Int) < 3 := hr1
        refine tk (i := 3) (v := ?vs7_03) rfl (by kernel_rfl) (fun _ _ _ h => h) (Or.inl ⟨by rfl, ?hys7_03⟩) (by assumption) ?rs7_03
        case hys7_03 => (intro w hSw; (try dsimp only at hSw); go_simp; try with_reducible rfl)
        try simp only [Act.put, qGa, qGb, qGc, qSa, qSb, qSc]
        rw [HG.out]
        exact H_0_2 _ L r1 hd2 hk2 hS2 hL2 hLb2 hr1
      · go_simp
        refine (l1Below_any B g 3 _ hd ⟨by decide, by decide⟩).mono ?_
        rintro e w2 ⟨r2, rfl, hr20, -, ho, hd2⟩
        have hr2 : (r2 : Int) < 3 := hr20 (by omega)
        have hk2 := hk.trans ho.keeps
        have hS2 := hS.keeps ho.keeps (by omega)
        clear ho
        go_wp2_with fail
        refine hK6.out _ _ trivial (fun hHeld => ?_)
        clear hK6 K6
        try simp only [Act.put, qGa, qGb, qGc, qSa, qSb, qSc]
        rw [HG.out]
        exact H_2_6 _ r1 r2 hd2 hk2 hS2 hr1 hr2
    have H_start : ∀ (w1 : World), Dice B g w1 → Keeps g w w1 → Blk w1 (w.heap.size + 1) 62 #[.int .i64 0, .int .i64 0, .int .i64 0, .int .i64 0, .int .i64 0, .int .i64 0, .int .i64 0, .int .i64 0] → G 7 #[false, true, false, false, false, true, false, false, false] { tmps := #[.pointer (some ⟨g, 0, none⟩), .agg #[.slice na nn nc, .slice fa fn fc], undef, .pointer (some ⟨w.heap.size, 0, none⟩), .pointer (some ⟨w.heap.size + 1, 0, none⟩), .int .i64 nn, undef, .pointer (some ⟨w.heap.size, 0, none⟩), .slice na nn nc, .int .i64 nn, .pointer (some ⟨g, 0, none⟩), .int .i64 7, .bool false, .bool false, .bool false, .bool false, undef, undef, undef, undef, undef, undef, undef, undef, undef, undef, undef, undef, undef, undef, undef, undef, undef, undef, undef, undef, undef, undef, undef, undef, undef, undef, undef, .bool false, .bool false, .bool false, undef, undef, undef, undef, undef, undef, undef, .bool false, .bool false, .bool false, undef, undef, undef, undef, undef, undef, undef, .bool true, .bool true, undef, .pointer (some ⟨g, 0, none⟩), undef, undef, undef, .pointer (some ⟨g, 0, none⟩), undef, undef, undef, undef, undef, undef, undef, undef, undef, undef], defers := [] } w1 := by
      intro w1  hd hk hS
      rw [← HG.out]
      refine wpAnyH_ready (rs := [0, 2]) (by kernel_rfl) (by simp) ?_
      refine AllReadyH.cons rfl (fun K0 hK0 => ?_) (AllReadyH.cons rfl (fun K2 hK2 => ?_) AllReadyH.nil)
      · obtain ⟨w2, hW⟩ : ∃ x, x = w1.alloc (.cells #[.int .i64 4, .int .i64 5, .int .i64 7] 2) := ⟨_, rfl⟩
        obtain ⟨L, hg2⟩ : ∃ x, x = w1.heap.size := ⟨_, rfl⟩
        have hL2 : Blk w2 L 2 #[.int .i64 4, .int .i64 5, .int .i64 7] := by rw [hW, hg2]; exact Blk.new _ _ _
        have hd2 : Dice B g w2 := by rw [hW]; exact hd.alloc _
        have hk2 : Keeps g w w2 := by rw [hW]; exact hk.trans (Keeps.alloc _ _ _)
        have hS2 : Blk w2 (w.heap.size + 1) 62 #[.int .i64 0, .int .i64 0, .int .i64 0, .int .i64 0, .int .i64 0, .int .i64 0, .int .i64 0, .int .i64 0] := by rw [hW]; exact hS.alloc _
        have hLb2 : w.heap.size ≤ L := by rw [hg2]; exact hk.size
        go_simp
        rw [← hW, ← hg2]
        refine hK0.out _ _ trivial (fun hHeld => ?_)
        clear hK0 K0 hW hg2
        try simp only [Act.put, qGa, qGb, qGc, qSa, qSb, qSc]
        rw [HG.out]
        exact H_0 _ L hd2 hk2 hS2 hL2 hLb2
      · go_simp
        refine (l1Below_any B g 3 _ hd ⟨by decide, by decide⟩).mono ?_
        rintro e w2 ⟨r1, rfl, hr10, -, ho, hd2⟩
        have hr1 : (r1 : Int) < 3 := hr10 (by omega)
        have hk2 := hk.trans ho.keeps
        have hS2 := hS.keeps ho.keeps (by omega)
        clear ho
        go_wp2_with fail
        refine hK2.out _ _ trivial (fun hHeld => ?_)
        clear hK2 K2
        try simp only [Act.put, qGa, qGb, qGc, qSa, qSb, qSc]
        rw [HG.out]
        exact H_2 _ r1 hd2 hk2 hS2 hr1
    exact H_start W0 hdW hkW hSW
  · go_wp2_with fail
    refine (l1Below_any B g 3 _ hd1 ⟨by decide, by decide⟩).mono ?_
    rintro e w2 ⟨a, rfl, ha, -, ho2, hd2⟩
    have ha : (a : Int) < 3 := ha (by omega)
    have hS2 := hS1.keeps ho2.keeps (by omega)
    have hk2 := hk1.trans ho2.keeps
    clear ho2
    go_wp2_with fail
    refine (l1Below_any B g 20 _ hd2 ⟨by decide, by decide⟩).mono ?_
    rintro e w3 ⟨b, rfl, hb, -, ho3, hd3⟩
    have hb : (b : Int) < 20 := hb (by omega)
    have hS3 := hS2.keeps ho3.keeps (by omega)
    have hk3 := hk2.trans ho3.keeps
    clear ho3
    go_wp2_with fail
    refine (l1Below_any B g 255 _ hd3 ⟨by decide, by decide⟩).mono ?_
    rintro e w4 ⟨c, rfl, hc, -, ho4, hd4⟩
    have hc : (c : Int) < 255 := hc (by omega)
    have hS4 := hS3.keeps ho4.keeps (by omega)
    have hk4 := hk3.trans ho4.keeps
    have hw4 : IntKind.i64.wrap (1 + (c : Int)) = 1 + c := by rw [IntKind.wrap_i64]; omega
    clear ho4 c0 c1 hN1
    have y0 := hS4.cell 0; have y1 := hS4.cell 1; have y2 := hS4.cell 2; have y3 := hS4.cell 3
    have y4 := hS4.cell 4; have y5 := hS4.cell 5; have y6 := hS4.cell 6; have y7 := hS4.cell 7
    have f0 := hS4.frozen 0; have f1 := hS4.frozen 1; have f2 := hS4.frozen 2; have f3 := hS4.frozen 3
    have f4 := hS4.frozen 4; have f5 := hS4.frozen 5; have f6 := hS4.frozen 6; have f7 := hS4.frozen 7
    try dsimp only
    repeat (first | go_values | go_skip | go_guarded | go_step | go_upon)
    have hset := hS4.set8 (.int .i64 6) (.int .i64 0) (.int .i64 0) (.int .i64 0) (.int .i64 0) (.int .i64 a) (.int .i64 b) (.int .i64 (1 + c))
    have x0 := hset.cell 0; have x1 := hset.cell 1; have x2 := hset.cell 2; have x3 := hset.cell 3
    have x4 := hset.cell 4; have x5 := hset.cell 5; have x6 := hset.cell 6; have x7 := hset.cell 7
    have hst := stored8 hg (Nat.le_succ w.heap.size) hk4 hd4 (.int .i64 6) (.int .i64 0) (.int .i64 0) (.int .i64 0) (.int .i64 0) (.int .i64 a) (.int .i64 b) (.int .i64 (1 + c))
    refine bodyPost_ret (v := .agg #[.int .i64 6, .int .i64 0, .int .i64 0, .int .i64 0, .int .i64 0, .int .i64 a, .int .i64 b, .int .i64 (1 + c)]) (by simp [results, Tryz.results42, go_sem, x0, x1, x2, x3, x4, x5, x6, x7]) rfl ?_
    exact ⟨_, _, _, _, _, _, _, _, rfl, by unfold I64; omega, by unfold I64; omega, by unfold I64; omega, by unfold I64; omega, by unfold I64; omega, by unfold I64; omega, by unfold I64; omega, by unfold I64; omega, hst.1, hst.2⟩
end Go.Proofs.YtoniahfdjhhalaaGreat
