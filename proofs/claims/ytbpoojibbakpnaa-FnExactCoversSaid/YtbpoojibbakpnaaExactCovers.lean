/- FnExactCovers: for all arguments the call returns true, and they read afterwards as before; no condition. -/
import Derived.Test.YtbpoojibbakpnaaVec
import Derived.Test.YtbpoojibbakpnaaImplVec
import Derived.Test.YtbpoojibbakpnaaCopy
import Derived.Test.YtbpoojibbakpnaaEq
import Derived.Test.YtbpoojibbakpnaaOpen
import Derived.Test.YtbpoojibbakpnaaBig
namespace Go.Proofs.Ytbpoojibbakpnaa
open Go.ChangeShapes Go.WideShapes Go.ChangeAt Go.RowKit

theorem specCovers_says (B C : Nat) (ao bo : Option Addr) (n cap m dap : Nat) (xs ys : List Int) (w : World) (hx : Ints B w ao n cap xs) (hy : Ints C w bo m dap ys) :
    Calls Try.prog 17 #[.slice ao n cap, .slice bo m dap] w (Says (.bool (covers xs ys)) w) :=
  (specCovers_any B C ao bo n cap m dap xs ys w hx hy).mono fun _ _ ⟨h1, h2⟩ => ⟨h1, h2.below _⟩

set_option maxHeartbeats 2000000 in
set_option maxRecDepth 100000 in
theorem exactCovers_any (ao0 : Option Addr) (n0 cap0 : Nat) (xs0 : List Int) (ao1 : Option Addr) (n1 cap1 : Nat) (xs1 : List Int) (w : World) (hx0 : Ints w.heap.size w ao0 n0 cap0 xs0) (hx1 : Ints w.heap.size w ao1 n1 cap1 xs1) :
    Calls Try.prog 7 #[.slice ao0 n0 cap0, .slice ao1 n1 cap1] w (Yes w) := by
  have hp0 := hx0.hcap; have hq0 := hx0.hmax
  unfold maxLen at hq0
  have hp1 := hx1.hcap; have hq1 := hx1.hmax
  unfold maxLen at hq1
  by_cases hbig0 : 1048576 < n0
  · go_enter Try.func7, Try.ntmps7
    go_wp2
    go_ret
    exact ⟨rfl, Below.refl _ _⟩
  · have hn0 : n0 ≤ 17592186044416 := by omega
    by_cases hbig1 : 1048576 < n1
    · go_enter Try.func7, Try.ntmps7
      go_wp2
      go_ret
      exact ⟨rfl, Below.refl _ _⟩
    · have hn1 : n1 ≤ 17592186044416 := by omega
      have hspec := fun B0 a0 c0 B1 a1 c1 w (h0 : Ints B0 w a0 n0 c0 xs0) (g0 : B0 ≤ w.heap.size) (h1 : Ints B1 w a1 n1 c1 xs1) (g1 : B1 ≤ w.heap.size) => specCovers_says B0 B1 a0 a1 n0 c0 n1 c1 xs0 xs1 w h0 h1
      have himpl := fun B0 a0 c0 B1 a1 c1 w (h0 : Ints B0 w a0 n0 c0 xs0) (g0 : B0 ≤ w.heap.size) (h1 : Ints B1 w a1 n1 c1 xs1) (g1 : B1 ≤ w.heap.size) => implCovers_any B0 B1 a0 a1 n0 c0 n1 c1 xs0 xs1 w h0 h1 g0 g1
      generalize covers xs0 xs1 = r at hspec himpl
      go_enter Try.func7, Try.ntmps7
      have hb0 : Below w.heap.size w w := Below.refl _ _
      go_wp2_with fail
      refine (toInt64S_fresh _ _ _ _ xs0 _ (hx0.below hb0 (Nat.le_refl _) (Nat.le_refl _)) hb0.size hn0).mono ?_
      rintro e w1 ⟨s0a, s0c, rfl, -, s0h, k1⟩
      have hb1 := hb0.trans (k1.mono hb0.size)
      go_wp2_with fail
      refine (toInt64S_fresh _ _ _ _ xs1 _ (hx1.below hb1 (Nat.le_refl _) (Nat.le_refl _)) hb1.size hn1).mono ?_
      rintro e w2 ⟨s1a, s1c, rfl, -, s1h, k2⟩
      have hb2 := hb1.trans (k2.mono hb1.size)
      have s0h := s0h.below k2 (Nat.le_refl _) k2.size
      go_wp2_with fail
      refine (hspec _ _ _ _ _ _ _ s0h (Nat.le_refl _) s1h (Nat.le_refl _)).mono ?_
      rintro e w3 ⟨rfl, k3⟩
      have hb3 := hb2.trans (k3.mono hb2.size)
      go_wp2_with fail
      refine (toInt64S_fresh _ _ _ _ xs0 _ (hx0.below hb3 (Nat.le_refl _) (Nat.le_refl _)) hb3.size hn0).mono ?_
      rintro e w4 ⟨x0a, x0c, rfl, -, x0h, k4⟩
      have hb4 := hb3.trans (k4.mono hb3.size)
      go_wp2_with fail
      refine (toInt64S_fresh _ _ _ _ xs1 _ (hx1.below hb4 (Nat.le_refl _) (Nat.le_refl _)) hb4.size hn1).mono ?_
      rintro e w5 ⟨x1a, x1c, rfl, -, x1h, k5⟩
      have hb5 := hb4.trans (k5.mono hb4.size)
      have x0h := x0h.below k5 (Nat.le_refl _) k5.size
      go_wp2_with fail
      refine (himpl _ _ _ _ _ _ _ x0h (Nat.le_refl _) x1h (Nat.le_refl _)).mono ?_
      rintro e w6 ⟨rfl, k6⟩
      have hb6 := hb5.trans (k6.mono hb5.size)
      have x0h := x0h.below k6 (Nat.le_refl _) k6.size
      have x1h := x1h.below k6 (Nat.le_refl _) k6.size
      cases r
      all_goals
        go_wp2_with fail
        refine (toInt64S_fresh _ _ _ _ xs0 _ (hx0.below hb6 (Nat.le_refl _) (Nat.le_refl _)) hb6.size hn0).mono ?_
        rintro e w7 ⟨y0a, y0c, rfl, -, y0h, k7⟩
        have hb7 := hb6.trans (k7.mono hb6.size)
        have x0h := x0h.below k7 (Nat.le_refl _) k7.size
        have x1h := x1h.below k7 (Nat.le_refl _) k7.size
        go_wp2_with fail
        refine (eqInt64S_any _ _ _ _ _ _ _ _ xs0 xs0 _ x0h y0h).mono ?_
        rintro e w8 ⟨rfl, kd8⟩
        rw [decide_eq_true rfl]
        have k8 := kd8.below w7.heap.size
        have hb8 := hb7.trans (k8.mono hb7.size)
        have x0h := x0h.below k8 (Nat.le_refl _) k8.size
        have x1h := x1h.below k8 (Nat.le_refl _) k8.size
        go_wp2_with fail
        refine (toInt64S_fresh _ _ _ _ xs1 _ (hx1.below hb8 (Nat.le_refl _) (Nat.le_refl _)) hb8.size hn1).mono ?_
        rintro e w9 ⟨y1a, y1c, rfl, -, y1h, k9⟩
        have hb9 := hb8.trans (k9.mono hb8.size)
        have x0h := x0h.below k9 (Nat.le_refl _) k9.size
        have x1h := x1h.below k9 (Nat.le_refl _) k9.size
        go_wp2_with fail
        refine (eqInt64S_any _ _ _ _ _ _ _ _ xs1 xs1 _ x1h y1h).mono ?_
        rintro e w10 ⟨rfl, kd10⟩
        rw [decide_eq_true rfl]
        have k10 := kd10.below w9.heap.size
        have hb10 := hb9.trans (k10.mono hb9.size)
        have x0h := x0h.below k10 (Nat.le_refl _) k10.size
        have x1h := x1h.below k10 (Nat.le_refl _) k10.size
        go_wp2_with fail
        go_ret
        exact ⟨rfl, hb10⟩

set_option maxRecDepth 100000 in
theorem exactCovers_lifted (os : Os) (started : os.Started) (H : Type) (enc : TypeId × Value → H) :
    ReturnsInHanded {} Try.checked os 7 .any (Rows.fnExactCoversSpec.pre6 enc Try.prog Try.f7 Rows.fnExactCoversRow.domain false) (Rows.fnExactCoversSpec.post enc Try.prog Try.f7 false true false false) := by
  refine returnsInHanded_of_change (C := Try.checked) Try.own started (by kernel_rfl) Try.func7
    (ChangeSpec.witness6 (enc := enc) (C := Try.checked) false ⟨#[], #[.slice none 0 0, .slice none 0 0], []⟩ 8 (by kernel_rfl) (by kernel_rfl) (by kernel_rfl) (by kernel_rfl)) ?_
  intro W base args ds gs before hval0 hW hcnd _
  have hval : ∀ (j : Nat) t v, Try.f7.params[j]? = some t → args[j]? = some v → Value.okWide Try.prog W .any base t v := hval0
  have hW' := hW
  obtain ⟨p, q, hA0, hV, rfl, hfz, hnd⟩ := hW
  have hA : DataW.TrodAll enc Try.prog W 0 (fun _ => true) true Try.f7.params.toList args.toList ds p := hA0
  rw [Try.params7] at hA hval
  obtain ⟨v0, v1, d0, d1, p0, p1, rfl, rfl, rfl, h0, h1⟩ := trodAll_two hA
  obtain ⟨rfl, rfl⟩ := trodVars_none hV
  clear hA0 hval0 hA
  simp only [List.append_nil] at hW' hfz
  have hlt : ∀ x ∈ p0 ++ p1, x.block < W.heap.size := fun x hx => by simpa using hW'.lt x hx
  have hlt0 : ∀ x ∈ p0, x.block < W.heap.size := fun x hx => hlt x (List.mem_append_left _ hx)
  have hlt1 : ∀ x ∈ p1, x.block < W.heap.size := fun x hx => hlt x (List.mem_append_right _ hx)
  have h0k := h0
  obtain ⟨ao0, n0, cap0, xs0, rfl, hx0⟩ := open_i64s (by exact hval 0 _ v0 rfl rfl) h0 hlt0
  have h1k := h1
  obtain ⟨ao1, n1, cap1, xs1, rfl, hx1⟩ := open_i64s (by exact hval 1 _ v1 rfl rfl) h1 hlt1
  refine (exactCovers_any ao0 n0 cap0 xs0 ao1 n1 cap1 xs1 W hx0 hx1).mono fun e W' ⟨he, hb⟩ => ?_
  subst he
  exact ⟨_, rfl, _, _, _, _, _, [], hW', trodAll_mk1 (shut_bool Try.underlying4 _), trodAll_mk2 (Below.trod Try.laidOut (by kernel_rfl) (of_decide_eq_true (by kernel_rfl)) h0k hb hlt0) (Below.trod Try.laidOut (by kernel_rfl) (of_decide_eq_true (by kernel_rfl)) h1k hb hlt1), rfl, hb.frame _, fun h => by cases h⟩

theorem exactCovers_holds : Rows.FnExactCoversSaid :=
  OpenClaim.holds_of_wide 7 Try.f7 rfl rfl rfl rfl rfl rfl rfl ⟨rfl, rfl, rfl, rfl, rfl⟩ rfl rfl rfl rfl rfl (by kernel_rfl) Try.func7 (by kernel_rfl)
    (of_decide_eq_true (by kernel_rfl)) (by unfold Func.isWrapper; first | (rw [if_pos (by decide +kernel)]; kernel_rfl) | (rw [if_neg (by decide +kernel)]; exact ⟨rfl, rfl⟩))
    (fun os started H enc _ => exactCovers_lifted os started H enc)

end Go.Proofs.Ytbpoojibbakpnaa
