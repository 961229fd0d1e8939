/- FnExactVecOk: for all arguments the call returns true, and they read afterwards as before; no condition. -/
import Derived.Test.YtbpoojibbakpnaaVec
import Derived.Test.YtbpoojibbakpnaaImplVec
import Derived.Test.YtbpoojibbakpnaaCopy
import Derived.Test.YtbpoojibbakpnaaEq
import Derived.Test.YtbpoojibbakpnaaOpen
import Derived.Test.YtbpoojibbakpnaaBig
namespace Go.Proofs.Ytbpoojibbakpnaa
open Go.ChangeShapes Go.WideShapes Go.ChangeAt Go.RowKit

theorem specVecOk_says (B : Nat) (ao : Option Addr) (n cap : Nat) (xs : List Int) (w : World) (hx : Ints B w ao n cap xs) :
    Calls Try.prog 21 #[.slice ao n cap] w (Says (.bool (vecOk xs)) w) :=
  (specVecOk_any B ao n cap xs w hx).mono fun _ _ ⟨h1, h2⟩ => ⟨h1, by rw [h2]; exact Below.refl _ _⟩

set_option maxHeartbeats 2000000 in
set_option maxRecDepth 100000 in
theorem exactVecOk_any (ao0 : Option Addr) (n0 cap0 : Nat) (xs0 : List Int) (w : World) (hx0 : Ints w.heap.size w ao0 n0 cap0 xs0) :
    Calls Try.prog 4 #[.slice ao0 n0 cap0] w (Yes w) := by
  have hp0 := hx0.hcap; have hq0 := hx0.hmax
  unfold maxLen at hq0
  by_cases hbig0 : 1048576 < n0
  · go_enter Try.func4, Try.ntmps4
    go_wp2
    go_ret
    exact ⟨rfl, Below.refl _ _⟩
  · have hn0 : n0 ≤ 17592186044416 := by omega
    have hspec := fun B0 a0 c0 w (h0 : Ints B0 w a0 n0 c0 xs0) (g0 : B0 ≤ w.heap.size) => specVecOk_says B0 a0 n0 c0 xs0 w h0
    have himpl := fun B0 a0 c0 w (h0 : Ints B0 w a0 n0 c0 xs0) (g0 : B0 ≤ w.heap.size) => implVecOk_any B0 a0 n0 c0 xs0 w h0 g0
    generalize vecOk xs0 = r at hspec himpl
    go_enter Try.func4, Try.ntmps4
    have hb0 : Below w.heap.size w w := Below.refl _ _
    go_wp2_with fail
    refine (toInt64S_fresh _ _ _ _ xs0 _ (hx0.below hb0 (Nat.le_refl _) (Nat.le_refl _)) hb0.size hn0).mono ?_
    rintro e w1 ⟨s0a, s0c, rfl, -, s0h, k1⟩
    have hb1 := hb0.trans (k1.mono hb0.size)
    go_wp2_with fail
    refine (hspec _ _ _ _ s0h (Nat.le_refl _)).mono ?_
    rintro e w2 ⟨rfl, k2⟩
    have hb2 := hb1.trans (k2.mono hb1.size)
    go_wp2_with fail
    refine (toInt64S_fresh _ _ _ _ xs0 _ (hx0.below hb2 (Nat.le_refl _) (Nat.le_refl _)) hb2.size hn0).mono ?_
    rintro e w3 ⟨x0a, x0c, rfl, -, x0h, k3⟩
    have hb3 := hb2.trans (k3.mono hb2.size)
    go_wp2_with fail
    refine (himpl _ _ _ _ x0h (Nat.le_refl _)).mono ?_
    rintro e w4 ⟨rfl, k4⟩
    have hb4 := hb3.trans (k4.mono hb3.size)
    have x0h := x0h.below k4 (Nat.le_refl _) k4.size
    cases r
    all_goals
      go_wp2_with fail
      refine (toInt64S_fresh _ _ _ _ xs0 _ (hx0.below hb4 (Nat.le_refl _) (Nat.le_refl _)) hb4.size hn0).mono ?_
      rintro e w5 ⟨y0a, y0c, rfl, -, y0h, k5⟩
      have hb5 := hb4.trans (k5.mono hb4.size)
      have x0h := x0h.below k5 (Nat.le_refl _) k5.size
      go_wp2_with fail
      refine (eqInt64S_any _ _ _ _ _ _ _ _ xs0 xs0 _ x0h y0h).mono ?_
      rintro e w6 ⟨rfl, kd6⟩
      rw [decide_eq_true rfl]
      have k6 := kd6.below w5.heap.size
      have hb6 := hb5.trans (k6.mono hb5.size)
      have x0h := x0h.below k6 (Nat.le_refl _) k6.size
      go_wp2_with fail
      go_ret
      exact ⟨rfl, hb6⟩

set_option maxRecDepth 100000 in
theorem exactVecOk_lifted (os : Os) (started : os.Started) (H : Type) (enc : TypeId × Value → H) :
    ReturnsInHanded {} Try.checked os 4 .any (Rows.fnExactVecOkSpec.pre6 enc Try.prog Try.f4 Rows.fnExactVecOkRow.domain false) (Rows.fnExactVecOkSpec.post enc Try.prog Try.f4 false true false false) := by
  refine returnsInHanded_of_change (C := Try.checked) Try.own started (by kernel_rfl) Try.func4
    (ChangeSpec.witness6 (enc := enc) (C := Try.checked) false ⟨#[], #[.slice none 0 0], []⟩ 8 (by kernel_rfl) (by kernel_rfl) (by kernel_rfl) (by kernel_rfl)) ?_
  intro W base args ds gs before hval0 hW hcnd _
  have hval : ∀ (j : Nat) t v, Try.f4.params[j]? = some t → args[j]? = some v → Value.okWide Try.prog W .any base t v := hval0
  have hW' := hW
  obtain ⟨p, q, hA0, hV, rfl, hfz, hnd⟩ := hW
  have hA : DataW.TrodAll enc Try.prog W 0 (fun _ => true) true Try.f4.params.toList args.toList ds p := hA0
  rw [Try.params4] at hA hval
  obtain ⟨v0, d0, rfl, rfl, h0⟩ := trodAll_one hA
  obtain ⟨rfl, rfl⟩ := trodVars_none hV
  clear hA0 hval0 hA
  simp only [List.append_nil] at hW' hfz
  have hlt0 : ∀ x ∈ p, x.block < W.heap.size := fun x hx => by simpa using hW'.lt x hx
  have h0k := h0
  obtain ⟨ao0, n0, cap0, xs0, rfl, hx0⟩ := open_i64s (by exact hval 0 _ v0 rfl rfl) h0 hlt0
  refine (exactVecOk_any ao0 n0 cap0 xs0 W hx0).mono fun e W' ⟨he, hb⟩ => ?_
  subst he
  exact ⟨_, rfl, _, _, _, _, _, [], hW', trodAll_mk1 (shut_bool Try.underlying4 _), trodAll_mk1 (Below.trod Try.laidOut (by kernel_rfl) (of_decide_eq_true (by kernel_rfl)) h0k hb hlt0), rfl, hb.frame _, fun h => by cases h⟩

theorem exactVecOk_holds : Rows.FnExactVecOkSaid :=
  OpenClaim.holds_of_wide 4 Try.f4 rfl rfl rfl rfl rfl rfl rfl ⟨rfl, rfl, rfl, rfl, rfl⟩ rfl rfl rfl rfl rfl (by kernel_rfl) Try.func4 (by kernel_rfl)
    (of_decide_eq_true (by kernel_rfl)) (by unfold Func.isWrapper; first | (rw [if_pos (by decide +kernel)]; kernel_rfl) | (rw [if_neg (by decide +kernel)]; exact ⟨rfl, rfl⟩))
    (fun os started H enc _ => exactVecOk_lifted os started H enc)

end Go.Proofs.Ytbpoojibbakpnaa
