/- FnExactSumOf: for every slice of numbers the call returns true, and the slice reads afterwards as before; no condition. -/
import Derived.Test.YtdfcdemkmniknaaExact
import Derived.Test.YtdfcdemkmniknaaSumOf
import Derived.Test.YtdfcdemkmniknaaOpen
namespace Go.Proofs.Ytdfcdemkmniknaa
open Go.ChangeShapes Go.WideShapes Go.ChangeAt Go.RowKit

set_option maxHeartbeats 400000 in
theorem exactSumOf_any (ao : Option Addr) (n cap : Nat) (xs : List Int) (w : World) (hx : Ints w.heap.size w ao n cap xs) :
    Calls Try.prog 4 #[.slice ao n cap] w fun e w' => e = .returned (.bool true) ∧ Below w.heap.size w w' := by
  have hx1 := hx.hcap; have hx2 := hx.hmax
  unfold maxLen at hx2
  by_cases hbig : 1048576 < n
  · go_enter Try.func4, Try.ntmps4
    go_wp2
    go_ret
    exact ⟨rfl, Below.refl _ _⟩
  · have hn : n ≤ 1048576 := by omega
    go_enter Try.func4, Try.ntmps4
    go_wp2_with fail
    refine (toInt64S_copied _ _ _ _ xs _ hx (Nat.le_refl _) hn).mono ?_
    rintro e w1 ⟨a1, c1, rfl, ho1, hi1, hz1, hb1, hs1⟩
    go_wp2_with fail
    refine (specSumOf_any _ _ _ _ xs _ hi1).mono ?_
    rintro e w2 ⟨rfl, rfl⟩
    have hx1' := hx.below hb1 (Nat.le_refl _) hs1
    have HZ1 := Lib.hid hz1; clear hz1
    go_wp2_with fail
    refine (toInt64S_copied _ _ _ _ xs _ hx1' (Nat.le_refl _) hn).mono ?_
    rintro e w3 ⟨a3, c3, rfl, ho3, hi3, hz3, hb3, hs3⟩
    have HZ3 := Lib.hid hz3; clear hz3
    go_wp2_with fail
    refine (implSumOf_any _ _ _ _ xs _ hi3 (Nat.le_refl _)).mono ?_
    rintro e w4 ⟨rfl, hb4⟩
    generalize sumOf xs = s
    have hs4 := hb4.size
    have hx4 := (hx1'.below hb3 (Nat.le_refl _) hs3).below hb4 (Nat.le_refl _) hs4
    have hi34 := hi3.below hb4 (Nat.le_refl _) hs4
    go_wp2_with fail
    refine (toInt64S_copied _ _ _ _ xs _ hx4 (Nat.le_refl _) hn).mono ?_
    rintro e w5 ⟨a5, c5, rfl, ho5, hi5, hz5, hb5, hs5⟩
    have HZ5 := Lib.hid hz5; clear hz5
    have hi35 := hi34.below hb5 (Nat.le_refl _) hs5
    go_wp2_with fail
    refine (eqInt64S_any _ _ _ _ _ _ _ _ xs xs _ hi35 hi5).mono ?_
    rintro e w6 ⟨rfl, hd⟩
    rw [decide_eq_true rfl]
    go_wp2_with fail
    go_ret
    exact ⟨rfl, (((hb1.trans (hb3.mono hs1)).trans (hb4.mono (by omega))).trans (hb5.mono (by omega))).trans (hd.below _)⟩

set_option maxRecDepth 100000 in
theorem exactSumOf_lifted (os : Os) (started : os.Started) (H : Type) (enc : TypeId × Value → H) :
    ReturnsInHanded {} Try.checked os 4 .any (Rows.fnExactSumOfSpec.pre6 enc Try.prog Try.f4 Rows.fnExactSumOfRow.domain false) (Rows.fnExactSumOfSpec.post enc Try.prog Try.f4 false true false false) := by
  refine returnsInHanded_of_change (C := Try.checked) Try.own started (by kernel_rfl) Try.func4
    (ChangeSpec.witness6 (enc := enc) (C := Try.checked) false ⟨#[], #[.slice none 0 0], []⟩ 8 (by kernel_rfl) (by kernel_rfl) (by kernel_rfl) (by kernel_rfl)) ?_
  intro W base args ds gs before hval0 hW hcnd _
  have hval : ∀ (j : Nat) t v, Try.f4.params[j]? = some t → args[j]? = some v → Value.okWide Try.prog W .any base t v := hval0
  have hW' := hW
  obtain ⟨p, q, hA0, hV, rfl, hfz, hnd⟩ := hW
  have hA : DataW.TrodAll enc Try.prog W 0 (fun _ => true) true Try.f4.params.toList args.toList ds p := hA0
  rw [Try.params4] at hA hval
  obtain ⟨v0, d0, rfl, rfl, h0⟩ := trodAll_one hA
  obtain ⟨rfl, rfl⟩ := trodVars_none hV
  clear hA0 hval0 hA
  simp only [List.append_nil] at hW' hfz
  have hlt : ∀ x ∈ p, x.block < W.heap.size := fun x hx => by simpa using hW'.lt x hx
  obtain ⟨ao, n, cap, xs, rfl, hx⟩ := open_i64s (by exact hval 0 _ v0 rfl rfl) h0 hlt
  refine (exactSumOf_any ao n cap xs W hx).mono fun e W' ⟨he, hb⟩ => ?_
  subst he
  exact ⟨_, rfl, _, _, _, _, _, [], hW', trodAll_mk1 (shut_bool Try.underlying4 _), trodAll_mk1 (Below.trod Try.laidOut (by kernel_rfl) (of_decide_eq_true (by kernel_rfl)) h0 hb hlt), rfl, hb.frame _, fun h => by cases h⟩

theorem exactSumOf_holds : Rows.FnExactSumOfSaid :=
  OpenClaim.holds_of_wide 4 Try.f4 rfl rfl rfl rfl rfl rfl rfl ⟨rfl, rfl, rfl, rfl, rfl⟩ rfl rfl rfl rfl rfl (by kernel_rfl) Try.func4 (by kernel_rfl)
    (of_decide_eq_true (by kernel_rfl)) (by unfold Func.isWrapper; first | (rw [if_pos (by decide +kernel)]; kernel_rfl) | (rw [if_neg (by decide +kernel)]; exact ⟨rfl, rfl⟩))
    (fun os started H enc _ => exactSumOf_lifted os started H enc)

end Go.Proofs.Ytdfcdemkmniknaa
