/- FnExactReadVar: for every slice of numbers and every place the call returns true, and the arguments read afterwards as before; no condition. -/
import Derived.Test.YtmlabdoncdadmaaSpecReadVar
import Derived.Test.YtmlabdoncdadmaaExactBytesOk
import Derived.Test.YtmlabdoncdadmaaOpen
namespace Go.Proofs.Ytmlabdoncdadmaa
open Go.ChangeShapes Go.WideShapes Go.ChangeAt Go.RowKit

set_option maxHeartbeats 400000 in
theorem exactReadVar_any (ao : Option Addr) (n cap : Nat) (xs : List Int) (p : Int) (w : World) (hx : Ints w.heap.size w ao n cap xs) :
    Calls Try.prog 6 #[.slice ao n cap, .int .i64 p] w fun e w' => e = .returned (.bool true) ∧ Below w.heap.size w w' := by
  have hx1 := hx.hcap; have hx2 := hx.hmax
  unfold maxLen at hx2
  by_cases hbig : 1048576 < n
  · go_enter Try.func6, Try.ntmps6
    go_wp2
    go_ret
    exact ⟨rfl, Below.refl _ _⟩
  · go_enter Try.func6, Try.ntmps6
    go_wp2_with fail
    refine (toInt64S_fresh _ _ _ _ xs _ hx (Nat.le_refl _) (by omega)).mono ?_
    rintro e w1 ⟨a1, c1, rfl, ho1, hi1, hb1⟩
    go_wp2_with fail
    refine (specReadVar_any _ _ _ _ xs p _ hi1).mono ?_
    rintro e w2 ⟨rfl, rfl⟩
    go_wp2_with fail
    have hx' := hx.below hb1 (Nat.le_refl _) hb1.size
    refine (toInt64S_fresh _ _ _ _ xs _ hx' (Nat.le_refl _) (by omega)).mono ?_
    rintro e w3 ⟨a3, c3, rfl, ho3, hi3, hb3⟩
    go_wp2_with fail
    refine (implReadVar_any _ _ _ _ xs p _ hi3 (Nat.le_refl _)).mono ?_
    rintro e w4 ⟨rfl, hb4⟩
    generalize rvN (readVar xs p) = q1
    generalize rvE (readVar xs p) = q2
    generalize (readVar xs p).isSome = q3
    go_wp2_with fail
    have hi3' := hi3.below hb4 (Nat.le_refl _) hb4.size
    have hx'' := hx'.below hb3 (Nat.le_refl _) hb3.size
    have hx4 := hx''.below hb4 (Nat.le_refl _) hb4.size
    refine (toInt64S_fresh _ _ _ _ xs _ hx4 (Nat.le_refl _) (by omega)).mono ?_
    rintro e w5 ⟨a5, c5, rfl, ho5, hi5, hb5⟩
    go_wp2_with fail
    have hi35 := hi3'.below hb5 (Nat.le_refl _) hb5.size
    refine (eqInt64S_any _ _ _ _ _ _ _ _ xs xs _ hi35 hi5).mono ?_
    rintro e w6 ⟨rfl, hd⟩
    rw [decide_eq_true rfl]
    go_wp2_with fail
    go_ret
    exact ⟨rfl, (((hb1.trans (hb3.mono hb1.size)).trans (hb4.mono (Nat.le_trans hb1.size hb3.size))).trans (hb5.mono (Nat.le_trans (Nat.le_trans hb1.size hb3.size) hb4.size))).trans (hd.below _)⟩

set_option maxRecDepth 100000 in
theorem exactReadVar_lifted (os : Os) (started : os.Started) (H : Type) (enc : TypeId × Value → H) :
    ReturnsInHanded {} Try.checked os 6 .any (Rows.fnExactReadVarSpec.pre6 enc Try.prog Try.f6 Rows.fnExactReadVarRow.domain false) (Rows.fnExactReadVarSpec.post enc Try.prog Try.f6 false true false false) := by
  refine returnsInHanded_of_change (C := Try.checked) Try.own started (by kernel_rfl) Try.func6
    (ChangeSpec.witness6 (enc := enc) (C := Try.checked) false ⟨#[], #[.slice none 0 0, .int .i64 0], []⟩ 8 (by kernel_rfl) (by kernel_rfl) (by kernel_rfl) (by kernel_rfl)) ?_
  intro W base args ds gs before hval0 hW hcnd _
  have hval : ∀ (j : Nat) t v, Try.f6.params[j]? = some t → args[j]? = some v → Value.okWide Try.prog W .any base t v := hval0
  have hW' := hW
  obtain ⟨p, q, hA0, hV, rfl, hfz, hnd⟩ := hW
  have hA : DataW.TrodAll enc Try.prog W 0 (fun _ => true) true Try.f6.params.toList args.toList ds p := hA0
  rw [Try.params6] at hA hval
  obtain ⟨v0, v1, d0, d1, p0, p1, rfl, rfl, rfl, h0, h1⟩ := trodAll_two hA
  obtain ⟨rfl, rfl⟩ := trodVars_none hV
  clear hA0 hval0 hA
  simp only [List.append_nil] at hW' hfz
  have hlt : ∀ x ∈ p0 ++ p1, x.block < W.heap.size := fun x hx => by simpa using hW'.lt x hx
  have hlt0 : ∀ x ∈ p0, x.block < W.heap.size := fun x hx => hlt x (List.mem_append_left _ hx)
  have hlt1 : ∀ x ∈ p1, x.block < W.heap.size := fun x hx => hlt x (List.mem_append_right _ hx)
  obtain ⟨ao, n, cap, xs, rfl, hx⟩ := open_i64s (by exact hval 0 _ v0 rfl rfl) h0 hlt0
  have h1k := h1
  obtain ⟨m, rfl, rfl, rfl, wm⟩ := open_int Try.underlying2 (by exact hval 1 _ v1 rfl rfl) h1
  refine (exactReadVar_any ao n cap xs m W hx).mono fun e W' ⟨he, hb⟩ => ?_
  subst he
  exact ⟨_, rfl, _, _, _, _, _, [], hW', trodAll_mk1 (shut_bool Try.underlying4 _), trodAll_mk2 (Below.trod Try.laidOut (by kernel_rfl) (of_decide_eq_true (by kernel_rfl)) h0 hb hlt0) (Below.trod Try.laidOut (by kernel_rfl) (of_decide_eq_true (by kernel_rfl)) h1k hb hlt1), rfl, hb.frame _, fun h => by cases h⟩

theorem exactReadVar_holds : Rows.FnExactReadVarSaid :=
  OpenClaim.holds_of_wide 6 Try.f6 rfl rfl rfl rfl rfl rfl rfl ⟨rfl, rfl, rfl, rfl, rfl⟩ rfl rfl rfl rfl rfl (by kernel_rfl) Try.func6 (by kernel_rfl)
    (of_decide_eq_true (by kernel_rfl)) (by unfold Func.isWrapper; first | (rw [if_pos (by decide +kernel)]; kernel_rfl) | (rw [if_neg (by decide +kernel)]; exact ⟨rfl, rfl⟩))
    (fun os started H enc _ => exactReadVar_lifted os started H enc)

end Go.Proofs.Ytmlabdoncdadmaa
