/- FnExactVarOf: for every number the call returns true; no condition. -/
import Derived.Test.YtmlabdoncdadmaaVarOf
import Derived.Test.YtmlabdoncdadmaaMark
import Derived.Test.YtmlabdoncdadmaaEq
import Derived.Test.YtmlabdoncdadmaaOpen
namespace Go.Proofs.Ytmlabdoncdadmaa
open Go.ChangeShapes Go.WideShapes Go.ChangeAt Go.RowKit

set_option maxHeartbeats 400000 in
theorem exactVarOf_any (n : Int) (w : World) :
    Calls Try.prog 5 #[.int .i64 n] w fun e w' => e = .returned (.bool true) ∧ Below w.heap.size w w' := by
  have hl := varOf_len n
  have hwf := bytes_i64 (varOf_bytes n)
  go_enter Try.func5, Try.ntmps5
  go_wp2_with fail
  refine (specVarOf_any _ _).mono ?_
  rintro e w1 ⟨v1, rfl, ho1, hb1⟩
  go_wp2_with fail
  refine (implVarOf_any _ _).mono ?_
  rintro e w2 ⟨v2, rfl, ho2, hb2⟩
  obtain ⟨a1, c1, rfl, hi1⟩ := ho1.ints hwf
  have hi1' := hi1.below hb2 (Nat.le_refl _) (Nat.le_refl _)
  have hm := ho2
  obtain ⟨a2, c2, e2, hi2⟩ := ho2.ints hwf
  subst e2
  go_wp2_with fail
  refine (eqInt64S_any _ _ _ _ _ _ _ _ _ _ _ hi2 hi1').mono ?_
  rintro e w3 ⟨rfl, hd3⟩
  have hb3 := hd3.below w2.heap.size
  rw [decide_eq_true rfl]
  go_wp2_with fail
  refine (mark_any w1.heap.size _ _ 1 _ (hm.below hb3 (Nat.le_refl _)) (by decide) (by decide) (by omega)).mono ?_
  rintro e w4 ⟨rfl, hm4, hb4, hs4⟩
  go_wp2_with fail
  obtain ⟨a4, c4, e4, hi4⟩ := hm4.ints (marks_i64 (by decide) (by omega))
  rw [marks_len] at e4 hi4
  cases e4
  refine (held_any _ _ _ _ 1 _ hi4 (by decide) (by decide) (by omega)).mono ?_
  rintro e w5 ⟨rfl, rfl⟩
  go_wp2_with fail
  refine (implVarOf_any _ _).mono ?_
  rintro e w6 ⟨v6, rfl, ho6, hb6⟩
  obtain ⟨a6, c6, rfl, hi6⟩ := ho6.ints hwf
  have z1 := hb1.size; have z2 := hb2.size; have z3 := hb3.size; have z6 := hb6.size
  have hi13 := hi1'.below hb3 z2 (Nat.le_refl _)
  have hi15 := hi13.below hb4 (Nat.le_refl _) (Nat.le_refl _)
  have hi16 := hi15.below hb6 (by omega) (Nat.le_refl _)
  go_wp2_with fail
  refine (eqInt64S_any _ _ _ _ _ _ _ _ _ _ _ hi6 hi16).mono ?_
  rintro e w7 ⟨rfl, hd7⟩
  have hb7 := hd7.below w6.heap.size
  rw [decide_eq_true rfl]
  go_wp2_with fail
  have hi46 := hi4.below hb6 (Nat.le_refl _) z6
  have hi47 := hi46.below hb7 (Nat.le_refl _) (Nat.le_refl _)
  refine (held_any _ _ _ _ 1 _ hi47 (by decide) (by decide) (by omega)).mono ?_
  rintro e w8 ⟨rfl, rfl⟩
  go_wp2_with fail
  go_ret
  exact ⟨rfl, ((((hb1.trans (hb2.mono z1)).trans (hb3.mono (by omega))).trans (hb4.mono z1)).trans (hb6.mono (by omega))).trans (hb7.mono (by omega))⟩

set_option maxRecDepth 100000 in
theorem exactVarOf_lifted (os : Os) (started : os.Started) (H : Type) (enc : TypeId × Value → H) :
    ReturnsInHanded {} Try.checked os 5 .any (Rows.fnExactVarOfSpec.pre6 enc Try.prog Try.f5 Rows.fnExactVarOfRow.domain false) (Rows.fnExactVarOfSpec.post enc Try.prog Try.f5 false true false false) := by
  refine returnsInHanded_of_change (C := Try.checked) Try.own started (by kernel_rfl) Try.func5
    (ChangeSpec.witness6 (enc := enc) (C := Try.checked) false ⟨#[], #[.int .i64 0], []⟩ 8 (by kernel_rfl) (by kernel_rfl) (by kernel_rfl) (by kernel_rfl)) ?_
  intro W base args ds gs before hval0 hW hcnd _
  have hval : ∀ (j : Nat) t v, Try.f5.params[j]? = some t → args[j]? = some v → Value.okWide Try.prog W .any base t v := hval0
  have hW' := hW
  obtain ⟨p, q, hA0, hV, rfl, hfz, hnd⟩ := hW
  have hA : DataW.TrodAll enc Try.prog W 0 (fun _ => true) true Try.f5.params.toList args.toList ds p := hA0
  rw [Try.params5] at hA hval
  obtain ⟨v0, d0, rfl, rfl, h0⟩ := trodAll_one hA
  obtain ⟨rfl, rfl⟩ := trodVars_none hV
  clear hA0 hval0 hA
  simp only [List.append_nil] at hW' hfz
  have hlt : ∀ x ∈ p, x.block < W.heap.size := fun x hx => by simpa using hW'.lt x hx
  have h0k := h0
  obtain ⟨m, rfl, rfl, rfl, wm⟩ := open_int Try.underlying2 (by exact hval 0 _ v0 rfl rfl) h0
  refine (exactVarOf_any m W).mono fun e W' ⟨he, hb⟩ => ?_
  subst he
  exact ⟨_, rfl, _, _, _, _, _, [], hW', trodAll_mk1 (shut_bool Try.underlying4 _), trodAll_mk1 (Below.trod Try.laidOut (by kernel_rfl) (of_decide_eq_true (by kernel_rfl)) h0k hb hlt), rfl, hb.frame _, fun h => by cases h⟩

theorem exactVarOf_holds : Rows.FnExactVarOfSaid :=
  OpenClaim.holds_of_wide 5 Try.f5 rfl rfl rfl rfl rfl rfl rfl ⟨rfl, rfl, rfl, rfl, rfl⟩ rfl rfl rfl rfl rfl (by kernel_rfl) Try.func5 (by kernel_rfl)
    (of_decide_eq_true (by kernel_rfl)) (by unfold Func.isWrapper; first | (rw [if_pos (by decide +kernel)]; kernel_rfl) | (rw [if_neg (by decide +kernel)]; exact ⟨rfl, rfl⟩))
    (fun os started H enc _ => exactVarOf_lifted os started H enc)

end Go.Proofs.Ytmlabdoncdadmaa
