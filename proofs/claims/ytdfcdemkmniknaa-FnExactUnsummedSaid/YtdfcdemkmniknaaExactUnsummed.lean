/- FnExactUnsummed: for every slice of numbers the call returns true, and the slice reads afterwards as before; no condition. -/
import Derived.Test.YtdfcdemkmniknaaExact
import Derived.Test.YtdfcdemkmniknaaUnsummed
import Derived.Test.YtdfcdemkmniknaaOpen
namespace Go.Proofs.Ytdfcdemkmniknaa
open Go.ChangeShapes Go.WideShapes Go.ChangeAt Go.RowKit

set_option maxHeartbeats 1000000 in
theorem exactUnsummed_any (ao : Option Addr) (n cap : Nat) (xs : List Int) (w : World) (hx : Ints w.heap.size w ao n cap xs) :
    Calls Try.prog 6 #[.slice ao n cap] w fun e w' => e = .returned (.bool true) ∧ Below w.heap.size w w' := by
  have hx1 := hx.hcap; have hx2 := hx.hmax
  unfold maxLen at hx2
  by_cases hbig : 1048576 < n
  · go_enter Try.func6, Try.ntmps6
    go_wp2
    go_ret
    exact ⟨rfl, Below.refl _ _⟩
  · have hn : n ≤ 1048576 := by omega
    have hwf : AllI64 ((unsummed xs).getD []) := unsummed_all hx.wf
    have hwl : ((unsummed xs).getD []).length ≤ 1048576 := by have := unsummed_len xs; have := hx.hlen; omega
    go_enter Try.func6, Try.ntmps6
    go_wp2_with fail
    refine (toInt64S_copied _ _ _ _ xs _ hx (Nat.le_refl _) hn).mono ?_
    rintro e w1 ⟨a1, c1, rfl, -, hi1, hz1, hb1, hs1⟩
    have HZ1 := Lib.hid hz1; clear hz1
    go_wp2_with fail
    refine (specUnsummed_any _ _ _ _ xs _ hi1 (Nat.le_refl _) HZ1.out (by omega)).mono ?_
    rintro e w2 ⟨v2, rfl, ho2, hb2⟩
    obtain ⟨a2, c2, rfl, hi2⟩ := ho2.ints hwf
    have hs2 := hb2.size
    have hB2 := hb1.trans (hb2.mono hs1)
    have hx2' := hx.below hB2 (Nat.le_refl _) (Nat.le_refl _)
    clear ho2 hi1 hb1 hb2
    go_wp2_with fail
    refine (toInt64S_copied _ _ _ _ xs _ hx2' hB2.size hn).mono ?_
    rintro e w3 ⟨a3, c3, rfl, ho3, hi3, hz3, hb3, hs3⟩
    have HZ3 := Lib.hid hz3; clear hz3
    go_wp2_with fail
    refine (implUnsummed_any _ _ _ _ xs _ hi3 (Nat.le_refl _) HZ3.out (by omega)).mono ?_
    rintro e w4 ⟨v4, rfl, ho4, hb4⟩
    obtain ⟨ys, hys⟩ : ∃ ys, (unsummed xs).getD [] = ys := ⟨_, rfl⟩
    rw [hys] at hwf hwl hi2 ho4
    rw [hys]
    have HYS := Lib.hid hys; clear hys
    obtain ⟨fl, hfl⟩ : ∃ fl, (unsummed xs).isSome = fl := ⟨_, rfl⟩
    rw [hfl]
    have HFL := Lib.hid hfl; clear hfl
    obtain ⟨a4, c4, rfl, hi4⟩ := ho4.ints hwf
    have hs4 := hb4.size
    have hi2' := (hi2.below hb3 (Nat.le_refl _) (Nat.le_refl _)).below hb4 (by omega) (Nat.le_refl _)
    have ho3' := ho3.below hb4 (Nat.le_refl _)
    have hB4 := hB2.trans ((hb3.mono (hB2.size)).trans (hb4.mono (by omega)))
    have hB24 := hb3.trans (hb4.mono hs3)
    clear hb3 hb4
    go_wp2_with fail
    refine (eqInt64S_any _ _ _ _ _ _ _ _ _ _ _ hi4 hi2').mono ?_
    rintro e w5 ⟨rfl, hd5⟩
    rw [decide_eq_true rfl]
    have hb5 := fun C => hd5.below C
    have hs5 := (hb5 w4.heap.size).size
    have hw5 := hi2'.below (hb5 w4.heap.size) (by omega) (Nat.le_refl _)
    have hx05 := ho3'.below (hb5 w4.heap.size) (Nat.le_refl _)
    have hg5 := ho4.below (hb5 w4.heap.size) (Nat.le_refl _)
    have hB5 := hB4.trans (hb5 _)
    have hx5 := hx.below hB5 (Nat.le_refl _) (Nat.le_refl _)
    clear hd5 hb5 hi2' ho3' hi4 ho4 hi2 hx2' hB4 hB24
    go_wp2_with fail
    refine (toInt64S_copied _ _ _ _ xs _ hx5 hB5.size hn).mono ?_
    rintro e w6 ⟨a6, c6, rfl, -, hi6, -, hb6, hs6⟩
    have hw6 := hw5.below hb6 (by omega) (Nat.le_refl _)
    have hx06 := hx05.below hb6 (Nat.le_refl _)
    have hg6 := hg5.below hb6 (Nat.le_refl _)
    have hB6 := hB5.trans (hb6.mono hB5.size)
    have hx6 := hx.below hB6 (Nat.le_refl _) (Nat.le_refl _)
    go_wp2_with fail
    refine (eqInt64S_any _ _ _ _ _ _ _ _ xs xs _ (hx06.ints_at hi6.wf) hi6).mono ?_
    rintro e w7 ⟨rfl, hd7⟩
    rw [decide_eq_true rfl]
    have hb7 := fun C => hd7.below C
    have hs7 := (hb7 w6.heap.size).size
    have hw7 := hw6.below (hb7 w6.heap.size) (by omega) (Nat.le_refl _)
    have hx07 := hx06.below (hb7 w6.heap.size) (Nat.le_refl _)
    have hg7 := hg6.below (hb7 w6.heap.size) (Nat.le_refl _)
    have hB7 := hB6.trans (hb7 _)
    have hx7 := hx.below hB7 (Nat.le_refl _) (Nat.le_refl _)
    clear hd7 hb7 hx5 hw5 hx05 hg5 hB5 hx6 hw6 hx06 hg6 hB6 hb6 hi6
    have hnl := hx7.hlen
    have HNL := Lib.hid hnl; clear hnl
    go_wp2_with fail
    refine (mark_from w2.heap.size _ xs n _ hx07 HNL.out hn).mono ?_
    rintro e w8 ⟨rfl, -, hgb8, hs8, hb8⟩
    have hw8 := hw7.below hb8 (Nat.le_refl _) (Nat.le_refl _)
    have hg8 := hg7.older ho3 (Nat.le_refl _) hgb8
    have hB8 := hB7.trans (hb8.mono hB2.size)
    have hx8 := hx.below hB8 (Nat.le_refl _) (Nat.le_refl _)
    have HS8 := Lib.hid hs8; clear hs8 hgb8 hx7 hw7 hg7 hB7 hx07
    go_wp2_with fail
    refine (eqInt64S_any _ _ _ _ _ _ _ _ _ _ _ (hg8.ints_at hwf) hw8).mono ?_
    rintro e w9 ⟨rfl, hd9⟩
    rw [decide_eq_true rfl]
    have hb9 := fun C => hd9.below C
    have hs9 := (hb9 w8.heap.size).size
    have hw9 := hw8.below (hb9 w8.heap.size) (by have := HS8.out; omega) (Nat.le_refl _)
    have hg9 := hg8.below (hb9 w8.heap.size) (Nat.le_refl _)
    have hB9 := hB8.trans (hb9 _)
    have hx9 := hx.below hB9 (Nat.le_refl _) (Nat.le_refl _)
    clear hd9 hb9 hx8 hw8 hg8 hB8
    obtain ⟨m, hm⟩ : ∃ m, m = ys.length := ⟨_, rfl⟩
    rw [← hm] at hg9 hw9 hwl
    rw [← hm]
    have HM := Lib.hid hm; clear hm
    go_wp2_with fail
    refine (mark_from w3.heap.size _ ys m _ hg9 HM.out.symm (by omega)).mono ?_
    rintro e w10 ⟨rfl, hg10, -, hs10, hb10⟩
    have hw10 := hw9.below hb10 (by omega) (Nat.le_refl _)
    have hB10 := hB9.trans (hb10.mono (by have := hB2.size; omega))
    have hx10 := hx.below hB10 (Nat.le_refl _) (Nat.le_refl _)
    have HS10 := Lib.hid hs10; clear hs10 hx9 hw9 hB9 hg9
    go_wp2_with fail
    refine (held_from _ _ _ _ _ (hg10.ints_at (marks_i64 (by decide) (by omega))) (by omega)).mono ?_
    rintro e w11 ⟨rfl, rfl⟩
    go_wp2_with fail
    refine (toInt64S_copied _ _ _ _ xs _ hx10 hB10.size hn).mono ?_
    rintro e w12 ⟨a12, c12, rfl, -, hi12, hz12, hb12, hs12⟩
    have HZ12 := Lib.hid hz12; clear hz12
    have hw12 := hw10.below hb12 (by have := HS10.out; have := HS8.out; omega) (Nat.le_refl _)
    have hg12 := hg10.below hb12 (Nat.le_refl _)
    have hB12 := hB10.trans (hb12.mono hB10.size)
    go_wp2_with fail
    refine (implUnsummed_any _ _ _ _ xs _ hi12 (Nat.le_refl _) HZ12.out (by omega)).mono ?_
    rintro e w13 ⟨v13, rfl, ho13, hb13⟩
    rw [HYS.out] at ho13
    rw [HFL.out]
    obtain ⟨a13, c13, rfl, hi13⟩ := ho13.ints hwf
    have hs13 := hb13.size
    have hw13 := hw12.below hb13 (by have := HS10.out; have := HS8.out; omega) (Nat.le_refl _)
    have hg13 := hg12.below hb13 (Nat.le_refl _)
    have hB13 := hB12.trans (hb13.mono hB12.size)
    have hi13' : Ints w13.heap.size w13 a13 m c13 ys := by rw [HM.out]; exact hi13
    clear hw12 hg12 hB12 hw10 hg10 hB10 hx10 hi12 ho13
    rw [← HM.out]
    go_wp2_with fail
    refine (eqInt64S_any _ _ _ _ _ _ _ _ _ _ _ hi13' hw13).mono ?_
    rintro e w14 ⟨rfl, hd14⟩
    rw [decide_eq_true rfl]
    have hb14 := fun C => hd14.below C
    have hg14 := hg13.below (hb14 w13.heap.size) (Nat.le_refl _)
    have hB14 := hB13.trans (hb14 _)
    clear hd14 hb14
    go_wp2_with fail
    refine (held_from _ _ _ _ _ (hg14.ints_at (marks_i64 (by decide) (by omega))) (by omega)).mono ?_
    rintro e w15 ⟨rfl, rfl⟩
    go_wp2_with fail
    go_ret
    exact ⟨rfl, hB14⟩

set_option maxRecDepth 100000 in
theorem exactUnsummed_lifted (os : Os) (started : os.Started) (H : Type) (enc : TypeId × Value → H) :
    ReturnsInHanded {} Try.checked os 6 .any (Rows.fnExactUnsummedSpec.pre6 enc Try.prog Try.f6 Rows.fnExactUnsummedRow.domain false) (Rows.fnExactUnsummedSpec.post enc Try.prog Try.f6 false true false false) := by
  refine returnsInHanded_of_change (C := Try.checked) Try.own started (by kernel_rfl) Try.func6
    (ChangeSpec.witness6 (enc := enc) (C := Try.checked) false ⟨#[], #[.slice none 0 0], []⟩ 8 (by kernel_rfl) (by kernel_rfl) (by kernel_rfl) (by kernel_rfl)) ?_
  intro W base args ds gs before hval0 hW hcnd _
  have hval : ∀ (j : Nat) t v, Try.f6.params[j]? = some t → args[j]? = some v → Value.okWide Try.prog W .any base t v := hval0
  have hW' := hW
  obtain ⟨p, q, hA0, hV, rfl, hfz, hnd⟩ := hW
  have hA : DataW.TrodAll enc Try.prog W 0 (fun _ => true) true Try.f6.params.toList args.toList ds p := hA0
  rw [Try.params6] at hA hval
  obtain ⟨v0, d0, rfl, rfl, h0⟩ := trodAll_one hA
  obtain ⟨rfl, rfl⟩ := trodVars_none hV
  clear hA0 hval0 hA
  simp only [List.append_nil] at hW' hfz
  have hlt : ∀ x ∈ p, x.block < W.heap.size := fun x hx => by simpa using hW'.lt x hx
  obtain ⟨ao, n, cap, xs, rfl, hx⟩ := open_i64s (by exact hval 0 _ v0 rfl rfl) h0 hlt
  refine (exactUnsummed_any ao n cap xs W hx).mono fun e W' ⟨he, hb⟩ => ?_
  subst he
  exact ⟨_, rfl, _, _, _, _, _, [], hW', trodAll_mk1 (shut_bool Try.underlying4 _), trodAll_mk1 (Below.trod Try.laidOut (by kernel_rfl) (of_decide_eq_true (by kernel_rfl)) h0 hb hlt), rfl, hb.frame _, fun h => by cases h⟩

theorem exactUnsummed_holds : Rows.FnExactUnsummedSaid :=
  OpenClaim.holds_of_wide 6 Try.f6 rfl rfl rfl rfl rfl rfl rfl ⟨rfl, rfl, rfl, rfl, rfl⟩ rfl rfl rfl rfl rfl (by kernel_rfl) Try.func6 (by kernel_rfl)
    (of_decide_eq_true (by kernel_rfl)) (by unfold Func.isWrapper; first | (rw [if_pos (by decide +kernel)]; kernel_rfl) | (rw [if_neg (by decide +kernel)]; exact ⟨rfl, rfl⟩))
    (fun os started H enc _ => exactUnsummed_lifted os started H enc)

end Go.Proofs.Ytdfcdemkmniknaa
