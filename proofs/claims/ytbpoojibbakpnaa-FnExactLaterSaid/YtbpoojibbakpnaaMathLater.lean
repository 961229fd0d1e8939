/-
  A vector covers what is not later.
-/
import Derived.Test.YtbpoojibbakpnaaVec
namespace Go.Proofs.Ytbpoojibbakpnaa

theorem zip_get {xs ys : List Int} (hx : xs.length = 4) (hy : ys.length = 4) (j : Nat) (hj : j < 4) : (List.zipWith max xs ys).getD j 0 = max (xs.getD j 0) (ys.getD j 0) := by
  have h : j < (List.zipWith max xs ys).length := by simp; omega
  have h1 : (List.zipWith max xs ys).getD j 0 = (List.zipWith max xs ys)[j] := by simp only [List.getD, List.getElem?_eq_getElem h, Option.getD_some]
  rw [h1, List.getElem_zipWith]
  simp [List.getD, show j < xs.length by omega, show j < ys.length by omega]
theorem zip_vecOk {xs ys : List Int} (hx : vecOk xs = true) (hy : vecOk ys = true) : vecOk (List.zipWith max xs ys) = true := by
  have h1 := vec_len hx; have h2 := vec_len hy
  refine vecPre_all (by simp; omega) (fun j hj => ?_)
  have a := vec_get hx j hj; have b := vec_get hy j hj
  rw [zip_get h1 h2 j hj]
  simp only [inB, decide_eq_true_eq]
  omega
theorem later_ok {xs ys : List Int} (hx : vecOk xs = true) (hy : vecOk ys = true) : (later xs ys).length = 4 ∧ covers (later xs ys) xs = true ∧ covers (later xs ys) ys = true ∧ covers xs ys = decide (later xs ys = xs) := by
  have h1 := vec_len hx; have h2 := vec_len hy
  rw [later_yes hx hy]
  refine ⟨by simp; omega, covers_yes (zip_vecOk hx hy) hx (fun j hj => ?_), covers_yes (zip_vecOk hx hy) hy (fun j hj => ?_), ?_⟩
  · rw [zip_get h1 h2 j hj]; omega
  · rw [zip_get h1 h2 j hj]; omega
  · rw [Bool.eq_iff_iff, covers_iff, decide_eq_true_eq]
    constructor
    · rintro ⟨-, -, h⟩
      apply List.ext_getElem (by simp; omega)
      intro i hi hi'
      have := h i (by omega)
      have e := zip_get h1 h2 i (by omega)
      simp [List.getD, show i < xs.length by omega, show i < ys.length by omega] at this ⊢
      omega
    · intro h
      refine ⟨hx, hy, fun j hj => ?_⟩
      have e := zip_get h1 h2 j hj
      rw [h] at e
      omega
theorem later_bad {xs ys : List Int} (h : ¬ (vecOk xs = true ∧ vecOk ys = true)) : later xs ys = [] := by rw [later, if_neg h]
theorem later_i64 (xs ys : List Int) : AllI64 (later xs ys) := by
  intro z hz
  unfold later at hz
  split at hz
  · rename_i hh
    obtain ⟨i, hi, rfl⟩ := List.mem_iff_getElem.1 hz
    simp at hi ⊢
    have h1 := vec_len hh.1; have h2 := vec_len hh.2
    have e1 := vec_get hh.1 i (by omega)
    have e2 := vec_get hh.2 i (by omega)
    simp [List.getD, show i < xs.length by omega, show i < ys.length by omega] at e1 e2
    unfold I64
    omega
  · cases hz
theorem later_len4 (xs ys : List Int) : (later xs ys).length ≤ 4 := by
  by_cases h : vecOk xs = true ∧ vecOk ys = true
  · have := (later_ok h.1 h.2).1; omega
  · rw [later_bad h]; simp

end Go.Proofs.Ytbpoojibbakpnaa
