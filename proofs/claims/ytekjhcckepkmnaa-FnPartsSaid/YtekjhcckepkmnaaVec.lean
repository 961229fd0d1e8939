/-
  Vectors (chapter 5): spec.VecOk, l1Max, Later, Covers.
-/
import Derived.Test.YtekjhcckepkmnaaL1In
import Derived.Test.YtekjhcckepkmnaaAppend
import Derived.Test.YtekjhcckepkmnaaAppendStep
import Derived.Deep.RegionWith
namespace Go.Proofs.Ytekjhcckepkmnaa
open Go.RowKit

def vecOk (xs : List Int) : Bool := decide (xs.length = 4) && xs.all (fun x => decide (0 ≤ x ∧ x ≤ 100000))
theorem vec_len {xs : List Int} (h : vecOk xs = true) : xs.length = 4 := by simp [vecOk] at h; exact h.1
theorem vec_get {xs : List Int} (h : vecOk xs = true) (i : Nat) (hi : i < 4) : 0 ≤ xs.getD i 0 ∧ xs.getD i 0 ≤ 100000 := by
  have hl := vec_len h
  simp [vecOk] at h
  have e : xs.getD i 0 = xs[i] := by simp [List.getD, show i < xs.length by omega]
  rw [e]
  exact h.2 _ (List.getElem_mem _)
def vecPre (xs : List Int) (k : Nat) : Prop := ∀ j, j < k → inB (xs.getD j 0) 0 100000 = true
theorem vecPre_all {xs : List Int} (hl : xs.length = 4) (h : vecPre xs 4) : vecOk xs = true := by
  simp only [vecOk, Bool.and_eq_true, decide_eq_true_eq, List.all_eq_true]
  refine ⟨hl, fun x hx => ?_⟩
  obtain ⟨i, hi, rfl⟩ := List.mem_iff_getElem.1 hx
  have := h i (by omega)
  simpa [inB, List.getD, hi] using this
theorem vec_bad {xs : List Int} {k : Nat} (hk : k < 4) (h : inB (xs.getD k 0) 0 100000 = false) : vecOk xs = false := by
  rcases hv : vecOk xs with _ | _
  · rfl
  · have := vec_get hv k hk
    simp only [inB, decide_eq_false_iff_not] at h
    omega
theorem vec_badlen {xs : List Int} (h : xs.length ≠ 4) : vecOk xs = false := by simp [vecOk, h]

set_option maxHeartbeats 1000000 in
theorem specVecOk_any (B : Nat) (ao : Option Addr) (n cap : Nat) (xs : List Int) (w : World) (hx : Ints B w ao n cap xs) :
    Calls Try.prog 11 #[.slice ao n cap] w fun e w' => e = .returned (.bool (vecOk xs)) ∧ w' = w := by
  have hx0 := hx.hlen; have hx1 := hx.hcap; have hx2 := hx.hmax
  unfold maxLen at hx2
  by_cases h4 : n = 4
  · subst h4
    have HX := Lib.hid hx0; clear hx0
    generalize hv : vecOk xs = v
    have HV := Lib.hid hv; clear hv
    go_enter Try.func11, Try.ntmps11
    go_wp2
    go_loop [3] (fun i => ∃ k : Nat, k ≤ 4 ∧ i = .int .i64 k ∧ Hid (vecPre xs k)) (fun i => 4 - (intOf i).toNat)
    case atStart => exact ⟨0, Nat.zero_le _, rfl, Lib.hid (fun j hj => absurd hj (by omega))⟩
    case round =>
      obtain ⟨k, hk, rfl, ht⟩ := hrel
      by_cases hlt : k < 4
      · obtain ⟨b, off, rfl, hbB, hc⟩ := hx.at k hlt
        have g1 := hc k hlt
        clear hc
        have hno : inB (xs.getD k 0) 0 100000 = false → v = false := fun h => by rw [← HV.out]; exact vec_bad hlt h
        have hyes : inB (xs.getD k 0) 0 100000 = true → vecPre xs (k + 1) := fun h j hj => by
          by_cases e : j = k
          · subst e; exact h
          · exact ht.out j (by omega)
        have hin := fun w => l1In_any (xs.getD k 0) 0 100000 w
        generalize inB (xs.getD k 0) 0 100000 = bb at hno hyes hin
        generalize xs.getD k 0 = x at g1 hin
        have HN := Lib.hid hno; have HY := Lib.hid hyes; clear hno hyes
        have i1 : (k : Int) < 4 := by omega
        have i2 : (0 : Int) ≤ k := by omega
        rcases bb with _ | _
        · have hvv := Lib.hid (HN.out rfl); clear HN HY
          go_wp2_with fail
          refine (hin _).mono ?_
          rintro e w' ⟨rfl, rfl⟩
          go_wp2_with fail
          go_ret
          exact ⟨ret_bool hvv.out.symm, rfl⟩
        · have hvv := Lib.hid (HY.out rfl); clear HN HY
          go_wp2_with fail
          refine (hin _).mono ?_
          rintro e w' ⟨rfl, rfl⟩
          go_wp2_with fail
          go_round
          case rel => exact ⟨k + 1, by omega, by go_num, hvv⟩
          case measure => simp [intOf]; omega
      · have ek : k = 4 := by omega
        subst ek
        have hv : v = true := by rw [← HV.out]; exact vecPre_all HX.out ht.out
        subst hv
        go_wp2
        go_ret
        exact ⟨rfl, rfl⟩
  · rw [vec_badlen (by omega)]
    have hb : ((n : Int) != 4) = true := by rw [bne_iff_ne]; omega
    clear hx0
    go_enter Try.func11, Try.ntmps11
    go_wp2
    go_ret
    exact ⟨rfl, rfl⟩

set_option maxHeartbeats 400000 in
theorem l1Max_any (a b : Int) (w : World) :
    Calls Try.prog 49 #[.int .i64 a, .int .i64 b] w fun e w' => e = .returned (.int .i64 (max a b)) ∧ w' = w := by
  by_cases h : b < a
  · go_enter Try.func49, Try.ntmps49
    go_wp2
    go_ret
    exact ⟨ret_int (by omega), rfl⟩
  · go_enter Try.func49, Try.ntmps49
    go_wp2
    go_ret
    exact ⟨ret_int (by omega), rfl⟩

def covers (xs ys : List Int) : Bool := vecOk xs && vecOk ys && (List.range 4).all (fun j => decide (ys.getD j 0 ≤ xs.getD j 0))
theorem covers_no {xs ys : List Int} (h : vecOk xs = false ∨ vecOk ys = false) : covers xs ys = false := by
  rcases h with h | h <;> simp [covers, h]
theorem covers_iff {xs ys : List Int} : covers xs ys = true ↔ vecOk xs = true ∧ vecOk ys = true ∧ ∀ j, j < 4 → ys.getD j 0 ≤ xs.getD j 0 := by
  simp only [covers, Bool.and_eq_true, List.all_eq_true, List.mem_range, decide_eq_true_eq]
  exact ⟨fun ⟨⟨a, b⟩, c⟩ => ⟨a, b, c⟩, fun ⟨a, b, c⟩ => ⟨⟨a, b⟩, c⟩⟩
theorem covers_bad {xs ys : List Int} {j : Nat} (hj : j < 4) (h : xs.getD j 0 < ys.getD j 0) : covers xs ys = false := by
  rcases hc : covers xs ys with _ | _
  · rfl
  · have := (covers_iff.1 hc).2.2 j hj
    omega
theorem covers_yes {xs ys : List Int} (h1 : vecOk xs = true) (h2 : vecOk ys = true) (h : ∀ j, j < 4 → ys.getD j 0 ≤ xs.getD j 0) : covers xs ys = true := covers_iff.2 ⟨h1, h2, h⟩

def later (xs ys : List Int) : List Int := if vecOk xs = true ∧ vecOk ys = true then List.zipWith max xs ys else []

theorem later_no {xs ys : List Int} (h : vecOk xs = false ∨ vecOk ys = false) : later xs ys = [] := by
  rw [later, if_neg]
  rintro ⟨h1, h2⟩
  rcases h with h | h
  · rw [h1] at h; cases h
  · rw [h2] at h; cases h
theorem later_yes {xs ys : List Int} (h1 : vecOk xs = true) (h2 : vecOk ys = true) : later xs ys = List.zipWith max xs ys := by rw [later, if_pos ⟨h1, h2⟩]
theorem zip_step {xs ys : List Int} {k n : Nat} (hx : xs.length = n) (hy : ys.length = n) (hk : k < n) : (List.zipWith max xs ys).take (k + 1) = (List.zipWith max xs ys).take k ++ [max (xs.getD k 0) (ys.getD k 0)] := by
  rw [List.take_succ_eq_append_getElem (by simp; omega)]
  simp [List.getD, show k < xs.length by omega, show k < ys.length by omega]

end Go.Proofs.Ytekjhcckepkmnaa
