/-
  The plain mathematics of chapter 1, in Lean's own numbers and lists.
-/
namespace Go.Proofs.Ytmlabdoncdadmaa

def inB (x lo hi : Int) : Bool := decide (lo ≤ x ∧ x ≤ hi)
def allBytes (xs : List Int) : Bool := xs.all (fun x => decide (0 ≤ x ∧ x ≤ 255))
def bytesOk (xs : List Int) : Bool := decide (xs.length ≤ 4000) && allBytes xs

theorem allBytes_snoc (xs : List Int) (k : Nat) (hk : k < xs.length) : allBytes (xs.take (k + 1)) = (allBytes (xs.take k) && decide (0 ≤ xs.getD k 0 ∧ xs.getD k 0 ≤ 255)) := by
  unfold allBytes
  rw [List.take_succ_eq_append_getElem hk, List.all_append]
  simp [List.getD, hk]

theorem allBytes_false (xs : List Int) (k : Nat) (hk : k < xs.length) (h : ¬ (0 ≤ xs.getD k 0 ∧ xs.getD k 0 ≤ 255)) : allBytes xs = false := by
  rw [Bool.eq_false_iff]
  intro ht
  apply h
  have := List.all_eq_true.1 ht (xs[k]) (List.getElem_mem _)
  simpa [List.getD, hk] using this

theorem bytesOk_no (xs : List Int) (k : Nat) (hk : k < xs.length) (h : ¬ (0 ≤ xs.getD k 0 ∧ xs.getD k 0 ≤ 255)) : bytesOk xs = false := by
  simp [bytesOk, allBytes_false xs k hk h]

theorem allBytes_mem {xs : List Int} (h : allBytes xs = true) : ∀ x ∈ xs, 0 ≤ x ∧ x ≤ 255 := by
  intro x hx
  simpa using List.all_eq_true.1 h x hx

theorem bytesOk_mem {xs : List Int} (h : bytesOk xs = true) : xs.length ≤ 4000 ∧ ∀ x ∈ xs, 0 ≤ x ∧ x ≤ 255 := by
  simp only [bytesOk, Bool.and_eq_true, decide_eq_true_eq] at h
  exact ⟨h.1, allBytes_mem h.2⟩

end Go.Proofs.Ytmlabdoncdadmaa
