/-
  The plain mathematics of chapter 1, in Lean's own numbers and lists.
-/
namespace Go.Proofs.Ytekjhcckepkmnaa

def inB (x lo hi : Int) : Bool := decide (lo ≤ x ∧ x ≤ hi)
def allBytes (xs : List Int) : Bool := xs.all (fun x => decide (0 ≤ x ∧ x ≤ 255))
def bytesOk (xs : List Int) : Bool := decide (xs.length ≤ 4000) && allBytes xs

theorem allBytes_snoc (xs : List Int) (k : Nat) (hk : k < xs.length) : allBytes (xs.take (k + 1)) = (allBytes (xs.take k) && decide (0 ≤ xs.getD k 0 ∧ xs.getD k 0 ≤ 255)) := by
  unfold allBytes
  rw [List.take_succ_eq_append_getElem hk, List.all_append]
  simp [List.getD, hk]

theorem allBytes_false (xs : List Int) (k : Nat) (hk : k < xs.length) (h : ¬ (0 ≤ xs.getD k 0 ∧ xs.getD k 0 ≤ 255)) : allBytes xs = false := by
  rw [Bool.eq_false_iff]
  intro ht
  apply h
  have := List.all_eq_true.1 ht (xs[k]) (List.getElem_mem _)
  simpa [List.getD, hk] using this

theorem bytesOk_no (xs : List Int) (k : Nat) (hk : k < xs.length) (h : ¬ (0 ≤ xs.getD k 0 ∧ xs.getD k 0 ≤ 255)) : bytesOk xs = false := by
  simp [bytesOk, allBytes_false xs k hk h]

theorem allBytes_mem {xs : List Int} (h : allBytes xs = true) : ∀ x ∈ xs, 0 ≤ x ∧ x ≤ 255 := by
  intro x hx
  simpa using List.all_eq_true.1 h x hx

theorem bytesOk_mem {xs : List Int} (h : bytesOk xs = true) : xs.length ≤ 4000 ∧ ∀ x ∈ xs, 0 ≤ x ∧ x ≤ 255 := by
  simp only [bytesOk, Bool.and_eq_true, decide_eq_true_eq] at h
  exact ⟨h.1, allBytes_mem h.2⟩

/-- Reading a number: at most f bytes more, from place i on, n read so far, the next seven bits count u each. -/
def scan (xs : List Int) : Nat → Nat → Int → Int → Option (Int × Nat)
  | 0, _, _, _ => none
  | f + 1, i, n, u =>
    if i < xs.length then
      if xs.getD i 0 < 128 then
        if 1000000000 < n + xs.getD i 0 % 128 * u ∨ (xs.getD i 0 = 0 ∧ 1 < u) then none else some (n + xs.getD i 0 % 128 * u, i + 1)
      else scan xs f (i + 1) (n + xs.getD i 0 % 128 * u) (u * 128)
    else none

def scanAt (xs : List Int) (p : Int) : Option (Int × Nat) := if 0 ≤ p then scan xs 5 p.toNat 0 1 else none
def readVar (xs : List Int) (p : Int) : Option (Int × Nat) := if bytesOk xs = true then scanAt xs p else none
def rvN (o : Option (Int × Nat)) : Int := match o with | some r => r.1 | none => 0
def rvE (o : Option (Int × Nat)) : Int := match o with | some r => r.2 | none => 0

theorem scan_stop {xs : List Int} {f i : Nat} {n u : Int} (h : xs.length ≤ i) : scan xs f i n u = none := by
  cases f with
  | zero => rfl
  | succ f => rw [scan, if_neg (by omega)]
theorem scan_more {xs : List Int} {f i : Nat} {n u : Int} (h : i < xs.length) (hb : ¬ xs.getD i 0 < 128) : scan xs (f + 1) i n u = scan xs f (i + 1) (n + xs.getD i 0 % 128 * u) (u * 128) := by
  rw [scan, if_pos h, if_neg hb]
theorem scan_bad {xs : List Int} {f i : Nat} {n u : Int} (h : i < xs.length) (hb : xs.getD i 0 < 128) (hc : 1000000000 < n + xs.getD i 0 % 128 * u ∨ (xs.getD i 0 = 0 ∧ 1 < u)) : scan xs (f + 1) i n u = none := by
  rw [scan, if_pos h, if_pos hb, if_pos hc]
theorem scan_good {xs : List Int} {f i : Nat} {n u : Int} (h : i < xs.length) (hb : xs.getD i 0 < 128) (hc : ¬ (1000000000 < n + xs.getD i 0 % 128 * u ∨ (xs.getD i 0 = 0 ∧ 1 < u))) : scan xs (f + 1) i n u = some (n + xs.getD i 0 % 128 * u, i + 1) := by
  rw [scan, if_pos h, if_pos hb, if_neg hc]

/-- The five units of a number's bytes, with how many bytes may come. -/
def Unit' (f : Nat) (u : Int) : Prop := (f = 5 ∧ u = 1) ∨ (f = 4 ∧ u = 128) ∨ (f = 3 ∧ u = 16384) ∨ (f = 2 ∧ u = 2097152) ∨ (f = 1 ∧ u = 268435456) ∨ (f = 0 ∧ u = 34359738368)

/-- A number's bytes: by sevens, the least first. -/
def varN (n : Nat) : List Int := if h : n < 128 then [(n : Int)] else ((n : Int) % 128 + 128) :: varN (n / 128)
  termination_by n
  decreasing_by omega

def varOf (n : Int) : List Int := if 0 ≤ n ∧ n ≤ 1000000000 then varN n.toNat else []

theorem varN_small {n : Nat} (h : n < 128) : varN n = [(n : Int)] := by rw [varN, dif_pos h]
theorem varN_big {n : Nat} (h : ¬ n < 128) : varN n = ((n : Int) % 128 + 128) :: varN (n / 128) := by rw [varN, dif_neg h]

theorem varN_len (n : Nat) : (varN n).length ≤ n + 1 := by
  induction n using Nat.strongRecOn with
  | _ n ih =>
    by_cases h : n < 128
    · rw [varN_small h]; simp
    · rw [varN_big h]
      have := ih (n / 128) (by omega)
      simp only [List.length_cons]
      omega

theorem varN_bytes (n : Nat) : ∀ x ∈ varN n, 0 ≤ x ∧ x ≤ 255 := by
  induction n using Nat.strongRecOn with
  | _ n ih =>
    by_cases h : n < 128
    · rw [varN_small h]
      intro x hx
      simp only [List.mem_singleton] at hx
      omega
    · rw [varN_big h]
      intro x hx
      rcases List.mem_cons.1 hx with rfl | hx
      · omega
      · exact ih (n / 128) (by omega) x hx

theorem varOf_len (n : Int) : (varOf n).length ≤ 1000000001 := by
  unfold varOf
  split
  · have := varN_len n.toNat; omega
  · simp
theorem varOf_bytes (n : Int) : ∀ x ∈ varOf n, 0 ≤ x ∧ x ≤ 255 := by
  unfold varOf
  split
  · exact varN_bytes _
  · intro x hx; cases hx

end Go.Proofs.Ytekjhcckepkmnaa
