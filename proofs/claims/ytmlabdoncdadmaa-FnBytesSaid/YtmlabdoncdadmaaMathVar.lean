/-
  What is written of a number is read as it, and nothing else is: in plain mathematics.
-/
import Derived.Test.YtmlabdoncdadmaaMath1
namespace Go.Proofs.Ytmlabdoncdadmaa

theorem varN_ne (m : Nat) : varN m ≠ [] := by
  by_cases h : m < 128
  · rw [varN_small h]; simp
  · rw [varN_big h]; simp

theorem take_drop_cons (xs : List Int) (i k : Nat) (hi : i < xs.length) (hk : i < k) : (xs.drop i).take (k - i) = xs.getD i 0 :: (xs.drop (i + 1)).take (k - (i + 1)) := by
  rw [List.drop_eq_getElem_cons hi, show k - i = (k - (i + 1)) + 1 by omega, List.take_succ_cons]
  simp [List.getD, hi]

theorem scan_spec (xs : List Int) (hb : ∀ x ∈ xs, 0 ≤ x ∧ x ≤ 255) (f : Nat) : ∀ (i : Nat) (n u a : Int) (k : Nat), 1 ≤ u → scan xs f i n u = some (a, k) →
    ∃ m : Nat, a = n + m * u ∧ varN m = (xs.drop i).take (k - i) ∧ i < k ∧ k ≤ xs.length ∧ a ≤ 1000000000 ∧ (1 < u → 0 < m) := by
  induction f with
  | zero => intro i n u a k _ h; cases h
  | succ f ih =>
    intro i n u a k hu h
    rw [scan] at h
    by_cases hi : i < xs.length
    · have hx : 0 ≤ xs.getD i 0 ∧ xs.getD i 0 ≤ 255 := by
        have e : xs.getD i 0 = xs[i] := by simp [List.getD, hi]
        rw [e]; exact hb _ (List.getElem_mem _)
      have htd := fun k hk => take_drop_cons xs i k hi hk
      rw [if_pos hi] at h
      generalize xs.getD i 0 = b at h hx htd
      by_cases hb1 : b < 128
      · rw [if_pos hb1] at h
        split at h
        · cases h
        · rename_i hc
          simp only [Option.some.injEq, Prod.mk.injEq] at h
          obtain ⟨rfl, rfl⟩ := h
          obtain ⟨m, rfl⟩ : ∃ m : Nat, b = m := ⟨b.toNat, by omega⟩
          have hm : (m : Int) % 128 = m := by omega
          refine ⟨m, by rw [hm], ?_, by omega, by omega, by omega, fun hu1 => by omega⟩
          rw [htd _ (by omega), varN_small (by omega)]
          simp
      · rw [if_neg hb1] at h
        obtain ⟨m, ha, hv, h1, h2, h3, h4⟩ := ih (i + 1) (n + b % 128 * u) (u * 128) a k (by omega) h
        have hm := h4 (by omega)
        refine ⟨(b % 128).toNat + 128 * m, ?_, ?_, by omega, h2, h3, fun _ => by omega⟩
        · rw [ha]
          have e : (((b % 128).toNat + 128 * m : Nat) : Int) = b % 128 + 128 * m := by omega
          rw [e, Int.add_mul, Int.add_assoc, Int.mul_comm u 128, ← Int.mul_assoc, Int.mul_comm (m : Int) 128]
        · rw [varN_big (by omega), htd k (by omega)]
          have e1 : ((b % 128).toNat + 128 * m) / 128 = m := by omega
          rw [e1, hv]
          congr 1
          omega
    · rw [if_neg hi] at h
      cases h

theorem readVar_spec {xs : List Int} {p a : Int} {k : Nat} (h : readVar xs p = some (a, k)) :
    0 ≤ p ∧ p ≤ k ∧ k ≤ xs.length ∧ 0 ≤ a ∧ a ≤ 1000000000 ∧ varOf a = (xs.drop p.toNat).take (k - p.toNat) := by
  unfold readVar at h
  split at h
  · rename_i hok
    unfold scanAt at h
    split at h
    · rename_i hp
      obtain ⟨m, ha, hv, h1, h2, h3, _⟩ := scan_spec xs (bytesOk_mem hok).2 5 _ _ _ _ _ (by decide) h
      have ha : a = m := by omega
      subst ha
      refine ⟨hp, by omega, h2, by omega, h3, ?_⟩
      rw [varOf, if_pos ⟨by omega, h3⟩]
      simpa using hv
    · cases h
  · cases h

theorem varN_fuel (f : Nat) : ∀ m : Nat, m < 128 ^ (f + 1) → (varN m).length ≤ f + 1 := by
  induction f with
  | zero => intro m h; rw [varN_small (by omega)]; simp
  | succ f ih =>
    intro m h
    by_cases hm : m < 128
    · rw [varN_small hm]; simp
    · rw [varN_big hm, List.length_cons]
      have := ih (m / 128) (by rw [Nat.pow_succ] at h; omega)
      omega

theorem getD_mid (pre post : List Int) (x : Int) : (pre ++ x :: post).getD pre.length 0 = x := by
  simp [List.getD]

theorem scan_write (m : Nat) : ∀ (pre post : List Int) (f : Nat) (n u : Int), 1 ≤ u → (varN m).length ≤ f → n + m * u ≤ 1000000000 → (1 < u → 0 < m) →
    scan (pre ++ (varN m ++ post)) f pre.length n u = some (n + m * u, pre.length + (varN m).length) := by
  induction m using Nat.strongRecOn with
  | _ m ih =>
    intro pre post f n u hu hf ha hm
    by_cases h : m < 128
    · rw [varN_small h] at hf ⊢
      simp only [List.length_cons, List.length_nil] at hf
      obtain ⟨f, rfl⟩ : ∃ f', f = f' + 1 := ⟨f - 1, by omega⟩
      have hg : (pre ++ ([(m : Int)] ++ post)).getD pre.length 0 = m := getD_mid pre post m
      have hmm : (m : Int) % 128 = m := by omega
      rw [scan_good (by simp) (by rw [hg]; omega) (by rw [hg, hmm]; omega), hg, hmm]
      rfl
    · rw [varN_big h] at hf ⊢
      simp only [List.length_cons] at hf
      obtain ⟨f, rfl⟩ : ∃ f', f = f' + 1 := ⟨f - 1, by omega⟩
      have hg : (pre ++ ((((m : Int) % 128 + 128) :: varN (m / 128)) ++ post)).getD pre.length 0 = (m : Int) % 128 + 128 := getD_mid pre _ _
      rw [scan_more (by simp) (by rw [hg]; omega), hg]
      have hb : ((m : Int) % 128 + 128) % 128 = (m : Int) % 128 := by omega
      have hq : ((m / 128 : Nat) : Int) = (m : Int) / 128 := by omega
      have e : n + (m : Int) % 128 * u + ((m / 128 : Nat) : Int) * (u * 128) = n + m * u := by
        have hd : (m : Int) = (m : Int) % 128 + 128 * ((m / 128 : Nat) : Int) := by omega
        generalize ((m / 128 : Nat) : Int) = q at hd
        generalize (m : Int) % 128 = r at hd
        rw [hd, Int.add_mul, Int.add_assoc, Int.mul_comm u 128, ← Int.mul_assoc, Int.mul_comm q 128]
      have hr := ih (m / 128) (by omega) (pre ++ [(m : Int) % 128 + 128]) post f (n + (m : Int) % 128 * u) (u * 128) (by omega) (by omega) (by rw [e]; exact ha) (fun _ => by omega)
      rw [e] at hr
      rw [hb]
      rw [show pre ++ (((m : Int) % 128 + 128) :: varN (m / 128) ++ post) = pre ++ [(m : Int) % 128 + 128] ++ (varN (m / 128) ++ post) by simp]
      rw [show pre.length + 1 = (pre ++ [(m : Int) % 128 + 128]).length by simp, hr]
      simp
      omega

theorem readVar_write (pre post : List Int) (n : Int) (hn0 : 0 ≤ n) (hn1 : n ≤ 1000000000) (hok : bytesOk (pre ++ (varOf n ++ post)) = true) :
    readVar (pre ++ (varOf n ++ post)) pre.length = some (n, pre.length + (varOf n).length) := by
  obtain ⟨m, rfl⟩ : ∃ m : Nat, n = m := ⟨n.toNat, by omega⟩
  have e : varOf m = varN m := by rw [varOf, if_pos ⟨hn0, hn1⟩]; simp
  rw [e] at hok ⊢
  rw [readVar, if_pos hok, scanAt, if_pos (by omega)]
  have h5 := varN_fuel 4 m (by omega)
  have := scan_write m pre post 5 0 1 (by decide) h5 (by omega) (fun h => by omega)
  simpa using this

theorem varOf_small_len (n : Int) : (varOf n).length ≤ 5 := by
  unfold varOf
  split
  · exact varN_fuel 4 n.toNat (by omega)
  · simp

theorem bytesOk_mk {xs : List Int} (h1 : xs.length ≤ 4000) (h2 : ∀ x ∈ xs, 0 ≤ x ∧ x ≤ 255) : bytesOk xs = true := by
  unfold bytesOk allBytes
  rw [decide_eq_true h1, Bool.true_and, List.all_eq_true]
  intro x hx
  exact decide_eq_true (h2 x hx)

theorem readVar_seven (n : Int) (h : 0 ≤ n ∧ n ≤ 1000000000) : readVar (7 :: varOf n) 1 = some (n, (varOf n).length + 1) := by
  have hok : bytesOk ([7] ++ (varOf n ++ [])) = true := bytesOk_mk (by have := varOf_small_len n; simp; omega) (fun x hx => by
    simp at hx
    rcases hx with rfl | hx
    · decide
    · exact varOf_bytes n x hx)
  have := readVar_write [7] [] n h.1 h.2 hok
  simp at this
  rw [this, Nat.add_comm]

theorem varOf_nil {n : Int} : (varOf n).length = 0 ↔ (n < 0 ∨ 1000000000 < n) := by
  unfold varOf
  split
  · rename_i h
    constructor
    · intro h0
      exact absurd (List.eq_nil_of_length_eq_zero h0) (varN_ne _)
    · intro h0; omega
  · rename_i h
    simp
    omega

end Go.Proofs.Ytmlabdoncdadmaa
