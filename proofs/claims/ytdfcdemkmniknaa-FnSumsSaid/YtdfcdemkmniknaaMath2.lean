/-
  The plain mathematics of chapter 2: the check sum, in Lean's own numbers and lists.
-/
import Derived.Test.YtdfcdemkmniknaaMath1
namespace Go.Proofs.Ytdfcdemkmniknaa

def half (n : Nat) : Nat := if n % 2 = 1 then n / 2 ^^^ 3988292384 else n / 2
def halves : Nat → Nat → Nat
  | 0, n => n
  | k + 1, n => halves k (half n)
def step (s : Nat) (x : Int) : Nat := halves 8 (s ^^^ x.toNat)
def crc (s : Nat) (xs : List Int) : Nat := xs.foldl step s
def sumN (xs : List Int) : Nat := crc 4294967295 xs ^^^ 4294967295
def sumOf (xs : List Int) : Int := if bytesOk xs = true then (sumN xs : Int) else -1
def tail4 (s : Nat) : List Int := [(s : Int) / 16777216, (s : Int) / 65536 % 256, (s : Int) / 256 % 256, (s : Int) % 256]
def withSum (xs : List Int) : List Int := if bytesOk xs = true ∧ xs.length ≤ 3996 then xs ++ tail4 (sumN xs) else []
def unsummed (xs : List Int) : Option (List Int) :=
  if 4 ≤ xs.length ∧ withSum (xs.take (xs.length - 4)) = xs then some (xs.take (xs.length - 4)) else none

theorem xor_cancel_r {a b c : Nat} (h : a ^^^ c = b ^^^ c) : a = b := by
  have := congrArg (· ^^^ c) h
  simpa [Nat.xor_assoc, Nat.xor_self] using this
theorem xor_cancel_l {a b c : Nat} (h : c ^^^ a = c ^^^ b) : a = b := xor_cancel_r (c := c) (by rw [Nat.xor_comm a, Nat.xor_comm b]; exact h)

theorem half_lt {n : Nat} (h : n < 4294967296) : half n < 4294967296 := by
  unfold half
  split
  · exact Nat.xor_lt_two_pow (n := 32) (by omega) (by omega)
  · omega
theorem halves_lt (k : Nat) : ∀ {n : Nat}, n < 4294967296 → halves k n < 4294967296 := by
  induction k with
  | zero => intro n h; exact h
  | succ k ih => intro n h; exact ih (half_lt h)
theorem step_lt {s : Nat} {x : Int} (h : s < 4294967296) (hx : 0 ≤ x ∧ x ≤ 255) : step s x < 4294967296 :=
  halves_lt 8 (Nat.xor_lt_two_pow (n := 32) h (by omega))
theorem crc_lt (xs : List Int) : ∀ {s : Nat}, s < 4294967296 → (∀ x ∈ xs, 0 ≤ x ∧ x ≤ 255) → crc s xs < 4294967296 := by
  induction xs with
  | nil => intro s h _; exact h
  | cons x xs ih => intro s h hx; exact ih (step_lt h (hx x (by simp))) (fun y hy => hx y (by simp [hy]))
theorem sumN_lt {xs : List Int} (hx : ∀ x ∈ xs, 0 ≤ x ∧ x ≤ 255) : sumN xs < 4294967296 :=
  Nat.xor_lt_two_pow (n := 32) (crc_lt xs (by omega) hx) (by omega)

theorem halves_succ (k n : Nat) : halves (k + 1) n = half (halves k n) := by
  induction k generalizing n with
  | zero => rfl
  | succ k ih => exact ih (half n)

/-- Two halvings of numbers of 32 bits are alike only of numbers that are alike. -/
theorem half_inj {a b : Nat} (ha : a < 4294967296) (hb : b < 4294967296) (h : half a = half b) : a = b := by
  have top : ∀ n : Nat, n < 4294967296 → (n / 2 ^^^ 3988292384) / 2147483648 = 1 := by
    intro n hn
    have e : (n / 2 ^^^ 3988292384) / 2 ^ 31 = (n / 2) / 2 ^ 31 ^^^ 3988292384 / 2 ^ 31 := by
      rw [← Nat.shiftRight_eq_div_pow, ← Nat.shiftRight_eq_div_pow, ← Nat.shiftRight_eq_div_pow, Nat.shiftRight_xor_distrib]
    have e2 : (n / 2) / 2 ^ 31 = 0 := by omega
    rw [e2] at e
    simpa using e
  unfold half at h
  have ta := top a ha
  have tb := top b hb
  by_cases h1 : a % 2 = 1 <;> by_cases h2 : b % 2 = 1
  · rw [if_pos h1, if_pos h2] at h
    have := xor_cancel_r h
    omega
  · rw [if_pos h1, if_neg h2] at h
    rw [h] at ta
    omega
  · rw [if_neg h1, if_pos h2] at h
    rw [← h] at tb
    omega
  · rw [if_neg h1, if_neg h2] at h
    omega
theorem halves_inj (k : Nat) : ∀ {a b : Nat}, a < 4294967296 → b < 4294967296 → halves k a = halves k b → a = b := by
  induction k with
  | zero => intro a b _ _ h; exact h
  | succ k ih => intro a b ha hb h; exact half_inj ha hb (ih (half_lt ha) (half_lt hb) h)
theorem step_inj {s t : Nat} {x : Int} (hs : s < 4294967296) (ht : t < 4294967296) (hx : 0 ≤ x ∧ x ≤ 255) (h : step s x = step t x) : s = t :=
  xor_cancel_r (halves_inj 8 (Nat.xor_lt_two_pow (n := 32) hs (by omega)) (Nat.xor_lt_two_pow (n := 32) ht (by omega)) h)
theorem step_inj2 {s : Nat} {x y : Int} (hs : s < 4294967296) (hx : 0 ≤ x ∧ x ≤ 255) (hy : 0 ≤ y ∧ y ≤ 255) (h : step s x = step s y) : x = y := by
  have := xor_cancel_l (halves_inj 8 (Nat.xor_lt_two_pow (n := 32) hs (by omega)) (Nat.xor_lt_two_pow (n := 32) hs (by omega)) h)
  omega
theorem crc_inj (xs : List Int) : ∀ {s t : Nat}, s < 4294967296 → t < 4294967296 → (∀ x ∈ xs, 0 ≤ x ∧ x ≤ 255) → crc s xs = crc t xs → s = t := by
  induction xs with
  | nil => intro s t _ _ _ h; exact h
  | cons x xs ih =>
    intro s t hs ht hx h
    have hx0 := hx x (by simp)
    exact step_inj hs ht hx0 (ih (step_lt hs hx0) (step_lt ht hx0) (fun y hy => hx y (by simp [hy])) h)

theorem crc_split (s : Nat) (as : List Int) (y : Int) (bs : List Int) : crc s (as ++ y :: bs) = crc (step (crc s as) y) bs := by
  simp [crc, List.foldl_append]
/-- Who changes one byte changes the sum. -/
theorem sumN_set {xs : List Int} {k : Nat} {y : Int} (hx : ∀ x ∈ xs, 0 ≤ x ∧ x ≤ 255) (hk : k < xs.length) (hy : 0 ≤ y ∧ y ≤ 255) (h : sumN (xs.set k y) = sumN xs) : y = xs[k] := by
  have h1 : crc 4294967295 (xs.set k y) = crc 4294967295 xs := xor_cancel_r h
  have e1 : xs.set k y = xs.take k ++ y :: xs.drop (k + 1) := by rw [List.set_eq_take_append_cons_drop, if_pos hk]
  have e2 : xs = xs.take k ++ xs[k] :: xs.drop (k + 1) := by rw [← List.drop_eq_getElem_cons hk, List.take_append_drop]
  have hxk := hx _ (List.getElem_mem hk)
  have hp : crc 4294967295 (xs.take k) < 4294967296 := crc_lt _ (by omega) (fun x hx' => hx x (List.mem_of_mem_take hx'))
  have h2 : crc (step (crc 4294967295 (xs.take k)) y) (xs.drop (k + 1)) = crc (step (crc 4294967295 (xs.take k)) xs[k]) (xs.drop (k + 1)) := by
    have a1 : crc 4294967295 (xs.set k y) = crc (step (crc 4294967295 (xs.take k)) y) (xs.drop (k + 1)) := by
      rw [e1]; exact crc_split _ _ _ _
    have a2 : crc 4294967295 xs = crc (step (crc 4294967295 (xs.take k)) xs[k]) (xs.drop (k + 1)) := (congrArg (crc 4294967295) e2).trans (crc_split _ _ _ _)
    rw [← a1, ← a2]; exact h1
  exact step_inj2 hp hy hxk (crc_inj _ (step_lt hp hy) (step_lt hp hxk) (fun x hx' => hx x (List.mem_of_mem_drop hx')) h2)

theorem xor_div2 (a b : Nat) : (a ^^^ b) / 2 = a / 2 ^^^ b / 2 := by
  have := Nat.shiftRight_xor_distrib (a := a) (b := b) (i := 1)
  simpa [Nat.shiftRight_eq_div_pow] using this
theorem half_xor (a b : Nat) : half (a ^^^ b) = half a ^^^ half b := by
  have hm : (a ^^^ b) % 2 = (a + b) % 2 := by
    have h := Nat.xor_mod_two_pow (a := a) (b := b) (n := 1)
    rw [show (2 : Nat) ^ 1 = 2 from rfl] at h
    rw [h]
    rcases (show a % 2 = 0 ∨ a % 2 = 1 by omega) with h1 | h1 <;> rcases (show b % 2 = 0 ∨ b % 2 = 1 by omega) with h2 | h2 <;> rw [h1, h2] <;> simp <;> omega
  unfold half
  rw [xor_div2]
  by_cases h1 : a % 2 = 1 <;> by_cases h2 : b % 2 = 1
  · rw [if_pos h1, if_pos h2, if_neg (by omega)]
    apply Nat.eq_of_testBit_eq; intro i
    simp only [Nat.testBit_xor]
    cases (a / 2).testBit i <;> cases (b / 2).testBit i <;> cases Nat.testBit 3988292384 i <;> rfl
  · rw [if_pos h1, if_neg h2, if_pos (by omega)]
    apply Nat.eq_of_testBit_eq; intro i
    simp only [Nat.testBit_xor]
    cases (a / 2).testBit i <;> cases (b / 2).testBit i <;> cases Nat.testBit 3988292384 i <;> rfl
  · rw [if_neg h1, if_pos h2, if_pos (by omega)]
    apply Nat.eq_of_testBit_eq; intro i
    simp only [Nat.testBit_xor]
    cases (a / 2).testBit i <;> cases (b / 2).testBit i <;> cases Nat.testBit 3988292384 i <;> rfl
  · rw [if_neg h1, if_neg h2, if_neg (by omega)]
theorem halves_xor (k : Nat) : ∀ a b : Nat, halves k (a ^^^ b) = halves k a ^^^ halves k b := by
  induction k with
  | zero => intro a b; rfl
  | succ k ih => intro a b; rw [halves, half_xor, ih]; rfl
theorem halves_mul (k : Nat) : ∀ m : Nat, halves k (2 ^ k * m) = m := by
  induction k with
  | zero => intro m; simp [halves]
  | succ k ih =>
    intro m
    have e : half (2 ^ (k + 1) * m) = 2 ^ k * m := by
      have : 2 ^ (k + 1) * m = 2 * (2 ^ k * m) := by rw [Nat.pow_succ, Nat.mul_comm (2 ^ k) 2, Nat.mul_assoc]
      unfold half
      rw [this, if_neg (by omega)]
      omega
    rw [halves, e, ih]
theorem split8 (y : Nat) : y = 2 ^ 8 * (y / 256) ^^^ y % 256 := by
  apply Nat.eq_of_testBit_eq; intro i
  rw [Nat.testBit_xor, Nat.testBit_two_pow_mul, show (256 : Nat) = 2 ^ 8 from rfl, Nat.testBit_mod_two_pow, Nat.testBit_div_two_pow]
  by_cases h : 8 ≤ i
  · rw [decide_eq_true h, decide_eq_false (by omega : ¬ i < 8)]
    simp [show i - 8 + 8 = i by omega]
  · rw [decide_eq_false h, decide_eq_true (by omega : i < 8)]
    simp
theorem halves_table (y : Nat) : halves 8 y = y / 256 ^^^ halves 8 (y % 256) := by
  conv => lhs; rw [split8 y]
  rw [halves_xor, halves_mul]
/-- The step by the table. -/
theorem step_table {s : Nat} {x : Int} (hx : 0 ≤ x ∧ x ≤ 255) : step s x = s / 256 ^^^ halves 8 ((s ^^^ x.toNat) % 256) := by
  unfold step
  rw [halves_table]
  congr 1
  have e : (s ^^^ x.toNat) / 2 ^ 8 = s / 2 ^ 8 ^^^ x.toNat / 2 ^ 8 := by
    rw [← Nat.shiftRight_eq_div_pow, ← Nat.shiftRight_eq_div_pow, ← Nat.shiftRight_eq_div_pow, Nat.shiftRight_xor_distrib]
  have e2 : x.toNat / 2 ^ 8 = 0 := by omega
  rw [e2] at e
  simpa using e

theorem crc_snoc (s : Nat) (xs : List Int) (k : Nat) (h : k < xs.length) : crc s (xs.take (k + 1)) = step (crc s (xs.take k)) (xs.getD k 0) := by
  have g : xs.getD k 0 = xs[k] := by simp [List.getD, h]
  rw [List.take_succ_eq_append_getElem h, g]
  exact crc_split s (xs.take k) xs[k] []

theorem tail4_bytes {s : Nat} (h : s < 4294967296) : ∀ x ∈ tail4 s, 0 ≤ x ∧ x ≤ 255 := by
  intro x hx
  simp only [tail4, List.mem_cons, List.not_mem_nil, or_false] at hx
  rcases hx with h | h | h | h <;> omega
theorem tail4_inj {s t : Nat} (h : tail4 s = tail4 t) : s = t := by
  simp only [tail4, List.cons.injEq, and_true] at h
  omega
theorem tail4_len (s : Nat) : (tail4 s).length = 4 := rfl

theorem withSum_len (xs : List Int) : (withSum xs).length ≤ 4000 := by
  unfold withSum
  split
  · rw [List.length_append, tail4_len]; omega
  · simp
theorem withSum_bytes (xs : List Int) : ∀ x ∈ withSum xs, 0 ≤ x ∧ x ≤ 255 := by
  unfold withSum
  split
  · rename_i h
    intro x hx
    rcases List.mem_append.1 hx with hx | hx
    · exact (bytesOk_mem h.1).2 x hx
    · exact tail4_bytes (sumN_lt (bytesOk_mem h.1).2) x hx
  · intro x hx; cases hx
theorem unsummed_yes {xs ys : List Int} (h : unsummed xs = some ys) : ys = xs.take (xs.length - 4) ∧ 4 ≤ xs.length ∧ withSum ys = xs := by
  unfold unsummed at h
  split at h
  · rename_i h'
    have := Option.some.inj h
    subst this
    exact ⟨rfl, h'.1, h'.2⟩
  · cases h
theorem unsummed_withSum {xs : List Int} (h : bytesOk xs = true ∧ xs.length ≤ 3996) : unsummed (withSum xs) = some xs := by
  have e : withSum xs = xs ++ tail4 (sumN xs) := by unfold withSum; rw [if_pos h]
  have l : (withSum xs).length = xs.length + 4 := by rw [e, List.length_append, tail4_len]
  have t : (withSum xs).take ((withSum xs).length - 4) = xs := by
    rw [l, e, List.take_append_of_le_length (by omega), List.take_of_length_le (by omega)]
  unfold unsummed
  rw [t, if_pos ⟨by omega, rfl⟩]

/-- Who bends one byte of what has a sum is found out. -/
theorem bent_none {xs : List Int} {i : Nat} {y : Int} (hi : i < (withSum xs).length) (hy : 0 ≤ y ∧ y ≤ 255) (hne : y ≠ (withSum xs)[i]) : unsummed ((withSum xs).set i y) = none := by
  cases hu : unsummed ((withSum xs).set i y) with
  | none => rfl
  | some zs =>
    exfalso
    obtain ⟨h1, h2, h3⟩ := unsummed_yes hu
    by_cases hok : bytesOk xs = true ∧ xs.length ≤ 3996
    · have e : withSum xs = xs ++ tail4 (sumN xs) := by unfold withSum; rw [if_pos hok]
      have l : (withSum xs).length = xs.length + 4 := by rw [e, List.length_append, tail4_len]
      have l3 : ((withSum xs).set i y).length = xs.length + 4 := by rw [List.length_set, l]
      rw [l3, show xs.length + 4 - 4 = xs.length by omega] at h1
      have hzl : zs.length = xs.length := by rw [h1, List.length_take, l3]; omega
      have hb := (bytesOk_mem hok.1).2
      have hz : bytesOk zs = true ∧ zs.length ≤ 3996 := by
        by_cases h : bytesOk zs = true ∧ zs.length ≤ 3996
        · exact h
        · have e0 : withSum zs = [] := by unfold withSum; rw [if_neg h]
          rw [e0] at h3
          have h7 := congrArg List.length h3
          rw [l3] at h7
          exact absurd h7 (by simp)
      have ez : withSum zs = zs ++ tail4 (sumN zs) := by unfold withSum; rw [if_pos hz]
      rw [ez] at h3
      by_cases hlt : i < xs.length
      · have es : (withSum xs).set i y = xs.set i y ++ tail4 (sumN xs) := by rw [e, List.set_append_left _ _ hlt]
        rw [es] at h3
        obtain ⟨h4, h5⟩ := List.append_inj h3 (by rw [List.length_set, hzl])
        have h6 := tail4_inj h5
        rw [h4] at h6
        have h7 := sumN_set hb hlt hy h6
        apply hne
        rw [h7]
        simp [e, List.getElem_append_left hlt]
      · have es : (withSum xs).set i y = xs ++ (tail4 (sumN xs)).set (i - xs.length) y := by rw [e, List.set_append_right _ _ (by omega)]
        rw [es] at h3
        obtain ⟨h4, h5⟩ := List.append_inj h3 hzl
        rw [h4] at h5
        apply hne
        have hk : i - xs.length < (tail4 (sumN xs)).length := by rw [tail4_len]; omega
        have h6 : (tail4 (sumN xs))[i - xs.length] = y := by
          have : (tail4 (sumN xs))[i - xs.length]? = ((tail4 (sumN xs)).set (i - xs.length) y)[i - xs.length]? := by rw [← h5]
          rw [List.getElem?_set_self hk, List.getElem?_eq_getElem hk] at this
          exact Option.some.inj this
        rw [← h6]
        simp [e, List.getElem_append_right (show xs.length ≤ i by omega)]
    · have : withSum xs = [] := by unfold withSum; rw [if_neg hok]
      rw [this] at hi
      simp at hi

theorem bytesOk_of {xs : List Int} (h : xs.length ≤ 4000) (hx : ∀ x ∈ xs, 0 ≤ x ∧ x ≤ 255) : bytesOk xs = true := by
  simp only [bytesOk, Bool.and_eq_true, decide_eq_true_eq]
  exact ⟨h, List.all_eq_true.2 (fun x hx' => by simpa using hx x hx')⟩
theorem unsummed_bad {xs : List Int} (h : bytesOk xs = false) : unsummed xs = none := by
  unfold unsummed
  rw [if_neg]
  rintro ⟨-, h2⟩
  have := bytesOk_of (withSum_len (xs.take (xs.length - 4))) (withSum_bytes _)
  rw [h2, h] at this
  cases this
theorem unsummed_short {xs : List Int} (h : xs.length < 4) : unsummed xs = none := by
  unfold unsummed
  rw [if_neg (by omega)]
theorem unsummed_is {xs ys : List Int} (h : 4 ≤ xs.length) (e : ys = xs.take (xs.length - 4)) : unsummed xs = if decide (withSum ys = xs) = true then some ys else none := by
  subst e
  unfold unsummed
  by_cases hw : withSum (xs.take (xs.length - 4)) = xs
  · rw [if_pos ⟨h, hw⟩, if_pos (decide_eq_true hw)]
  · rw [if_neg (fun hh => hw hh.2), if_neg (by simpa using hw)]

end Go.Proofs.Ytdfcdemkmniknaa
