/-
  What is put into a book is there, and all else as it was.
-/
import Derived.Test.YtekkjfhmabefoaaWithR
import Derived.Test.YtekkjfhmabefoaaSpecAmount
namespace Go.Proofs.Ytekkjfhmabefoaa

theorem key_same {x y : Ent} (hx : x.ok = true) (hy : y.ok = true) : x.key = y.key ↔ x.o = y.o ∧ x.s = y.s := by
  have h1 := Ent.key_ok hx
  have h2 := Ent.key_ok hy
  omega

theorem amount_put (es : List Ent) (e : Ent) (o s : Int) (hall : ∀ x ∈ es, x.ok = true) (he : e.ok = true) : amount (putE es e) o s = if e.o = o ∧ e.s = s then e.a else amount es o s := by
  induction es with
  | nil => simp [putE, amount]
  | cons x r ih =>
    have hx := hall x (List.mem_cons_self ..)
    have ih' := ih (fun y hy => hall y (List.mem_cons_of_mem _ hy))
    have hk := key_same hx he
    rw [putE]
    by_cases h1 : x.key < e.key
    · rw [if_pos h1, amount, ih']
      by_cases h2 : x.o = o ∧ x.s = s
      · have h3 : ¬ (e.o = o ∧ e.s = s) := fun h => by
          have := hk.2 ⟨h2.1.trans h.1.symm, h2.2.trans h.2.symm⟩
          omega
        rw [if_pos h2, if_neg h3, amount, if_pos h2]
      · rw [if_neg h2]
        congr 1
        rw [amount, if_neg h2]
    · rw [if_neg h1]
      by_cases h2 : x.key = e.key
      · rw [if_pos h2, amount]
        by_cases h3 : e.o = o ∧ e.s = s
        · rw [if_pos h3, if_pos h3]
        · have h4 : ¬ (x.o = o ∧ x.s = s) := fun h => h3 ⟨(hk.1 h2).1.symm.trans h.1, (hk.1 h2).2.symm.trans h.2⟩
          rw [if_neg h3, if_neg h3, amount, if_neg h4]
      · rw [if_neg h2, amount]

theorem book_all {es : List Ent} (h : bookOk es = true) : ∀ x ∈ es, x.ok = true := by
  intro x hx
  obtain ⟨i, hi, rfl⟩ := List.mem_iff_getElem.1 hx
  have := (book_right h i hi).1
  rwa [E_get hi] at this

theorem amountAt_put {es r : List Ent} {e : Ent} (h : withR es e = some r) (o s : Int) (ho0 : 0 ≤ o) (ho1 : o ≤ 3) (hs0 : 0 ≤ s) (hs1 : s ≤ 4) :
    amountAt r o s = if o = e.o ∧ s = e.s then e.a else amountAt es o s := by
  unfold withR at h
  split at h
  · rename_i hh
    cases h
    have h1 : amountAt (putE es e) o s = amount (putE es e) o s := by rw [amountAt, if_pos ⟨hh.2.2, ho0, ho1, hs0, hs1⟩]
    have h2 : amountAt es o s = amount es o s := by rw [amountAt, if_pos ⟨hh.1, ho0, ho1, hs0, hs1⟩]
    rw [h1, h2, amount_put es e o s (book_all hh.1) hh.2.1]
    by_cases hc : e.o = o ∧ e.s = s
    · rw [if_pos hc, if_pos ⟨hc.1.symm, hc.2.symm⟩]
    · rw [if_neg hc, if_neg (fun h => hc ⟨h.1.symm, h.2.symm⟩)]
  · cases h
theorem withR_ok {es r : List Ent} {e : Ent} (h : withR es e = some r) : bookOk r = true := by
  unfold withR at h
  split at h
  · rename_i hh
    cases h
    exact hh.2.2
  · cases h

end Go.Proofs.Ytekkjfhmabefoaa
