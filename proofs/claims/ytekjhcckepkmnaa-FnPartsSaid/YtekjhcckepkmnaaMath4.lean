/-
  Books (chapter 4), in Lean's own lists.
-/
import Derived.Test.YtekjhcckepkmnaaEnts
import Derived.Test.YtekjhcckepkmnaaKeyOf
namespace Go.Proofs.Ytekjhcckepkmnaa

def Ent.ok (e : Ent) : Bool := entryOk e.o e.s e.a e.d
def Ent.key (e : Ent) : Int := keyOf e.o e.s e.a e.d

theorem Ent.key_ok {e : Ent} (h : e.ok = true) : e.key = 5 * e.o + e.s ∧ 0 ≤ e.o ∧ e.o ≤ 3 ∧ 0 ≤ e.s ∧ e.s ≤ 4 := keyOf_ok h
theorem Ent.ok_all {e : Ent} (h : e.ok = true) : 0 ≤ e.o ∧ e.o ≤ 3 ∧ 0 ≤ e.s ∧ e.s ≤ 4 ∧ 1 ≤ e.a ∧ e.a ≤ 1000000 ∧ 1 ≤ e.d ∧ e.d ≤ 100000 := by
  simpa [Ent.ok, entryOk] using h

/-- Entry number i is right, and stands right behind those ahead of it. -/
def Good (es : List Ent) (i : Nat) : Prop :=
  (E es i).ok = true ∧ (0 < i → (E es (i - 1)).key < (E es i).key) ∧ ∀ j, j < i → ¬ ((E es j).o = (E es i).o ∧ (E es j).d = (E es i).d)
instance (es : List Ent) (i : Nat) : Decidable (Good es i) := by unfold Good; infer_instance
def Right (es : List Ent) (k : Nat) : Prop := ∀ i, i < k → Good es i
instance (es : List Ent) (k : Nat) : Decidable (Right es k) := by unfold Right; infer_instance
def bookOk (es : List Ent) : Bool := decide (Right es es.length)

theorem right_key {es : List Ent} {k : Nat} (h : Right es k) : ∀ i, i < k → (i : Int) ≤ (E es i).key ∧ (E es i).key ≤ 19 := by
  intro i
  induction i with
  | zero =>
    intro hi
    have h1 := Ent.key_ok (h 0 hi).1
    omega
  | succ i ih =>
    intro hi
    have h1 := Ent.key_ok (h (i + 1) hi).1
    have h2 := (h (i + 1) hi).2.1 (by omega)
    have h3 := ih (by omega)
    simp only [Nat.add_sub_cancel] at h2
    omega
theorem right_len {es : List Ent} {k : Nat} (h : Right es k) : k ≤ 20 := by
  rcases Nat.lt_or_ge 20 k with hk | hk
  · have := right_key h 20 hk
    omega
  · exact hk
theorem book_len {es : List Ent} (h : bookOk es = true) : es.length ≤ 20 := right_len (of_decide_eq_true h)
theorem book_big {es : List Ent} (h : 20 < es.length) : bookOk es = false := decide_eq_false (fun hr => by have := right_len hr; omega)
theorem right_zero (es : List Ent) : Right es 0 := fun i hi => absurd hi (by omega)
theorem right_succ {es : List Ent} {k : Nat} (h : Right es k) (hg : Good es k) : Right es (k + 1) := fun i hi => by
  by_cases e : i = k
  · subst e; exact hg
  · exact h i (by omega)
theorem book_bad {es : List Ent} {k : Nat} (hk : k < es.length) (h : ¬ Good es k) : bookOk es = false := decide_eq_false (fun hr => h (hr k hk))
theorem book_good {es : List Ent} (h : Right es es.length) : bookOk es = true := decide_eq_true h
theorem book_right {es : List Ent} (h : bookOk es = true) : Right es es.length := of_decide_eq_true h

end Go.Proofs.Ytekjhcckepkmnaa
