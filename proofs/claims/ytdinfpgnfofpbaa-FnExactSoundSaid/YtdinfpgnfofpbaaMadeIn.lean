/-
  spec.MadeIn, spec.SpentIn.
-/
import Derived.Test.YtdinfpgnfofpbaaSpecL4Amount
namespace Go.Proofs.Ytdinfpgnfofpbaa
open Go.RowKit

def madeTo (es : List Ent) : Nat → Int
  | 0 => 0
  | k + 1 => madeTo es k + amount es k k
def spentTo (es : List Ent) : Nat → Int
  | 0 => 0
  | k + 1 => spentTo es k + amount es k 4
def madeIn (es : List Ent) : Int := if bookOk es = true then madeTo es 4 else -1
def spentIn (es : List Ent) : Int := if bookOk es = true then spentTo es 4 else -1
theorem madeIn_no {es : List Ent} (h : bookOk es = false) : madeIn es = -1 := by rw [madeIn, h]; rfl
theorem madeIn_yes {es : List Ent} (h : bookOk es = true) : madeIn es = madeTo es 4 := by rw [madeIn, if_pos h]
theorem spentIn_no {es : List Ent} (h : bookOk es = false) : spentIn es = -1 := by rw [spentIn, h]; rfl
theorem spentIn_yes {es : List Ent} (h : bookOk es = true) : spentIn es = spentTo es 4 := by rw [spentIn, if_pos h]
theorem book_all6 {es : List Ent} (h : bookOk es = true) : ∀ x ∈ es, x.ok = true := by
  intro x hx
  obtain ⟨i, hi, rfl⟩ := List.mem_iff_getElem.1 hx
  have := (book_right h i hi).1
  rwa [E_get hi] at this
theorem amount_range {es : List Ent} (h : ∀ x ∈ es, x.ok = true) (o s : Int) : 0 ≤ amount es o s ∧ amount es o s ≤ 1000000 := by
  induction es with
  | nil => simp [amount]
  | cons x r ih =>
    have hx := Ent.ok_all (h x (List.mem_cons_self ..))
    have := ih (fun y hy => h y (List.mem_cons_of_mem _ hy))
    rw [amount]
    split <;> omega

end Go.Proofs.Ytdinfpgnfofpbaa
