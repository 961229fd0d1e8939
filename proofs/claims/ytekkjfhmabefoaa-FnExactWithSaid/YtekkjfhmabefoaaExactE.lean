/-
  What the exact laws share that write into rows of entries.
-/
import Derived.Test.YtekkjfhmabefoaaToEntryS
import Derived.Test.YtekkjfhmabefoaaEqEntry
import Derived.Test.YtekkjfhmabefoaaMarkE
import Derived.Test.YtekkjfhmabefoaaHeldE
namespace Go.Proofs.Ytekkjfhmabefoaa
open Go.RowKit

/-- Another, older row was written: this one stays. -/
theorem OwnE.older {base base' : Nat} {w w' w1 : World} {v v' : Value} {xs ys : List Ent} (h : OwnE base w v xs) (h' : OwnE base' w1 v' ys) (hs : w1.heap.size ≤ base) (hg : w.grownBy w' v'.ownBlock) : OwnE base w' v xs := by
  refine World.ownsRow.kept h hg ?_
  cases hv : v.ownBlock with
  | none => exact .inl rfl
  | some k =>
    right
    intro e
    have h1 := (World.ownsRow.lt h k hv).1
    have h2 := (World.ownsRow.lt h' k e.symm).2
    omega

theorem OwnE.ents_at {base : Nat} {w : World} {a : Option Addr} {n c : Nat} {es : List Ent} (h : OwnE base w (.slice a n c) es) (hx : AllE es) : Ents w.heap.size w a n c es := by
  obtain ⟨a', c', e, hi, -⟩ := h.ents hx
  simp only [Value.slice.injEq] at e
  obtain ⟨rfl, rfl, rfl⟩ := e
  exact hi

theorem Ents.cast {B : Nat} {w : World} {ao : Option Addr} {n m cap : Nat} {es : List Ent} (h : Ents B w ao n cap es) (e : n = m) : Ents B w ao m cap es := e ▸ h

end Go.Proofs.Ytekkjfhmabefoaa
