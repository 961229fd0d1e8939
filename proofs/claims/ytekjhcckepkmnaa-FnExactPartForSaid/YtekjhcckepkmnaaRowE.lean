/-
  What the exact laws share whose answer is a new row of entries.
-/
import Derived.Test.YtekjhcckepkmnaaToEntryS
import Derived.Test.YtekjhcckepkmnaaEqEntry
import Derived.Test.YtekjhcckepkmnaaMarkE
import Derived.Test.YtekjhcckepkmnaaMaybe
import Derived.Test.YtekjhcckepkmnaaHeldE
namespace Go.Proofs.Ytekjhcckepkmnaa
open Go.RowKit

/-- A new row of entries at (a, c), handed back by ret. -/
def RowE (rs : List Ent) (m : Nat) (ret : Value → Value) (w : World) (e : Ending) (w' : World) : Prop :=
  ∃ a c, e = .returned (ret (.slice a m c)) ∧ OwnE w.heap.size w' (.slice a m c) rs ∧ Ents w'.heap.size w' a m c rs ∧ (a = none → c = 0) ∧ Below w.heap.size w w' ∧ w.heap.size ≤ w'.heap.size

theorem newEs_row {rs : List Ent} {m : Nat} {w w' : World} {e : Ending} (h : NewEs rs w e w') (hall : AllE rs) (hm : rs.length = m) : RowE rs m (fun v => v) w e w' := by
  obtain ⟨v, he, ho, hb⟩ := h
  obtain ⟨a, c, rfl, hi, hz⟩ := ho.ents hall
  subst hm
  exact ⟨a, c, he, ho, hi, hz, hb, hb.size⟩
theorem maybe_row {r : Option (List Ent)} {rs : List Ent} {b : Bool} {m : Nat} {w w' : World} {e : Ending} (h : MaybeEs r w e w') (hr : r.getD [] = rs) (hb : r.isSome = b) (hall : AllE rs) (hm : rs.length = m) : RowE rs m (fun v => .tuple #[v, .bool b]) w e w' := by
  obtain ⟨v, he, ho, hbl⟩ := h
  rw [hb] at he
  rw [hr] at ho
  obtain ⟨a, c, rfl, hi, hz⟩ := ho.ents hall
  subst hm
  exact ⟨a, c, he, ho, hi, hz, hbl, hbl.size⟩

theorem OwnE.read {base : Nat} {w : World} {a : Option Addr} {n c : Nat} {es : List Ent} (h : OwnE base w (.slice a n c) es) (hx : AllE es) : Ents w.heap.size w a n c es := by
  obtain ⟨a', c', e, hi, -⟩ := h.ents hx
  simp only [Value.slice.injEq] at e
  obtain ⟨rfl, rfl, rfl⟩ := e
  exact hi

end Go.Proofs.Ytekjhcckepkmnaa
