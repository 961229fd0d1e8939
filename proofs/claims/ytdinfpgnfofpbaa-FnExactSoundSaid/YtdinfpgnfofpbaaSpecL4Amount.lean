/-
  spec.l4Amount.
-/
import Derived.Test.YtdinfpgnfofpbaaSpecBookOk
namespace Go.Proofs.Ytdinfpgnfofpbaa
open Go.RowKit

def amount : List Ent → Int → Int → Int
  | [], _, _ => 0
  | e :: r, o, s => if e.o = o ∧ e.s = s then e.a else amount r o s
theorem dropE {es : List Ent} {k : Nat} (h : k < es.length) : es.drop k = E es k :: es.drop (k + 1) := by
  rw [List.drop_eq_getElem_cons h, E_get h]
theorem amount_hit {es : List Ent} {k : Nat} {o s : Int} (h : k < es.length) (ho : (E es k).o = o) (hs : (E es k).s = s) : amount (es.drop k) o s = (E es k).a := by
  rw [dropE h, amount, if_pos ⟨ho, hs⟩]
theorem amount_miss {es : List Ent} {k : Nat} {o s : Int} (h : k < es.length) (hn : ¬ ((E es k).o = o ∧ (E es k).s = s)) : amount (es.drop k) o s = amount (es.drop (k + 1)) o s := by
  rw [dropE h, amount, if_neg hn]

end Go.Proofs.Ytdinfpgnfofpbaa
