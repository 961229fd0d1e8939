/-
  A fresh row of entries; a row and whether.
-/
import Derived.Test.YtekjhcckepkmnaaMath4
import Derived.Test.YtekjhcckepkmnaaOnly
namespace Go.Proofs.Ytekjhcckepkmnaa
open Go.RowKit

theorem dropE' {es : List Ent} {k : Nat} (h : k < es.length) : es.drop k = E es k :: es.drop (k + 1) := by
  rw [List.drop_eq_getElem_cons h, E_get h]
theorem takeE {es : List Ent} {k : Nat} (h : k < es.length) : es.take (k + 1) = es.take k ++ [E es k] := by
  rw [List.take_succ_eq_append_getElem h, E_get h]

/-- A fresh row of the entries es. -/
def NewEs (es : List Ent) (w : World) (e : Ending) (w' : World) : Prop := ∃ v, e = .returned v ∧ OwnE w.heap.size w' v es ∧ Below w.heap.size w w'

theorem book_wf {es : List Ent} (h : bookOk es = true) : AllE es := by
  intro e he
  obtain ⟨i, hi, rfl⟩ := List.mem_iff_getElem.1 he
  have h1 := Ent.ok_all (book_right h i hi).1
  rw [E_get hi] at h1
  unfold Ent.wf I64
  omega

/-- What With and Joined give: a fresh row and whether. -/
def MaybeEs (o : Option (List Ent)) (w : World) (e : Ending) (w' : World) : Prop := ∃ v, e = .returned (.tuple #[v, .bool o.isSome]) ∧ OwnE w.heap.size w' v (o.getD []) ∧ Below w.heap.size w w'

theorem maybe_none {o : Option (List Ent)} {w w1 : World} (h : o = none) (hb : Below w.heap.size w w1) : MaybeEs o w (.returned (.tuple #[.slice (some ⟨w1.heap.size, 0, none⟩) 0 0, .bool false])) (w1.alloc (.cells #[] 33)) := by
  subst h
  exact ⟨_, rfl, (ownE_empty w1).mono hb.size, hb.alloc hb.size _⟩

theorem maybe_nil {o : Option (List Ent)} {w w1 : World} (h : o = none) (hb : Below w.heap.size w w1) : MaybeEs o w (.returned (.tuple #[.slice none 0 0, .bool false])) w1 := by
  subst h
  exact ⟨_, rfl, ownE_nil _ _, hb⟩

theorem OwnE.keeps {base g : Nat} {w w' : World} {v : Value} {xs : List Ent} (h : OwnE base w v xs) (hb : Keeps g w w') (hg : g < base) : OwnE base w' v xs := by
  refine World.ownsRow.kept h hb ?_
  cases hv : v.ownBlock with
  | none => exact .inl rfl
  | some k =>
    right
    intro e
    have h1 := (World.ownsRow.lt h k hv).1
    have h2 : k = g := Option.some.inj e
    omega

end Go.Proofs.Ytekjhcckepkmnaa
