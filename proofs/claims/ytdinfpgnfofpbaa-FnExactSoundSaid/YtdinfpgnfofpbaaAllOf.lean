/-
  impl.allOf: how much of one kind there is in a book; impl.MadeIn, impl.SpentIn.
-/
import Derived.Test.YtdinfpgnfofpbaaMathHeld
import Derived.Test.YtdinfpgnfofpbaaImplBookOk
namespace Go.Proofs.Ytdinfpgnfofpbaa
open Go.RowKit

def kindStep (k acc : Int) (e : Ent) : Int := if kindOf e.o e.s = k then acc + e.a else acc
def kindTo (es : List Ent) (k : Int) : Int := es.foldl (kindStep k) 0
theorem kindTo_snoc (es : List Ent) (e : Ent) (k : Int) : kindTo (es ++ [e]) k = kindStep k (kindTo es k) e := by simp [kindTo, List.foldl_append]
theorem kindTo_take {es : List Ent} {i : Nat} (h : i < es.length) (k : Int) : kindTo (es.take (i + 1)) k = kindStep k (kindTo (es.take i) k) (E es i) := by
  rw [List.take_succ_eq_append_getElem h, ← E_get h, kindTo_snoc]
def ksum : List Ent → Int → Int
  | [], _ => 0
  | e :: r, k => (if kindOf e.o e.s = k then e.a else 0) + ksum r k
theorem kindTo_ksum (es : List Ent) (k : Int) : kindTo es k = ksum es k := by
  have : ∀ acc, es.foldl (kindStep k) acc = acc + ksum es k := by
    induction es with
    | nil => intro acc; simp [ksum]
    | cons e r ih =>
      intro acc
      rw [List.foldl_cons, ih, ksum]
      unfold kindStep
      split <;> omega
  unfold kindTo
  rw [this]
  omega
theorem kind_made {e : Ent} (h : e.ok = true) : kindOf e.o e.s = 0 ↔ e.s = e.o := by
  have hh := Ent.ok_all h
  unfold kindOf
  split
  · omega
  · split <;> omega
theorem kind_spent (e : Ent) : kindOf e.o e.s = 2 ↔ e.s = 4 := by
  unfold kindOf
  split
  · omega
  · split <;> omega
theorem ksum_made {es : List Ent} (hall : ∀ x ∈ es, x.ok = true) (hp : es.Pairwise (fun a b => a.key < b.key)) : ksum es 0 = madeTo es 4 ∧ ksum es 2 = spentTo es 4 := by
  induction es with
  | nil => exact ⟨rfl, rfl⟩
  | cons x r ih =>
    have hx := hall x (List.mem_cons_self ..)
    have hr := fun y hy => hall y (List.mem_cons_of_mem _ hy)
    rw [List.pairwise_cons] at hp
    have hn : ∀ y ∈ r, ¬ (y.o = x.o ∧ y.s = x.s) := fun y hy h => by
      have h1 := hp.1 y hy
      have h2 := Ent.key_ok hx; have h3 := Ent.key_ok (hr y hy)
      omega
    obtain ⟨h1, h2⟩ := ih hr hp.2
    rw [made_cons hx hn, spent_cons hx hn, ksum, ksum, h1, h2]
    simp only [kind_made hx, kind_spent x]
    exact ⟨trivial, trivial⟩
theorem kindTo_made {es : List Ent} (h : bookOk es = true) : madeIn es = kindTo es 0 := by
  rw [madeIn_yes h, kindTo_ksum, (ksum_made (book_all6 h) (book_sorted h)).1]
theorem kindTo_spent {es : List Ent} (h : bookOk es = true) : spentIn es = kindTo es 2 := by
  rw [spentIn_yes h, kindTo_ksum, (ksum_made (book_all6 h) (book_sorted h)).2]

end Go.Proofs.Ytdinfpgnfofpbaa
