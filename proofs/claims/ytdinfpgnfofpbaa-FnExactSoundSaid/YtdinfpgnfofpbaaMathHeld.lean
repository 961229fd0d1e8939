/-
  What all hold together is what was made, less what was spent.
-/
import Derived.Test.YtdinfpgnfofpbaaHeld
import Derived.Test.YtdinfpgnfofpbaaMadeIn
namespace Go.Proofs.Ytdinfpgnfofpbaa

def contrib (e : Ent) (node : Int) : Int := if e.s = node then e.a else if e.o = node then -e.a else 0
def hsum : List Ent → Int → Int
  | [], _ => 0
  | e :: r, node => contrib e node + hsum r node
theorem held_hsum (es : List Ent) (node : Int) : held es node = hsum es node := by
  have : ∀ acc, es.foldl (heldStep node) acc = acc + hsum es node := by
    induction es with
    | nil => intro acc; simp [hsum]
    | cons e r ih =>
      intro acc
      rw [List.foldl_cons, ih, hsum]
      unfold heldStep contrib
      split
      · omega
      · split <;> omega
  unfold held
  rw [this]
  omega

theorem contrib_all {e : Ent} (h : e.ok = true) : contrib e 0 + contrib e 1 + contrib e 2 + contrib e 3 = (if e.s = e.o then e.a else 0) - (if e.s = 4 then e.a else 0) := by
  have hh := Ent.ok_all h
  have ho : e.o = 0 ∨ e.o = 1 ∨ e.o = 2 ∨ e.o = 3 := by omega
  have hs : e.s = 0 ∨ e.s = 1 ∨ e.s = 2 ∨ e.s = 3 ∨ e.s = 4 := by omega
  unfold contrib
  rcases ho with h1 | h1 | h1 | h1 <;> rcases hs with h2 | h2 | h2 | h2 | h2 <;> rw [h1, h2] <;> simp <;> omega

theorem amount_zero {es : List Ent} {o s : Int} (h : ∀ x ∈ es, ¬ (x.o = o ∧ x.s = s)) : amount es o s = 0 := by
  induction es with
  | nil => rfl
  | cons x r ih => rw [amount, if_neg (h x (List.mem_cons_self ..)), ih (fun y hy => h y (List.mem_cons_of_mem _ hy))]

theorem made_cons {x : Ent} {r : List Ent} (hx : x.ok = true) (hn : ∀ y ∈ r, ¬ (y.o = x.o ∧ y.s = x.s)) : madeTo (x :: r) 4 = (if x.s = x.o then x.a else 0) + madeTo r 4 := by
  have hh := Ent.ok_all hx
  have hz := amount_zero hn
  have ho : x.o = 0 ∨ x.o = 1 ∨ x.o = 2 ∨ x.o = 3 := by omega
  have hs : x.s = 0 ∨ x.s = 1 ∨ x.s = 2 ∨ x.s = 3 ∨ x.s = 4 := by omega
  simp only [madeTo, amount]
  rcases ho with h1 | h1 | h1 | h1 <;> rcases hs with h2 | h2 | h2 | h2 | h2 <;> rw [h1, h2] at hz ⊢ <;> simp <;> omega
theorem spent_cons {x : Ent} {r : List Ent} (hx : x.ok = true) (hn : ∀ y ∈ r, ¬ (y.o = x.o ∧ y.s = x.s)) : spentTo (x :: r) 4 = (if x.s = 4 then x.a else 0) + spentTo r 4 := by
  have hh := Ent.ok_all hx
  have hz := amount_zero hn
  have ho : x.o = 0 ∨ x.o = 1 ∨ x.o = 2 ∨ x.o = 3 := by omega
  have hs : x.s = 0 ∨ x.s = 1 ∨ x.s = 2 ∨ x.s = 3 ∨ x.s = 4 := by omega
  simp only [spentTo, amount]
  rcases ho with h1 | h1 | h1 | h1 <;> rcases hs with h2 | h2 | h2 | h2 | h2 <;> rw [h1, h2] at hz ⊢ <;> simp <;> omega

theorem held_sum {es : List Ent} (hall : ∀ x ∈ es, x.ok = true) (hp : es.Pairwise (fun a b => a.key < b.key)) : hsum es 0 + hsum es 1 + hsum es 2 + hsum es 3 = madeTo es 4 - spentTo es 4 := by
  induction es with
  | nil => rfl
  | cons x r ih =>
    have hx := hall x (List.mem_cons_self ..)
    have hr := fun y hy => hall y (List.mem_cons_of_mem _ hy)
    rw [List.pairwise_cons] at hp
    have hn : ∀ y ∈ r, ¬ (y.o = x.o ∧ y.s = x.s) := fun y hy h => by
      have h1 := hp.1 y hy
      have h2 := Ent.key_ok hx; have h3 := Ent.key_ok (hr y hy)
      omega
    have h1 := ih hr hp.2
    have h2 := contrib_all hx
    rw [made_cons hx hn, spent_cons hx hn]
    simp only [hsum]
    omega

theorem right_lt {es : List Ent} {n : Nat} (h : Right es n) : ∀ j i, i < j → j < n → (E es i).key < (E es j).key := by
  intro j
  induction j with
  | zero => intro i hi; omega
  | succ j ih =>
    intro i hi hj
    have h1 := (h (j + 1) hj).2.1 (by omega)
    rw [Nat.add_sub_cancel] at h1
    by_cases e : i = j
    · subst e; exact h1
    · have := ih i (by omega) (by omega)
      omega
theorem book_sorted {es : List Ent} (h : bookOk es = true) : es.Pairwise (fun a b => a.key < b.key) := by
  rw [List.pairwise_iff_getElem]
  intro i j hi hj hij
  have := right_lt (book_right h) j i hij hj
  rwa [E_get hi, E_get hj] at this

theorem held_total {es : List Ent} (h : bookOk es = true) : heldBy es 0 + heldBy es 1 + heldBy es 2 + heldBy es 3 = madeIn es - spentIn es := by
  rw [heldBy_yes h rfl, heldBy_yes h rfl, heldBy_yes h rfl, heldBy_yes h rfl, madeIn_yes h, spentIn_yes h, held_hsum, held_hsum, held_hsum, held_hsum]
  exact held_sum (book_all6 h) (book_sorted h)

theorem held_range {es : List Ent} (h : bookOk es = true) (node : Int) : -20000000 ≤ held es node ∧ held es node ≤ 20000000 := by
  have hl := book_len h
  have hall := book_all6 h
  have : ∀ (xs : List Ent), (∀ x ∈ xs, x.ok = true) → -(1000000 * (xs.length : Int)) ≤ hsum xs node ∧ hsum xs node ≤ 1000000 * (xs.length : Int) := by
    intro xs
    induction xs with
    | nil => intro _; simp [hsum]
    | cons x r ih =>
      intro hx
      have h1 := ih (fun y hy => hx y (List.mem_cons_of_mem _ hy))
      have h2 := Ent.ok_all (hx x (List.mem_cons_self ..))
      simp only [hsum, contrib, List.length_cons]
      push_cast
      split
      · omega
      · split <;> omega
  have h2 := this es hall
  rw [held_hsum]
  omega
theorem heldBy_range (es : List Ent) (node : Int) : -20000000 ≤ heldBy es node ∧ heldBy es node ≤ 20000000 := by
  unfold heldBy
  split
  · rename_i h; exact held_range h.1 node
  · omega
theorem madeIn_range (es : List Ent) : -1 ≤ madeIn es ∧ madeIn es ≤ 4000000 := by
  unfold madeIn
  split
  · rename_i h
    have hr := amount_range (book_all6 h)
    have h0 := hr 0 0; have h1 := hr 1 1; have h2 := hr 2 2; have h3 := hr 3 3
    simp only [madeTo]
    push_cast
    omega
  · omega
theorem spentIn_range (es : List Ent) : -1 ≤ spentIn es ∧ spentIn es ≤ 4000000 := by
  unfold spentIn
  split
  · rename_i h
    have hr := amount_range (book_all6 h)
    have h0 := hr 0 4; have h1 := hr 1 4; have h2 := hr 2 4; have h3 := hr 3 4
    simp only [spentTo]
    push_cast
    omega
  · omega

end Go.Proofs.Ytdinfpgnfofpbaa
