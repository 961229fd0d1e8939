/-
  Joining (chapter 7): pairs by key, in Lean's own lists.
-/
import Derived.Test.YtekjhcckepkmnaaMaybe
namespace Go.Proofs.Ytekjhcckepkmnaa

/-- Along b, ahead of the entry x; f goes on behind x. -/
def pairsIn (f : List Ent → List (Ent × Ent)) (x : Ent) : List Ent → List (Ent × Ent)
  | [] => (x, zeroE) :: f []
  | y :: b => if y.key < x.key then (zeroE, y) :: pairsIn f x b else if y.key = x.key then (x, y) :: f b else (x, zeroE) :: f (y :: b)
/-- What two books have of each key. -/
def pairs : List Ent → List Ent → List (Ent × Ent)
  | [] => fun b => b.map fun y => (zeroE, y)
  | x :: a => pairsIn (pairs a) x

theorem pairs_nil (b : List Ent) : pairs [] b = b.map fun y => (zeroE, y) := rfl
theorem pairs_one (x : Ent) (a : List Ent) : pairs (x :: a) [] = (x, zeroE) :: pairs a [] := rfl
theorem pairs_two (x : Ent) (a : List Ent) (y : Ent) (b : List Ent) :
    pairs (x :: a) (y :: b) = if y.key < x.key then (zeroE, y) :: pairs (x :: a) b else if y.key = x.key then (x, y) :: pairs a b else (x, zeroE) :: pairs a (y :: b) := rfl
theorem pairs_lt {x : Ent} {a : List Ent} {y : Ent} {b : List Ent} (h : y.key < x.key) : pairs (x :: a) (y :: b) = (zeroE, y) :: pairs (x :: a) b := by rw [pairs_two, if_pos h]
theorem pairs_eq {x : Ent} {a : List Ent} {y : Ent} {b : List Ent} (h : y.key = x.key) : pairs (x :: a) (y :: b) = (x, y) :: pairs a b := by rw [pairs_two, if_neg (by omega), if_pos h]
theorem pairs_gt {x : Ent} {a : List Ent} {y : Ent} {b : List Ent} (h : x.key < y.key) : pairs (x :: a) (y :: b) = (x, zeroE) :: pairs a (y :: b) := by rw [pairs_two, if_neg (by omega), if_neg (by omega)]

theorem pairs_len (a b : List Ent) : (pairs a b).length ≤ a.length + b.length := by
  induction a generalizing b with
  | nil => rw [pairs_nil]; simp
  | cons x a ih =>
    induction b with
    | nil => rw [pairs_one]; have := ih []; simp at this ⊢; omega
    | cons y b ih2 =>
      rw [pairs_two]
      split
      · simp at ih2 ⊢; omega
      · split
        · have := ih b; simp at this ⊢; omega
        · have := ih (y :: b); simp at this ⊢; omega

/-- Each pair is of entries of the two, or zero. -/
theorem pairs_mem {a b : List Ent} {p : Ent × Ent} (h : p ∈ pairs a b) : (p.1 = zeroE ∨ p.1 ∈ a) ∧ (p.2 = zeroE ∨ p.2 ∈ b) := by
  induction a generalizing b with
  | nil =>
    rw [pairs_nil] at h
    obtain ⟨y, hy, rfl⟩ := List.mem_map.1 h
    exact ⟨.inl rfl, .inr hy⟩
  | cons x a ih =>
    have up : ∀ {b' : List Ent}, p ∈ pairs a b' → (∀ e, e ∈ b' → e ∈ b) → (p.1 = zeroE ∨ p.1 ∈ x :: a) ∧ (p.2 = zeroE ∨ p.2 ∈ b) := fun hp hs => by
      obtain ⟨h1, h2⟩ := ih hp
      exact ⟨h1.imp id (List.mem_cons_of_mem _), h2.imp id (hs _)⟩
    induction b with
    | nil =>
      rw [pairs_one] at h
      rcases List.mem_cons.1 h with rfl | h
      · exact ⟨.inr (List.mem_cons_self ..), .inl rfl⟩
      · exact up h (fun _ h => h)
    | cons y b ih2 =>
      rw [pairs_two] at h
      split at h
      · rcases List.mem_cons.1 h with rfl | h
        · exact ⟨.inl rfl, .inr (List.mem_cons_self ..)⟩
        · obtain ⟨h1, h2⟩ := ih2 h (fun hp hs => by
            obtain ⟨h1, h2⟩ := ih hp
            exact ⟨h1.imp id (List.mem_cons_of_mem _), h2.imp id (hs _)⟩)
          exact ⟨h1, h2.imp id (List.mem_cons_of_mem _)⟩
      · split at h
        · rcases List.mem_cons.1 h with rfl | h
          · exact ⟨.inr (List.mem_cons_self ..), .inr (List.mem_cons_self ..)⟩
          · exact up h (fun _ h => List.mem_cons_of_mem _ h)
        · rcases List.mem_cons.1 h with rfl | h
          · exact ⟨.inr (List.mem_cons_self ..), .inl rfl⟩
          · exact up h (fun _ h => h)

def newer (p : Ent × Ent) : Ent := if p.1.d < p.2.d then p.2 else p.1
def le2 (p : Ent × Ent) : Bool := decide (p.1.d ≤ p.2.d ∧ p.1.a ≤ p.2.a)
def joinE (a b : List Ent) : List Ent := (pairs a b).map newer
def withinP (a b : List Ent) : Bool := (pairs a b).all le2

theorem newer_left {x : Ent} (h : x.ok = true) : newer (x, zeroE) = x := by
  have := Ent.ok_all h
  rw [newer, if_neg (by simp only [zeroE]; omega)]
theorem newer_right {y : Ent} (h : y.ok = true) : newer (zeroE, y) = y := by
  have := Ent.ok_all h
  rw [newer, if_pos (by simp only [zeroE]; omega)]
theorem zero_wf : zeroE.wf := ⟨⟨by decide, by decide⟩, ⟨by decide, by decide⟩, ⟨by decide, by decide⟩, ⟨by decide, by decide⟩⟩

theorem pairs_wf {a b : List Ent} (ha : AllE a) (hb : AllE b) : ∀ p ∈ pairs a b, p.1.wf ∧ p.2.wf := by
  intro p hp
  obtain ⟨h1, h2⟩ := pairs_mem hp
  refine ⟨?_, ?_⟩
  · rcases h1 with h | h
    · rw [h]; exact zero_wf
    · exact ha _ h
  · rcases h2 with h | h
    · rw [h]; exact zero_wf
    · exact hb _ h
theorem join_wf {a b : List Ent} (ha : AllE a) (hb : AllE b) : AllE (joinE a b) := by
  intro e he
  obtain ⟨p, hp, rfl⟩ := List.mem_map.1 he
  have := pairs_wf ha hb p hp
  unfold newer
  split
  · exact this.2
  · exact this.1
theorem join_len (a b : List Ent) : (joinE a b).length ≤ a.length + b.length := by
  unfold joinE
  rw [List.length_map]
  exact pairs_len a b

def joinR (a b : List Ent) : Option (List Ent) := if bookOk a = true ∧ bookOk b = true ∧ bookOk (joinE a b) = true then some (joinE a b) else none
theorem joinR_no {a b : List Ent} (h : bookOk a = false ∨ bookOk b = false ∨ bookOk (joinE a b) = false) : joinR a b = none := by
  rw [joinR, if_neg]
  rintro ⟨h1, h2, h3⟩
  rcases h with h | h | h
  · rw [h1] at h; cases h
  · rw [h2] at h; cases h
  · rw [h3] at h; cases h
theorem joinR_yes {a b : List Ent} (h1 : bookOk a = true) (h2 : bookOk b = true) (h3 : bookOk (joinE a b) = true) : joinR a b = some (joinE a b) := by
  rw [joinR, if_pos ⟨h1, h2, h3⟩]
theorem joinR_getD {a b : List Ent} : AllE ((joinR a b).getD []) ∧ ((joinR a b).getD []).length ≤ 20 := by
  unfold joinR
  split
  · rename_i hh
    exact ⟨book_wf hh.2.2, book_len hh.2.2⟩
  · exact ⟨(fun z hz => by cases hz), by simp⟩

/-! A book as a list: right entries, their keys rising. -/
def Up (l : List Ent) : Prop := (∀ e ∈ l, e.ok = true) ∧ l.Pairwise fun x y => x.key < y.key
theorem Up.tail {x : Ent} {l : List Ent} (h : Up (x :: l)) : Up l := ⟨fun e he => h.1 e (List.mem_cons_of_mem _ he), (List.pairwise_cons.1 h.2).2⟩
theorem Up.head {x : Ent} {l : List Ent} (h : Up (x :: l)) : x.ok = true ∧ ∀ y ∈ l, x.key < y.key := ⟨h.1 x (List.mem_cons_self ..), (List.pairwise_cons.1 h.2).1⟩
theorem right_step {es : List Ent} {k : Nat} (h : Right es k) : ∀ j i, j < i → i < k → (E es j).key < (E es i).key := by
  intro j i hji
  induction i with
  | zero => omega
  | succ i ih =>
    intro hi
    have h1 := (h (i + 1) hi).2.1 (by omega)
    rw [Nat.add_sub_cancel] at h1
    by_cases e : j = i
    · subst e; exact h1
    · have := ih (by omega) (by omega); omega
theorem book_up {es : List Ent} (h : bookOk es = true) : Up es := by
  have hr := book_right h
  refine ⟨fun e he => ?_, ?_⟩
  · obtain ⟨i, hi, rfl⟩ := List.mem_iff_getElem.1 he
    have := (hr i hi).1
    rwa [E_get hi] at this
  · rw [List.pairwise_iff_getElem]
    intro i j hi hj hij
    have := right_step hr i j hij hj
    rwa [E_get hi, E_get hj] at this

/-- Within, as the document tells it. -/
def Has (b : List Ent) (x : Ent) : Prop := ∃ y ∈ b, y.key = x.key ∧ x.d ≤ y.d ∧ x.a ≤ y.a
theorem has_low {x y : Ent} {b : List Ent} (h : y.key < x.key) : Has (y :: b) x ↔ Has b x := by
  refine ⟨fun ⟨z, hz, h1⟩ => ?_, fun ⟨z, hz, h1⟩ => ⟨z, List.mem_cons_of_mem _ hz, h1⟩⟩
  rcases List.mem_cons.1 hz with rfl | hz
  · omega
  · exact ⟨z, hz, h1⟩
theorem le2_left {x : Ent} (h : x.ok = true) : le2 (x, zeroE) = false := by
  have := Ent.ok_all h
  rw [le2, decide_eq_false_iff_not]
  simp only [zeroE]; omega
theorem le2_right {y : Ent} (h : y.ok = true) : le2 (zeroE, y) = true := by
  have := Ent.ok_all h
  rw [le2, decide_eq_true_eq]
  simp only [zeroE]; omega
theorem within_has {a b : List Ent} (ha : Up a) (hb : Up b) : withinP a b = true ↔ ∀ x ∈ a, Has b x := by
  unfold withinP
  induction a generalizing b with
  | nil =>
    rw [pairs_nil]
    refine ⟨fun _ x hx => (by cases hx), fun _ => ?_⟩
    rw [List.all_eq_true]
    intro p hp
    obtain ⟨y, hy, rfl⟩ := List.mem_map.1 hp
    exact le2_right (hb.1 y hy)
  | cons x a ih =>
    induction b with
    | nil =>
      rw [pairs_one, List.all_cons, le2_left ha.head.1, Bool.false_and]
      refine ⟨fun h => (by cases h), fun h => ?_⟩
      obtain ⟨y, hy, _⟩ := h x (List.mem_cons_self ..)
      cases hy
    | cons y b ih2 =>
      have hlow : ∀ {z : Ent}, y.key < z.key → (Has (y :: b) z ↔ Has b z) := fun h => has_low h
      rw [pairs_two]
      split
      · rename_i hk
        rw [List.all_cons, le2_right hb.head.1, Bool.true_and, ih2 hb.tail]
        refine ⟨fun h z hz => ?_, fun h z hz => ?_⟩
        all_goals
          have hzk : y.key < z.key := by
            rcases List.mem_cons.1 hz with rfl | hz'
            · exact hk
            · have := ha.head.2 z hz'; omega
        · exact (hlow hzk).2 (h z hz)
        · exact (hlow hzk).1 (h z hz)
      · split
        · rename_i hk
          rw [List.all_cons, Bool.and_eq_true, ih ha.tail hb.tail, List.forall_mem_cons]
          refine and_congr ?_ ?_
          · rw [le2, decide_eq_true_eq]
            refine ⟨fun h => ⟨y, List.mem_cons_self .., hk, h.1, h.2⟩, fun ⟨z, hz, h1, h2, h3⟩ => ?_⟩
            rcases List.mem_cons.1 hz with rfl | hz
            · exact ⟨h2, h3⟩
            · have := hb.head.2 z hz; omega
          · refine ⟨fun h z hz => ?_, fun h z hz => ?_⟩
            all_goals
              have hzk : y.key < z.key := by have := ha.head.2 z hz; omega
            · exact (hlow hzk).2 (h z hz)
            · exact (hlow hzk).1 (h z hz)
        · rename_i h1 h2
          rw [List.all_cons, le2_left ha.head.1, Bool.false_and]
          refine ⟨fun h => (by cases h), fun h => ?_⟩
          obtain ⟨z, hz, h3, _⟩ := h x (List.mem_cons_self ..)
          rcases List.mem_cons.1 hz with rfl | hz
          · omega
          · have := hb.head.2 z hz; omega

def within (a b : List Ent) : Bool := bookOk a && bookOk b && withinP a b

theorem joinE_one {x : Ent} {a : List Ent} (hx : x.ok = true) : joinE (x :: a) [] = x :: joinE a [] := by
  unfold joinE; rw [pairs_one, List.map_cons, newer_left hx]
theorem joinE_nil {y : Ent} {b : List Ent} (hy : y.ok = true) : joinE [] (y :: b) = y :: joinE [] b := by
  unfold joinE; rw [pairs_nil, pairs_nil, List.map_cons, List.map_cons, newer_right hy]
theorem joinE_gt {x y : Ent} {a b : List Ent} (hx : x.ok = true) (hl : x.key < y.key) : joinE (x :: a) (y :: b) = x :: joinE a (y :: b) := by
  unfold joinE; rw [pairs_gt hl, List.map_cons, newer_left hx]
theorem joinE_lt {x y : Ent} {a b : List Ent} (hy : y.ok = true) (hl : y.key < x.key) : joinE (x :: a) (y :: b) = y :: joinE (x :: a) b := by
  unfold joinE; rw [pairs_lt hl, List.map_cons, newer_right hy]
theorem joinE_eq {x y : Ent} {a b : List Ent} (hl : y.key = x.key) : joinE (x :: a) (y :: b) = newer (x, y) :: joinE a b := by
  unfold joinE; rw [pairs_eq hl, List.map_cons]

end Go.Proofs.Ytekjhcckepkmnaa
