/-
  Joining is the same both ways and in all groups: in Lean's own lists.
-/
import Derived.Test.YtekjhcckepkmnaaMathJoin
namespace Go.Proofs.Ytekjhcckepkmnaa

/-- What a book has of a key. -/
def atK (l : List Ent) (k : Int) : Option Ent := l.find? fun e => e.key == k
theorem atK_nil (k : Int) : atK [] k = none := rfl
theorem atK_hit {x : Ent} {l : List Ent} {k : Int} (h : x.key = k) : atK (x :: l) k = some x := by
  unfold atK
  rw [List.find?_cons_of_pos (by simpa using h)]
theorem atK_miss {x : Ent} {l : List Ent} {k : Int} (h : ¬ x.key = k) : atK (x :: l) k = atK l k := by
  unfold atK
  rw [List.find?_cons_of_neg (by simpa using h)]
theorem atK_none {l : List Ent} {k : Int} (h : ∀ e ∈ l, ¬ e.key = k) : atK l k = none := by
  unfold atK
  rw [List.find?_eq_none]
  intro e he
  simpa using h e he
theorem atK_low {x : Ent} {l : List Ent} {k : Int} (h : Up (x :: l)) (hk : k < x.key) : atK (x :: l) k = none := atK_none fun e he => by
  rcases List.mem_cons.1 he with rfl | he
  · omega
  · have := h.head.2 e he; omega
theorem atK_tail {x : Ent} {l : List Ent} (h : Up (x :: l)) : atK l x.key = none := atK_none fun e he => by have := h.head.2 e he; omega
theorem atK_mem {l : List Ent} {k : Int} {e : Ent} (h : atK l k = some e) : e ∈ l ∧ e.key = k := by
  unfold atK at h
  exact ⟨List.mem_of_find?_eq_some h, by simpa using List.find?_some h⟩
theorem atK_of {l : List Ent} (h : Up l) {e : Ent} (he : e ∈ l) : atK l e.key = some e := by
  induction l with
  | nil => cases he
  | cons x l ih =>
    rcases List.mem_cons.1 he with rfl | hm
    · exact atK_hit rfl
    · rw [atK_miss (by have := h.head.2 e hm; omega)]
      exact ih h.tail hm

/-- Books that have of each key the same are the same. -/
theorem up_ext {l m : List Ent} (hl : Up l) (hm : Up m) (h : ∀ k, atK l k = atK m k) : l = m := by
  induction l generalizing m with
  | nil =>
    cases m with
    | nil => rfl
    | cons y m => have := h y.key; rw [atK_nil, atK_hit rfl] at this; cases this
  | cons x l ih =>
    cases m with
    | nil => have := h x.key; rw [atK_nil, atK_hit rfl] at this; cases this
    | cons y m =>
      have hxy : x.key = y.key := by
        rcases Int.lt_trichotomy x.key y.key with hlt | he | hgt
        · have := h x.key; rw [atK_hit rfl, atK_low hm hlt] at this; cases this
        · exact he
        · have := h y.key; rw [atK_hit (x := y) rfl, atK_low hl hgt] at this; cases this
      have h1 := h x.key
      rw [atK_hit rfl, atK_hit hxy.symm] at h1
      cases h1
      congr 1
      refine ih hl.tail hm.tail fun k => ?_
      by_cases hk : x.key = k
      · subst hk
        rw [atK_tail hl, atK_tail hm]
      · have := h k
        rwa [atK_miss hk, atK_miss hk] at this

def both2 : Option Ent → Option Ent → Option Ent
  | none, y => y
  | some x, none => some x
  | some x, some y => some (newer (x, y))
theorem both2_none (o : Option Ent) : both2 o none = o := by cases o <;> rfl

theorem newer_key {x y : Ent} (h : y.key = x.key) : (newer (x, y)).key = x.key := by
  unfold newer
  split
  · exact h
  · rfl

theorem join_at {a b : List Ent} (ha : Up a) (hb : Up b) (k : Int) : atK (joinE a b) k = both2 (atK a k) (atK b k) := by
  induction a generalizing b with
  | nil =>
    induction b with
    | nil => rfl
    | cons y b ih =>
      rw [joinE_nil hb.head.1]
      by_cases hk : y.key = k
      · rw [atK_hit hk, atK_hit hk]; rfl
      · rw [atK_miss hk, atK_miss hk, ih hb.tail]
  | cons x a iha =>
    induction b with
    | nil =>
      rw [joinE_one ha.head.1, atK_nil, both2_none]
      by_cases hk : x.key = k
      · rw [atK_hit hk, atK_hit hk]
      · rw [atK_miss hk, atK_miss hk, iha ha.tail hb, atK_nil, both2_none]
    | cons y b ihb =>
      rcases Int.lt_trichotomy y.key x.key with hlt | he | hgt
      · rw [joinE_lt hb.head.1 hlt]
        by_cases hk : y.key = k
        · rw [atK_hit hk, atK_hit hk, atK_low ha (by omega)]; rfl
        · rw [atK_miss hk, atK_miss hk, ihb hb.tail]
      · rw [joinE_eq he]
        by_cases hk : x.key = k
        · rw [atK_hit (x := newer (x, y)) ((newer_key he).trans hk), atK_hit hk, atK_hit (x := y) (he.trans hk)]; rfl
        · rw [atK_miss (x := newer (x, y)) (by rw [newer_key he]; exact hk), atK_miss hk, atK_miss (x := y) (by rw [he]; exact hk), iha ha.tail hb.tail]
      · rw [joinE_gt ha.head.1 hgt]
        by_cases hk : x.key = k
        · rw [atK_hit hk, atK_hit hk, atK_low hb (by omega)]; rfl
        · rw [atK_miss hk, atK_miss (x := x) hk, iha ha.tail hb]

theorem join_mem {a b : List Ent} (ha : Up a) (hb : Up b) : ∀ e ∈ joinE a b, e ∈ a ∨ e ∈ b := by
  induction a generalizing b with
  | nil =>
    induction b with
    | nil => intro e he; cases he
    | cons y b ih =>
      rw [joinE_nil hb.head.1]
      intro e he
      rcases List.mem_cons.1 he with rfl | he
      · exact .inr (List.mem_cons_self ..)
      · exact (ih hb.tail e he).imp id (List.mem_cons_of_mem _)
  | cons x a iha =>
    induction b with
    | nil =>
      rw [joinE_one ha.head.1]
      intro e he
      rcases List.mem_cons.1 he with rfl | he
      · exact .inl (List.mem_cons_self ..)
      · exact (iha ha.tail hb e he).imp (List.mem_cons_of_mem _) id
    | cons y b ihb =>
      rcases Int.lt_trichotomy y.key x.key with hlt | hq | hgt
      · rw [joinE_lt hb.head.1 hlt]
        intro e he
        rcases List.mem_cons.1 he with rfl | he
        · exact .inr (List.mem_cons_self ..)
        · exact (ihb hb.tail e he).imp id (List.mem_cons_of_mem _)
      · rw [joinE_eq hq]
        intro e he
        rcases List.mem_cons.1 he with rfl | he
        · unfold newer
          split
          · exact .inr (List.mem_cons_self ..)
          · exact .inl (List.mem_cons_self ..)
        · exact (iha ha.tail hb.tail e he).imp (List.mem_cons_of_mem _) (List.mem_cons_of_mem _)
      · rw [joinE_gt ha.head.1 hgt]
        intro e he
        rcases List.mem_cons.1 he with rfl | he
        · exact .inl (List.mem_cons_self ..)
        · exact (iha ha.tail hb e he).imp (List.mem_cons_of_mem _) id

theorem join_up {a b : List Ent} (ha : Up a) (hb : Up b) : Up (joinE a b) := by
  refine ⟨fun e he => (join_mem ha hb e he).elim (ha.1 e) (hb.1 e), ?_⟩
  induction a generalizing b with
  | nil =>
    induction b with
    | nil => exact List.Pairwise.nil
    | cons y b ih =>
      rw [joinE_nil hb.head.1, List.pairwise_cons]
      refine ⟨fun e he => ?_, ih hb.tail⟩
      rcases join_mem ha hb.tail e he with h | h
      · cases h
      · exact hb.head.2 e h
  | cons x a iha =>
    induction b with
    | nil =>
      rw [joinE_one ha.head.1, List.pairwise_cons]
      refine ⟨fun e he => ?_, iha ha.tail hb⟩
      rcases join_mem ha.tail hb e he with h | h
      · exact ha.head.2 e h
      · cases h
    | cons y b ihb =>
      rcases Int.lt_trichotomy y.key x.key with hlt | hq | hgt
      · rw [joinE_lt hb.head.1 hlt, List.pairwise_cons]
        refine ⟨fun e he => ?_, ihb hb.tail⟩
        rcases join_mem ha hb.tail e he with h | h
        · rcases List.mem_cons.1 h with rfl | h
          · exact hlt
          · have := ha.head.2 e h; omega
        · exact hb.head.2 e h
      · rw [joinE_eq hq, List.pairwise_cons]
        refine ⟨fun e he => ?_, iha ha.tail hb.tail⟩
        rw [newer_key hq]
        rcases join_mem ha.tail hb.tail e he with h | h
        · exact ha.head.2 e h
        · have := hb.head.2 e h; omega
      · rw [joinE_gt ha.head.1 hgt, List.pairwise_cons]
        refine ⟨fun e he => ?_, iha ha.tail hb⟩
        rcases join_mem ha.tail hb e he with h | h
        · exact ha.head.2 e h
        · rcases List.mem_cons.1 h with rfl | h
          · exact hgt
          · have := hb.head.2 e h; omega

/-- No two entries of one key have one Dot and are not alike. -/
def Agree (a b : List Ent) : Prop := ∀ x ∈ a, ∀ y ∈ b, x.key = y.key → x.d = y.d → x = y
theorem Agree.symm {a b : List Ent} (h : Agree a b) : Agree b a := fun x hx y hy hk hd => (h y hy x hx hk.symm hd.symm).symm
theorem up_self {a : List Ent} (h : Up a) : Agree a a := fun x hx y hy hk _ => by
  have h1 := atK_of h hx
  have h2 := atK_of h hy
  rw [hk, h2] at h1
  exact (Option.some.inj h1).symm

theorem newer_comm {x y : Ent} (h : x.d = y.d → x = y) : newer (x, y) = newer (y, x) := by
  unfold newer
  simp only
  by_cases h1 : x.d < y.d
  · rw [if_pos h1, if_neg (by omega)]
  · by_cases h2 : y.d < x.d
    · rw [if_neg h1, if_pos h2]
    · rw [if_neg h1, if_neg h2]
      exact h (by omega)
theorem newer_assoc (x y z : Ent) : newer (newer (x, y), z) = newer (x, newer (y, z)) := by
  unfold newer
  simp only
  by_cases a1 : x.d < y.d
  · rw [if_pos a1]
    by_cases a2 : y.d < z.d
    · rw [if_pos a2, if_pos (by omega)]
    · rw [if_neg a2, if_pos a1]
  · rw [if_neg a1]
    by_cases a2 : y.d < z.d
    · rw [if_pos a2]
    · rw [if_neg a2, if_neg (show ¬ x.d < y.d by omega)]
      by_cases a3 : x.d < z.d
      · omega
      · rw [if_neg a3]

theorem join_comm {a b : List Ent} (ha : Up a) (hb : Up b) (hab : Agree a b) : joinE a b = joinE b a := by
  refine up_ext (join_up ha hb) (join_up hb ha) fun k => ?_
  rw [join_at ha hb, join_at hb ha]
  cases h1 : atK a k with
  | none => rw [both2_none]; rfl
  | some x =>
    cases h2 : atK b k with
    | none => rfl
    | some y =>
      obtain ⟨hx, hxk⟩ := atK_mem h1
      obtain ⟨hy, hyk⟩ := atK_mem h2
      show some (newer (x, y)) = some (newer (y, x))
      rw [newer_comm (hab x hx y hy (hxk.trans hyk.symm))]
theorem join_assoc {a b c : List Ent} (ha : Up a) (hb : Up b) (hc : Up c) : joinE (joinE a b) c = joinE a (joinE b c) := by
  refine up_ext (join_up (join_up ha hb) hc) (join_up ha (join_up hb hc)) fun k => ?_
  rw [join_at (join_up ha hb) hc, join_at ha hb, join_at ha (join_up hb hc), join_at hb hc]
  cases atK a k with
  | none => rfl
  | some x =>
    cases atK b k with
    | none => rfl
    | some y =>
      cases atK c k with
      | none => rfl
      | some z =>
        show some (newer (newer (x, y), z)) = some (newer (x, newer (y, z)))
        rw [newer_assoc]
theorem join_idem {a : List Ent} (ha : Up a) : joinE a a = a := by
  refine up_ext (join_up ha ha) ha fun k => ?_
  rw [join_at ha ha]
  cases atK a k with
  | none => rfl
  | some x =>
    show some (newer (x, x)) = some x
    unfold newer
    rw [if_neg (show ¬ x.d < x.d by omega)]

end Go.Proofs.Ytekjhcckepkmnaa
