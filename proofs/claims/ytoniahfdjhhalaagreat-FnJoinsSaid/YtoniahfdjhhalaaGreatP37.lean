/- Texts of this claim, put together. -/
import Derived.Test.YtoniahfdjhhalaaGreatP1
import Derived.Test.YtoniahfdjhhalaaGreatP14
import Derived.Test.YtoniahfdjhhalaaGreatP20
import Derived.Test.YtoniahfdjhhalaaGreatP22

namespace Go.Proofs.YtoniahfdjhhalaaGreat
def atK (l : List Ent) (k : Int) : Option Ent := l.find? fun e => e.key == k
theorem atK_nil (k : Int) : atK [] k = none := rfl
theorem atK_hit {x : Ent} {l : List Ent} {k : Int} (h : x.key = k) : atK (x :: l) k = some x := by
  unfold atK
  rw [List.find?_cons_of_pos (by simpa using h)]
theorem atK_miss {x : Ent} {l : List Ent} {k : Int} (h : ¬ x.key = k) : atK (x :: l) k = atK l k := by
  unfold atK
  rw [List.find?_cons_of_neg (by simpa using h)]
theorem atK_none {l : List Ent} {k : Int} (h : ∀ e ∈ l, ¬ e.key = k) : atK l k = none := by
  unfold atK
  rw [List.find?_eq_none]
  intro e he
  simpa using h e he
theorem atK_low {x : Ent} {l : List Ent} {k : Int} (h : Up (x :: l)) (hk : k < x.key) : atK (x :: l) k = none := atK_none fun e he => by
  rcases List.mem_cons.1 he with rfl | he
  · omega
  · have := h.head.2 e he; omega
theorem atK_tail {x : Ent} {l : List Ent} (h : Up (x :: l)) : atK l x.key = none := atK_none fun e he => by have := h.head.2 e he; omega
theorem atK_mem {l : List Ent} {k : Int} {e : Ent} (h : atK l k = some e) : e ∈ l ∧ e.key = k := by
  unfold atK at h
  exact ⟨List.mem_of_find?_eq_some h, by simpa using List.find?_some h⟩
theorem atK_of {l : List Ent} (h : Up l) {e : Ent} (he : e ∈ l) : atK l e.key = some e := by
  induction l with
  | nil => cases he
  | cons x l ih =>
    rcases List.mem_cons.1 he with rfl | hm
    · exact atK_hit rfl
    · rw [atK_miss (by have := h.head.2 e hm; omega)]
      exact ih h.tail hm
theorem up_ext {l m : List Ent} (hl : Up l) (hm : Up m) (h : ∀ k, atK l k = atK m k) : l = m := by
  induction l generalizing m with
  | nil =>
    cases m with
    | nil => rfl
    | cons y m => have := h y.key; rw [atK_nil, atK_hit rfl] at this; cases this
  | cons x l ih =>
    cases m with
    | nil => have := h x.key; rw [atK_nil, atK_hit rfl] at this; cases this
    | cons y m =>
      have hxy : x.key = y.key := by
        rcases Int.lt_trichotomy x.key y.key with hlt | he | hgt
        · have := h x.key; rw [atK_hit rfl, atK_low hm hlt] at this; cases this
        · exact he
        · have := h y.key; rw [atK_hit (x := y) rfl, atK_low hl hgt] at this; cases this
      have h1 := h x.key
      rw [atK_hit rfl, atK_hit hxy.symm] at h1
      cases h1
      congr 1
      refine ih hl.tail hm.tail fun k => ?_
      by_cases hk : x.key = k
      · subst hk
        rw [atK_tail hl, atK_tail hm]
      · have := h k
        rwa [atK_miss hk, atK_miss hk] at this
def both2 : Option Ent → Option Ent → Option Ent
  | none, y => y
  | some x, none => some x
  | some x, some y => some (newer (x, y))
theorem both2_none (o : Option Ent) : both2 o none = o := by cases o <;> rfl
theorem newer_key {x y : Ent} (h : y.key = x.key) : (newer (x, y)).key = x.key := by
  unfold newer
  split
  · exact h
  · rfl
theorem join_at {a b : List Ent} (ha : Up a) (hb : Up b) (k : Int) : atK (joinE a b) k = both2 (atK a k) (atK b k) := by
  induction a generalizing b with
  | nil =>
    induction b with
    | nil => rfl
    | cons y b ih =>
      rw [joinE_nil hb.head.1]
      by_cases hk : y.key = k
      · rw [atK_hit hk, atK_hit hk]; rfl
      · rw [atK_miss hk, atK_miss hk, ih hb.tail]
  | cons x a iha =>
    induction b with
    | nil =>
      rw [joinE_one ha.head.1, atK_nil, both2_none]
      by_cases hk : x.key = k
      · rw [atK_hit hk, atK_hit hk]
      · rw [atK_miss hk, atK_miss hk, iha ha.tail hb, atK_nil, both2_none]
    | cons y b ihb =>
      rcases Int.lt_trichotomy y.key x.key with hlt | he | hgt
      · rw [joinE_lt hb.head.1 hlt]
        by_cases hk : y.key = k
        · rw [atK_hit hk, atK_hit hk, atK_low ha (by omega)]; rfl
        · rw [atK_miss hk, atK_miss hk, ihb hb.tail]
      · rw [joinE_eq he]
        by_cases hk : x.key = k
        · rw [atK_hit (x := newer (x, y)) ((newer_key he).trans hk), atK_hit hk, atK_hit (x := y) (he.trans hk)]; rfl
        · rw [atK_miss (x := newer (x, y)) (by rw [newer_key he]; exact hk), atK_miss hk, atK_miss (x := y) (by rw [he]; exact hk), iha ha.tail hb.tail]
      · rw [joinE_gt ha.head.1 hgt]
        by_cases hk : x.key = k
        · rw [atK_hit hk, atK_hit hk, atK_low hb (by omega)]; rfl
        · rw [atK_miss hk, atK_miss (x := x) hk, iha ha.tail hb]
theorem join_mem {a b : List Ent} (ha : Up a) (hb : Up b) : ∀ e ∈ joinE a b, e ∈ a ∨ e ∈ b := by
  induction a generalizing b with
  | nil =>
    induction b with
    | nil => intro e he; cases he
    | cons y b ih =>
      rw [joinE_nil hb.head.1]
      intro e he
      rcases List.mem_cons.1 he with rfl | he
      · exact .inr (List.mem_cons_self ..)
      · exact (ih hb.tail e he).imp id (List.mem_cons_of_mem _)
  | cons x a iha =>
    induction b with
    | nil =>
      rw [joinE_one ha.head.1]
      intro e he
      rcases List.mem_cons.1 he with rfl | he
      · exact .inl (List.mem_cons_self ..)
      · exact (iha ha.tail hb e he).imp (List.mem_cons_of_mem _) id
    | cons y b ihb =>
      rcases Int.lt_trichotomy y.key x.key with hlt | hq | hgt
      · rw [joinE_lt hb.head.1 hlt]
        intro e he
        rcases List.mem_cons.1 he with rfl | he
        · exact .inr (List.mem_cons_self ..)
        · exact (ihb hb.tail e he).imp id (List.mem_cons_of_mem _)
      · rw [joinE_eq hq]
        intro e he
        rcases List.mem_cons.1 he with rfl | he
        · unfold newer
          split
          · exact .inr (List.mem_cons_self ..)
          · exact .inl (List.mem_cons_self ..)
        · exact (iha ha.tail hb.tail e he).imp (List.mem_cons_of_mem _) (List.mem_cons_of_mem _)
      · rw [joinE_gt ha.head.1 hgt]
        intro e he
        rcases List.mem_cons.1 he with rfl | he
        · exact .inl (List.mem_cons_self ..)
        · exact (iha ha.tail hb e he).imp (List.mem_cons_of_mem _) id
theorem join_up {a b : List Ent} (ha : Up a) (hb : Up b) : Up (joinE a b) := by
  refine ⟨fun e he => (join_mem ha hb e he).elim (ha.1 e) (hb.1 e), ?_⟩
  induction a generalizing b with
  | nil =>
    induction b with
    | nil => exact List.Pairwise.nil
    | cons y b ih =>
      rw [joinE_nil hb.head.1, List.pairwise_cons]
      refine ⟨fun e he => ?_, ih hb.tail⟩
      rcases join_mem ha hb.tail e he with h | h
      · cases h
      · exact hb.head.2 e h
  | cons x a iha =>
    induction b with
    | nil =>
      rw [joinE_one ha.head.1, List.pairwise_cons]
      refine ⟨fun e he => ?_, iha ha.tail hb⟩
      rcases join_mem ha.tail hb e he with h | h
      · exact ha.head.2 e h
      · cases h
    | cons y b ihb =>
      rcases Int.lt_trichotomy y.key x.key with hlt | hq | hgt
      · rw [joinE_lt hb.head.1 hlt, List.pairwise_cons]
        refine ⟨fun e he => ?_, ihb hb.tail⟩
        rcases join_mem ha hb.tail e he with h | h
        · rcases List.mem_cons.1 h with rfl | h
          · exact hlt
          · have := ha.head.2 e h; omega
        · exact hb.head.2 e h
      · rw [joinE_eq hq, List.pairwise_cons]
        refine ⟨fun e he => ?_, iha ha.tail hb.tail⟩
        rw [newer_key hq]
        rcases join_mem ha.tail hb.tail e he with h | h
        · exact ha.head.2 e h
        · have := hb.head.2 e h; omega
      · rw [joinE_gt ha.head.1 hgt, List.pairwise_cons]
        refine ⟨fun e he => ?_, iha ha.tail hb⟩
        rcases join_mem ha.tail hb e he with h | h
        · exact ha.head.2 e h
        · rcases List.mem_cons.1 h with rfl | h
          · exact hgt
          · have := hb.head.2 e h; omega
def Agree (a b : List Ent) : Prop := ∀ x ∈ a, ∀ y ∈ b, x.key = y.key → x.d = y.d → x = y
theorem Agree.symm {a b : List Ent} (h : Agree a b) : Agree b a := fun x hx y hy hk hd => (h y hy x hx hk.symm hd.symm).symm
theorem newer_comm {x y : Ent} (h : x.d = y.d → x = y) : newer (x, y) = newer (y, x) := by
  unfold newer
  simp only
  by_cases h1 : x.d < y.d
  · rw [if_pos h1, if_neg (by omega)]
  · by_cases h2 : y.d < x.d
    · rw [if_neg h1, if_pos h2]
    · rw [if_neg h1, if_neg h2]
      exact h (by omega)
theorem newer_assoc (x y z : Ent) : newer (newer (x, y), z) = newer (x, newer (y, z)) := by
  unfold newer
  simp only
  by_cases a1 : x.d < y.d
  · rw [if_pos a1]
    by_cases a2 : y.d < z.d
    · rw [if_pos a2, if_pos (by omega)]
    · rw [if_neg a2, if_pos a1]
  · rw [if_neg a1]
    by_cases a2 : y.d < z.d
    · rw [if_pos a2]
    · rw [if_neg a2, if_neg (show ¬ x.d < y.d by omega)]
      by_cases a3 : x.d < z.d
      · omega
      · rw [if_neg a3]
theorem join_comm {a b : List Ent} (ha : Up a) (hb : Up b) (hab : Agree a b) : joinE a b = joinE b a := by
  refine up_ext (join_up ha hb) (join_up hb ha) fun k => ?_
  rw [join_at ha hb, join_at hb ha]
  cases h1 : atK a k with
  | none => rw [both2_none]; rfl
  | some x =>
    cases h2 : atK b k with
    | none => rfl
    | some y =>
      obtain ⟨hx, hxk⟩ := atK_mem h1
      obtain ⟨hy, hyk⟩ := atK_mem h2
      show some (newer (x, y)) = some (newer (y, x))
      rw [newer_comm (hab x hx y hy (hxk.trans hyk.symm))]
theorem join_assoc {a b c : List Ent} (ha : Up a) (hb : Up b) (hc : Up c) : joinE (joinE a b) c = joinE a (joinE b c) := by
  refine up_ext (join_up (join_up ha hb) hc) (join_up ha (join_up hb hc)) fun k => ?_
  rw [join_at (join_up ha hb) hc, join_at ha hb, join_at ha (join_up hb hc), join_at hb hc]
  cases atK a k with
  | none => rfl
  | some x =>
    cases atK b k with
    | none => rfl
    | some y =>
      cases atK c k with
      | none => rfl
      | some z =>
        show some (newer (newer (x, y), z)) = some (newer (x, newer (y, z)))
        rw [newer_assoc]
theorem join_idem {a : List Ent} (ha : Up a) : joinE a a = a := by
  refine up_ext (join_up ha ha) ha fun k => ?_
  rw [join_at ha ha]
  cases atK a k with
  | none => rfl
  | some x =>
    show some (newer (x, x)) = some x
    unfold newer
    rw [if_neg (show ¬ x.d < x.d by omega)]
def DotsOne (a b : List Ent) : Prop := ∀ x ∈ a, ∀ y ∈ b, x.o = y.o → x.d = y.d → x = y
theorem DotsOne.agree {a b : List Ent} (h : DotsOne a b) (ha : Up a) (hb : Up b) : Agree a b := fun x hx y hy hk hd => by
  have h1 := Ent.key_ok (ha.1 x hx)
  have h2 := Ent.key_ok (hb.1 y hy)
  exact h x hx y hy (by omega) hd
theorem up_ne {es : List Ent} (h : Up es) {i j : Nat} (hj : j < i) (hi : i < es.length) : (E es j).key < (E es i).key := by
  have h2 := List.pairwise_iff_getElem.1 h.2 j i (by omega) hi hj
  rwa [E_get hi, E_get (by omega)]
theorem book_iff (es : List Ent) : bookOk es = true ↔ Up es ∧ DotsOne es es := by
  refine ⟨fun h => ⟨book_up h, fun x hx y hy ho hd => ?_⟩, fun ⟨hu, hd⟩ => ?_⟩
  · have hr := book_right h
    obtain ⟨i, hi, rfl⟩ := List.mem_iff_getElem.1 hx
    obtain ⟨j, hj, rfl⟩ := List.mem_iff_getElem.1 hy
    rcases Nat.lt_trichotomy i j with hlt | he | hgt
    · exact absurd ⟨by rw [E_get hi, E_get hj]; exact ho, by rw [E_get hi, E_get hj]; exact hd⟩ ((hr j hj).2.2 i hlt)
    · subst he; rfl
    · exact absurd ⟨by rw [E_get hi, E_get hj]; exact ho.symm, by rw [E_get hi, E_get hj]; exact hd.symm⟩ ((hr i hi).2.2 j hgt)
  · refine book_good fun i hi => ⟨?_, fun h0 => up_ne hu (by omega) hi, fun j hj hh => ?_⟩
    · rw [E_get hi]
      exact hu.1 _ (List.getElem_mem _)
    · have hm : E es j ∈ es := by rw [E_get (by omega)]; exact List.getElem_mem _
      have hm2 : E es i ∈ es := by rw [E_get hi]; exact List.getElem_mem _
      have h1 := hd _ hm _ hm2 hh.1 hh.2
      have h2 := up_ne hu hj hi
      rw [h1] at h2
      omega
theorem join_book {a b : List Ent} (ha : bookOk a = true) (hb : bookOk b = true) (h : DotsOne a b) : bookOk (joinE a b) = true := by
  obtain ⟨ua, da⟩ := (book_iff a).1 ha
  obtain ⟨ub, db⟩ := (book_iff b).1 hb
  refine (book_iff _).2 ⟨join_up ua ub, fun x hx y hy ho hd => ?_⟩
  rcases join_mem ua ub x hx with h1 | h1 <;> rcases join_mem ua ub y hy with h2 | h2
  · exact da x h1 y h2 ho hd
  · exact h x h1 y h2 ho hd
  · exact (h y h2 x h1 ho.symm hd.symm).symm
  · exact db x h1 y h2 ho hd
def Grows (a b : List Ent) : Prop := ∀ x ∈ a, ∀ y ∈ b, x.key = y.key → x.d < y.d → x.a ≤ y.a
theorem join_within_left {a b : List Ent} (ha : bookOk a = true) (hb : bookOk b = true) (hj : bookOk (joinE a b) = true) (hg : Grows a b) : within a (joinE a b) = true := by
  obtain ⟨ua, da⟩ := (book_iff a).1 ha
  obtain ⟨ub, db⟩ := (book_iff b).1 hb
  unfold within
  rw [ha, hj, Bool.true_and, Bool.true_and, within_has ua (book_up hj)]
  intro x hx
  have h1 := join_at ua ub x.key
  rw [atK_of ua hx] at h1
  cases h2 : atK b x.key with
  | none =>
    rw [h2] at h1
    obtain ⟨hm, hk⟩ := atK_mem h1
    exact ⟨x, hm, rfl, Int.le_refl _, Int.le_refl _⟩
  | some y =>
    rw [h2] at h1
    obtain ⟨hm, hk⟩ := atK_mem h1
    obtain ⟨hy, hyk⟩ := atK_mem h2
    refine ⟨newer (x, y), hm, hk, ?_, ?_⟩
    · unfold newer
      split <;> simp only at * <;> omega
    · unfold newer
      split
      · rename_i hlt
        exact hg x hx y hy hyk.symm hlt
      · exact Int.le_refl _
theorem join_within_right {a b : List Ent} (ha : bookOk a = true) (hb : bookOk b = true) (hj : bookOk (joinE a b) = true) (hd : DotsOne a b) (hg : Grows b a) : within b (joinE a b) = true := by
  obtain ⟨ua, da⟩ := (book_iff a).1 ha
  obtain ⟨ub, db⟩ := (book_iff b).1 hb
  rw [join_comm ua ub (hd.agree ua ub)] at hj ⊢
  exact join_within_left hb ha hj hg
structure LogOk (log : List Ent) : Prop where
  one : DotsOne log log
  grows : Grows log log
def Of (log es : List Ent) : Prop := ∀ e ∈ es, e ∈ log
theorem Of.one {log a b : List Ent} (h : LogOk log) (ha : Of log a) (hb : Of log b) : DotsOne a b := fun x hx y hy => h.one x (ha x hx) y (hb y hy)
theorem Of.grows {log a b : List Ent} (h : LogOk log) (ha : Of log a) (hb : Of log b) : Grows a b := fun x hx y hy => h.grows x (ha x hx) y (hb y hy)
theorem Of.join {log a b : List Ent} (ua : Up a) (ub : Up b) (ha : Of log a) (hb : Of log b) : Of log (joinE a b) := fun e he => (join_mem ua ub e he).elim (ha e) (hb e)
theorem joins_log {log p q r : List Ent} (hL : LogOk log) (hp : bookOk p = true) (hq : bookOk q = true) (hr : bookOk r = true) (op : Of log p) (oq : Of log q) (or : Of log r) :
    joinE p q = joinE q p ∧ joinE (joinE p q) r = joinE p (joinE q r) ∧ joinE p p = p ∧ bookOk (joinE p q) = true ∧ bookOk (joinE q r) = true ∧ bookOk (joinE (joinE p q) r) = true ∧
    within p (joinE p q) = true ∧ within q (joinE p q) = true ∧ within r (joinE (joinE p q) r) = true := by
  have up := book_up hp; have uq := book_up hq; have ur := book_up hr
  have b1 := join_book hp hq (Of.one hL op oq)
  have b2 := join_book hq hr (Of.one hL oq or)
  have o1 := Of.join up uq op oq
  have b3 := join_book b1 hr (Of.one hL o1 or)
  exact ⟨join_comm up uq ((Of.one hL op oq).agree up uq), join_assoc up uq ur, join_idem up, b1, b2, b3, join_within_left hp hq b1 (Of.grows hL op oq),
    join_within_right hp hq b1 (Of.one hL op oq) (Of.grows hL oq op), join_within_right b1 hr b3 (Of.one hL o1 or) (Of.grows hL or o1)⟩
theorem key_sameD {x y : Ent} (hx : x.ok = true) (hy : y.ok = true) : x.key = y.key ↔ x.o = y.o ∧ x.s = y.s := by
  have h1 := Ent.key_ok hx; have h2 := Ent.key_ok hy
  constructor
  · intro h; omega
  · intro h; omega
theorem put_mem {es : List Ent} {e : Ent} (hu : Up es) : ∀ x ∈ putE es e, x = e ∨ (x ∈ es ∧ ¬ x.key = e.key) := by
  induction es with
  | nil => intro x hx; simp [putE] at hx; exact .inl hx
  | cons x0 r ih =>
    intro x hx
    have hh := hu.head
    have iht := ih hu.tail
    rw [putE] at hx
    split at hx
    · rename_i hlt
      rcases List.mem_cons.1 hx with rfl | hx
      · exact .inr ⟨List.mem_cons_self .., by omega⟩
      · rcases iht x hx with h | h
        · exact .inl h
        · exact .inr ⟨List.mem_cons_of_mem _ h.1, h.2⟩
    · split at hx
      · rename_i he
        rcases List.mem_cons.1 hx with rfl | hx
        · exact .inl rfl
        · exact .inr ⟨List.mem_cons_of_mem _ hx, by have := hh.2 x hx; omega⟩
      · rename_i h1 h2
        rcases List.mem_cons.1 hx with rfl | hx
        · exact .inl rfl
        · rcases List.mem_cons.1 hx with rfl | hx2
          · exact .inr ⟨List.mem_cons_self .., by omega⟩
          · exact .inr ⟨List.mem_cons_of_mem _ hx2, by have := hh.2 x hx2; omega⟩
theorem put_up {es : List Ent} {e : Ent} (hu : Up es) (he : e.ok = true) : Up (putE es e) := by
  refine ⟨fun x hx => ?_, ?_⟩
  · rcases put_mem hu x hx with rfl | h
    · exact he
    · exact hu.1 x h.1
  · induction es with
    | nil => simp [putE]
    | cons x0 r ih =>
      have hh := hu.head
      rw [putE]
      split
      · rename_i hlt
        refine List.pairwise_cons.2 ⟨fun y hy => ?_, ih hu.tail⟩
        rcases put_mem hu.tail y hy with rfl | h
        · exact hlt
        · exact hh.2 y h.1
      · split
        · rename_i heq
          exact List.pairwise_cons.2 ⟨fun y hy => by have := hh.2 y hy; omega, (List.pairwise_cons.1 hu.2).2⟩
        · rename_i h1 h2
          refine List.pairwise_cons.2 ⟨fun y hy => ?_, hu.2⟩
          rcases List.mem_cons.1 hy with rfl | hy
          · omega
          · have := hh.2 y hy
            omega
theorem put_book {es : List Ent} {e : Ent} (hb : bookOk es = true) (he : e.ok = true) (hd : ∀ x ∈ es, x.o = e.o → ¬ x.d = e.d) : bookOk (putE es e) = true := by
  obtain ⟨hu, h1⟩ := (book_iff es).1 hb
  refine (book_iff _).2 ⟨put_up hu he, fun x hx y hy ho hdd => ?_⟩
  rcases put_mem hu x hx with rfl | h
  · rcases put_mem hu y hy with rfl | h2
    · rfl
    · exact absurd hdd.symm (hd y h2.1 ho.symm)
  · rcases put_mem hu y hy with rfl | h2
    · exact absurd hdd (hd x h.1 ho)
    · exact h1 x h.1 y h2.1 ho hdd
theorem mxF_ge (o m : Int) (e : Ent) : m ≤ mxF o m e := by
  unfold mxF
  split <;> omega
theorem mxfold_ge (es : List Ent) (o : Int) : ∀ m, m ≤ es.foldl (mxF o) m := by
  induction es with
  | nil => intro m; exact Int.le_refl m
  | cons x r ih => intro m; exact Int.le_trans (mxF_ge o m x) (ih _)
theorem mx_ge {es : List Ent} {x : Ent} (hx : x ∈ es) : x.d ≤ mx es x.o := by
  have : ∀ (l : List Ent) (m : Int), x ∈ l → x.d ≤ l.foldl (mxF x.o) m := by
    intro l
    induction l with
    | nil => intro m h; cases h
    | cons y r ih =>
      intro m h
      rcases List.mem_cons.1 h with rfl | h
      · refine Int.le_trans ?_ (mxfold_ge r _ _)
        unfold mxF
        rw [if_pos rfl]
        omega
      · exact ih _ h
  exact this es 0 hx
def contribD (e : Ent) (node : Int) : Int := if e.s = node then e.a else if e.o = node then -e.a else 0
def hsumD : List Ent → Int → Int
  | [], _ => 0
  | e :: r, node => contribD e node + hsumD r node
theorem held_sumD (es : List Ent) (node : Int) : held es node = hsumD es node := by
  have : ∀ acc, es.foldl (heldStep node) acc = acc + hsumD es node := by
    induction es with
    | nil => intro acc; simp [hsumD]
    | cons e r ih =>
      intro acc
      rw [List.foldl_cons, ih, hsumD]
      unfold heldStep contribD
      split
      · omega
      · split <;> omega
  unfold held
  rw [this]
  omega
theorem amount_noneD {es : List Ent} {o s : Int} (h : ∀ x ∈ es, ¬ (x.o = o ∧ x.s = s)) : amount es o s = 0 := by
  induction es with
  | nil => rfl
  | cons x r ih =>
    rw [amount, if_neg (h x (List.mem_cons_self ..))]
    exact ih (fun y hy => h y (List.mem_cons_of_mem _ hy))
theorem hsum_put {es : List Ent} {e : Ent} (hu : Up es) (he : e.ok = true) (node : Int) : hsumD (putE es e) node = hsumD es node + contribD e node - contribD ⟨e.o, e.s, amount es e.o e.s, 0⟩ node := by
  induction es with
  | nil =>
    simp only [putE, hsumD, amount, contribD]
    split
    · omega
    · split <;> omega
  | cons x r ih =>
    have hh := hu.head
    have hk := key_sameD hh.1 he
    rw [putE]
    split
    · rename_i hlt
      have hne : ¬ (x.o = e.o ∧ x.s = e.s) := fun h => by have := hk.2 h; omega
      rw [hsumD, hsumD, ih hu.tail, amount, if_neg hne]
      omega
    · split
      · rename_i heq
        have hs := hk.1 heq
        rw [hsumD, hsumD, amount, if_pos hs]
        have hc : contribD x node = contribD ⟨e.o, e.s, x.a, 0⟩ node := by
          unfold contribD
          rw [hs.1, hs.2]
        rw [hc]
        omega
      · rename_i h1 h2
        have ha : amount (x :: r) e.o e.s = 0 := amount_noneD fun y hy => by
          intro h
          have hyo : y.ok = true := hu.1 y hy
          have := (key_sameD hyo he).2 h
          rcases List.mem_cons.1 hy with rfl | hy
          · omega
          · have := hh.2 y hy; omega
        rw [ha, hsumD]
        simp only [contribD]
        split
        · omega
        · split <;> omega
theorem contribD_add (o s a m d x : Int) : contribD ⟨o, s, a + m, d⟩ x = contribD ⟨o, s, a, 0⟩ x + contribD ⟨o, s, m, 0⟩ x := by
  unfold contribD
  by_cases h1 : s = x
  · simp only [if_pos h1]
  · by_cases h2 : o = x
    · simp only [if_neg h1, if_pos h2]
      omega
    · simp only [if_neg h1, if_neg h2]
      omega
theorem deed_held {es : List Ent} {k n t m : Int} (hb : bookOk es = true) (he : (deedEnt es k n t m).ok = true) (node : Int) : held (putE es (deedEnt es k n t m)) node = held es node + contribD ⟨n, slotOf k n t, m, 0⟩ node := by
  rw [held_sumD, held_sumD, hsum_put (book_up hb) he]
  show hsumD es node + contribD ⟨n, slotOf k n t, amount es n (slotOf k n t) + m, mx es n + 1⟩ node - contribD ⟨n, slotOf k n t, amount es n (slotOf k n t), 0⟩ node = hsumD es node + contribD ⟨n, slotOf k n t, m, 0⟩ node
  rw [contribD_add]
  omega
theorem deed_book {es : List Ent} {k n t m : Int} (hb : bookOk es = true) (he : (deedEnt es k n t m).ok = true) : bookOk (putE es (deedEnt es k n t m)) = true := by
  refine put_book hb he (fun x hx ho hd => ?_)
  have h1 := mx_ge hx
  have h2 : x.o = n := ho
  have h3 : x.d = mx es n + 1 := hd
  rw [h2] at h1
  omega
theorem sound_parts {es : List Ent} (h : soundE es = true) : bookOk es = true ∧ HeldUp es 4 := by
  simp only [soundE, Bool.and_eq_true, decide_eq_true_eq] at h
  exact h
theorem sound_of {es : List Ent} (h1 : bookOk es = true) (h2 : HeldUp es 4) : soundE es = true := by
  simp only [soundE, Bool.and_eq_true, decide_eq_true_eq]
  exact ⟨h1, h2⟩
theorem deed_sound {es : List Ent} {k n t m : Int} (hs : soundE es = true) (hd : deedOk k n t m = true) : soundE (doneR es k n t m).1 = true := by
  obtain ⟨hb, hu⟩ := sound_parts hs
  unfold doneR
  split
  · exact hs
  · rename_i hsh
    split
    · rename_i hok
      refine sound_of (deed_book hb hok) (fun i hi => ?_)
      have h0 := hu i hi
      show 0 ≤ held (putE es (deedEnt es k n t m)) (i : Int)
      rw [deed_held hb hok]
      have hd' : (0 ≤ n ∧ n ≤ 3) ∧ (1 ≤ m ∧ m ≤ 1000000) ∧ ((k = 1 ∨ k = 3) ∨ (k = 2 ∧ (0 ≤ t ∧ t ≤ 3) ∧ ¬ t = n)) := by
        simp only [deedOk, inB, Bool.and_eq_true, decide_eq_true_eq] at hd
        refine ⟨hd.1.1, hd.1.2, ?_⟩
        have h2 := hd.2
        by_cases hk : k = 1 ∨ k = 3
        · exact .inl hk
        · rw [if_neg hk] at h2
          by_cases hk2 : k = 2
          · rw [if_pos hk2] at h2
            simp at h2
            exact .inr ⟨hk2, h2.1, h2.2⟩
          · rw [if_neg hk2] at h2
            cases h2
      have hn : ¬ k = 1 → m ≤ held es n := fun hk => by
        have : ¬ held es n < m := fun h => hsh ⟨hk, h⟩
        omega
      obtain ⟨hn3, hm, hkk⟩ := hd'
      simp only [contribD, slotOf]
      rcases hkk with (rfl | rfl) | ⟨rfl, ht, htn⟩
      · rw [if_pos rfl]
        by_cases hni : n = i
        · rw [if_pos hni]
          omega
        · rw [if_neg hni]
          simp only [hni, if_false]
          omega
      · have hh := hn (by omega)
        rw [if_neg (by omega : ¬ (3 : Int) = 1), if_neg (by omega : ¬ (3 : Int) = 2), if_neg (by omega)]
        split
        · rename_i hni
          rw [hni] at hh
          omega
        · omega
      · have hh := hn (by omega)
        rw [if_neg (by omega : ¬ (2 : Int) = 1), if_pos rfl]
        split
        · omega
        · split
          · rename_i hni
            rw [hni] at hh
            omega
          · omega
    · exact hs
end Go.Proofs.YtoniahfdjhhalaaGreat
