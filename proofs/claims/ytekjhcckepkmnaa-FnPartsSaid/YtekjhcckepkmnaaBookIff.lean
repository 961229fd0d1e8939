/-
  A right book, as a list: entries right, keys rising, an Owner's Dots apart; joined books.
-/
import Derived.Test.YtekjhcckepkmnaaJoinLaws
namespace Go.Proofs.Ytekjhcckepkmnaa

/-- An Owner and a Dot tell the entry. -/
def DotsOne (a b : List Ent) : Prop := ∀ x ∈ a, ∀ y ∈ b, x.o = y.o → x.d = y.d → x = y
theorem DotsOne.agree {a b : List Ent} (h : DotsOne a b) (ha : Up a) (hb : Up b) : Agree a b := fun x hx y hy hk hd => by
  have h1 := Ent.key_ok (ha.1 x hx)
  have h2 := Ent.key_ok (hb.1 y hy)
  exact h x hx y hy (by omega) hd
theorem up_ne {es : List Ent} (h : Up es) {i j : Nat} (hj : j < i) (hi : i < es.length) : (E es j).key < (E es i).key := by
  have h2 := List.pairwise_iff_getElem.1 h.2 j i (by omega) hi hj
  rwa [E_get hi, E_get (by omega)]
theorem book_iff (es : List Ent) : bookOk es = true ↔ Up es ∧ DotsOne es es := by
  refine ⟨fun h => ⟨book_up h, fun x hx y hy ho hd => ?_⟩, fun ⟨hu, hd⟩ => ?_⟩
  · have hr := book_right h
    obtain ⟨i, hi, rfl⟩ := List.mem_iff_getElem.1 hx
    obtain ⟨j, hj, rfl⟩ := List.mem_iff_getElem.1 hy
    rcases Nat.lt_trichotomy i j with hlt | he | hgt
    · exact absurd ⟨by rw [E_get hi, E_get hj]; exact ho, by rw [E_get hi, E_get hj]; exact hd⟩ ((hr j hj).2.2 i hlt)
    · subst he; rfl
    · exact absurd ⟨by rw [E_get hi, E_get hj]; exact ho.symm, by rw [E_get hi, E_get hj]; exact hd.symm⟩ ((hr i hi).2.2 j hgt)
  · refine book_good fun i hi => ⟨?_, fun h0 => up_ne hu (by omega) hi, fun j hj hh => ?_⟩
    · rw [E_get hi]
      exact hu.1 _ (List.getElem_mem _)
    · have hm : E es j ∈ es := by rw [E_get (by omega)]; exact List.getElem_mem _
      have hm2 : E es i ∈ es := by rw [E_get hi]; exact List.getElem_mem _
      have h1 := hd _ hm _ hm2 hh.1 hh.2
      have h2 := up_ne hu hj hi
      rw [h1] at h2
      omega

theorem join_book {a b : List Ent} (ha : bookOk a = true) (hb : bookOk b = true) (h : DotsOne a b) : bookOk (joinE a b) = true := by
  obtain ⟨ua, da⟩ := (book_iff a).1 ha
  obtain ⟨ub, db⟩ := (book_iff b).1 hb
  refine (book_iff _).2 ⟨join_up ua ub, fun x hx y hy ho hd => ?_⟩
  rcases join_mem ua ub x hx with h1 | h1 <;> rcases join_mem ua ub y hy with h2 | h2
  · exact da x h1 y h2 ho hd
  · exact h x h1 y h2 ho hd
  · exact (h y h2 x h1 ho.symm hd.symm).symm
  · exact db x h1 y h2 ho hd

/-- Amounts do not fall as Dots rise. -/
def Grows (a b : List Ent) : Prop := ∀ x ∈ a, ∀ y ∈ b, x.key = y.key → x.d < y.d → x.a ≤ y.a
theorem join_within_left {a b : List Ent} (ha : bookOk a = true) (hb : bookOk b = true) (hj : bookOk (joinE a b) = true) (hg : Grows a b) : within a (joinE a b) = true := by
  obtain ⟨ua, da⟩ := (book_iff a).1 ha
  obtain ⟨ub, db⟩ := (book_iff b).1 hb
  unfold within
  rw [ha, hj, Bool.true_and, Bool.true_and, within_has ua (book_up hj)]
  intro x hx
  have h1 := join_at ua ub x.key
  rw [atK_of ua hx] at h1
  cases h2 : atK b x.key with
  | none =>
    rw [h2] at h1
    obtain ⟨hm, hk⟩ := atK_mem h1
    exact ⟨x, hm, rfl, Int.le_refl _, Int.le_refl _⟩
  | some y =>
    rw [h2] at h1
    obtain ⟨hm, hk⟩ := atK_mem h1
    obtain ⟨hy, hyk⟩ := atK_mem h2
    refine ⟨newer (x, y), hm, hk, ?_, ?_⟩
    · unfold newer
      split <;> simp only at * <;> omega
    · unfold newer
      split
      · rename_i hlt
        exact hg x hx y hy hyk.symm hlt
      · exact Int.le_refl _
theorem join_within_right {a b : List Ent} (ha : bookOk a = true) (hb : bookOk b = true) (hj : bookOk (joinE a b) = true) (hd : DotsOne a b) (hg : Grows b a) : within b (joinE a b) = true := by
  obtain ⟨ua, da⟩ := (book_iff a).1 ha
  obtain ⟨ub, db⟩ := (book_iff b).1 hb
  rw [join_comm ua ub (hd.agree ua ub)] at hj ⊢
  exact join_within_left hb ha hj hg

/-- A log of all that was ever written: an Owner and a Dot tell the entry; Amounts do not fall as Dots rise. Whatever is of one log can be joined. -/
structure LogOk (log : List Ent) : Prop where
  one : DotsOne log log
  grows : Grows log log
def Of (log es : List Ent) : Prop := ∀ e ∈ es, e ∈ log
theorem Of.one {log a b : List Ent} (h : LogOk log) (ha : Of log a) (hb : Of log b) : DotsOne a b := fun x hx y hy => h.one x (ha x hx) y (hb y hy)
theorem Of.grows {log a b : List Ent} (h : LogOk log) (ha : Of log a) (hb : Of log b) : Grows a b := fun x hx y hy => h.grows x (ha x hx) y (hb y hy)
theorem Of.join {log a b : List Ent} (ua : Up a) (ub : Up b) (ha : Of log a) (hb : Of log b) : Of log (joinE a b) := fun e he => (join_mem ua ub e he).elim (ha e) (hb e)

/-- Promise 7, of three books of one log. -/
theorem joins_log {log p q r : List Ent} (hL : LogOk log) (hp : bookOk p = true) (hq : bookOk q = true) (hr : bookOk r = true) (op : Of log p) (oq : Of log q) (or : Of log r) :
    joinE p q = joinE q p ∧ joinE (joinE p q) r = joinE p (joinE q r) ∧ joinE p p = p ∧ bookOk (joinE p q) = true ∧ bookOk (joinE q r) = true ∧ bookOk (joinE (joinE p q) r) = true ∧
    within p (joinE p q) = true ∧ within q (joinE p q) = true ∧ within r (joinE (joinE p q) r) = true := by
  have up := book_up hp; have uq := book_up hq; have ur := book_up hr
  have b1 := join_book hp hq (Of.one hL op oq)
  have b2 := join_book hq hr (Of.one hL oq or)
  have o1 := Of.join up uq op oq
  have b3 := join_book b1 hr (Of.one hL o1 or)
  exact ⟨join_comm up uq ((Of.one hL op oq).agree up uq), join_assoc up uq ur, join_idem up, b1, b2, b3, join_within_left hp hq b1 (Of.grows hL op oq),
    join_within_right hp hq b1 (Of.one hL op oq) (Of.grows hL oq op), join_within_right b1 hr b3 (Of.one hL o1 or) (Of.grows hL or o1)⟩

end Go.Proofs.Ytekjhcckepkmnaa
