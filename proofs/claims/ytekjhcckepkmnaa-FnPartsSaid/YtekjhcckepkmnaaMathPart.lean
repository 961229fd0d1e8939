/-
  A book parted into what is known and what is new, joined again.
-/
import Derived.Test.YtekjhcckepkmnaaImplPart
import Derived.Test.YtekjhcckepkmnaaBookIff
import Derived.Test.YtekjhcckepkmnaaVecOf
namespace Go.Proofs.Ytekjhcckepkmnaa

def oldE (es : List Ent) (known : List Int) : List Ent := es.filter (fun e => !news known e)
theorem up_filter {es : List Ent} (h : Up es) (p : Ent → Bool) : Up (es.filter p) := ⟨fun e he => h.1 e (List.mem_filter.1 he).1, h.2.sublist List.filter_sublist⟩
theorem book_filter {es : List Ent} (h : bookOk es = true) (p : Ent → Bool) : bookOk (es.filter p) = true := by
  obtain ⟨hu, hd⟩ := (book_iff es).1 h
  exact (book_iff _).2 ⟨up_filter hu p, fun x hx y hy => hd x (List.mem_filter.1 hx).1 y (List.mem_filter.1 hy).1⟩
theorem join_parts {es : List Ent} (h : Up es) (p : Ent → Bool) : joinE (es.filter (fun e => !p e)) (es.filter p) = es := by
  induction es with
  | nil => rfl
  | cons x l ih =>
    have ht := ih h.tail
    have hx := h.head
    cases hp : p x with
    | true =>
      rw [List.filter_cons_of_neg (by simp [hp]), List.filter_cons_of_pos hp]
      cases ha : l.filter (fun e => !p e) with
      | nil => rw [ha] at ht; rw [joinE_nil hx.1, ht]
      | cons y r =>
        rw [ha] at ht
        have hy : y ∈ l := (List.mem_filter.1 (show y ∈ l.filter (fun e => !p e) by rw [ha]; exact List.mem_cons_self ..)).1
        rw [joinE_lt hx.1 (hx.2 y hy), ht]
    | false =>
      rw [List.filter_cons_of_pos (by simp [hp]), List.filter_cons_of_neg (by simp [hp])]
      cases ha : l.filter p with
      | nil => rw [ha] at ht; rw [joinE_one hx.1, ht]
      | cons y r =>
        rw [ha] at ht
        have hy : y ∈ l := (List.mem_filter.1 (show y ∈ l.filter p by rw [ha]; exact List.mem_cons_self ..)).1
        rw [joinE_gt hx.1 (hx.2 y hy), ht]
theorem parts_join {es : List Ent} (h : bookOk es = true) (known : List Int) : joinR (oldE es known) (partE es known) = some es := by
  have hj : joinE (oldE es known) (partE es known) = es := join_parts (book_up h) (news known)
  rw [joinR_yes (a := oldE es known) (b := partE es known) (book_filter h _) (book_filter h _) (by rw [hj]; exact h), hj]
theorem old_yes {es : List Ent} {known : List Int} {k : Nat} (h : k < es.length) (hn : news known (E es k) = false) : oldE (es.take (k + 1)) known = oldE (es.take k) known ++ [E es k] := by
  unfold oldE
  rw [takeE h, List.filter_append]
  simp [hn]
theorem old_no {es : List Ent} {known : List Int} {k : Nat} (h : k < es.length) (hn : news known (E es k) = true) : oldE (es.take (k + 1)) known = oldE (es.take k) known := by
  unfold oldE
  rw [takeE h, List.filter_append]
  simp [hn]
theorem old_len (es : List Ent) (known : List Int) : (oldE es known).length ≤ es.length := List.length_filter_le _ _
theorem old_wf {es : List Ent} (known : List Int) (h : AllE es) : AllE (oldE es known) := fun e he => h e (List.mem_filter.1 he).1
theorem book_nil : bookOk [] = true := by decide
theorem vecOf_nil : vecOf [] = [0, 0, 0, 0] := by decide
theorem vecOk_vec {es : List Ent} (h : bookOk es = true) : vecOk (vecOf es) = true := by
  rw [vecOf_yes h]
  refine vecPre_all rfl fun j hj => ?_
  rw [vec_get0 es j hj]
  have := mx_range (book_up h).1 (j : Int)
  simp [inB, this]
theorem mxFP_ge (o m : Int) (e : Ent) : m ≤ mxF o m e := by
  unfold mxF
  split <;> omega
theorem mxfoldP_ge (es : List Ent) (o : Int) : ∀ m, m ≤ es.foldl (mxF o) m := by
  induction es with
  | nil => intro m; exact Int.le_refl m
  | cons x r ih => intro m; exact Int.le_trans (mxFP_ge o m x) (ih _)
theorem mxP_ge {es : List Ent} {x : Ent} (hx : x ∈ es) : x.d ≤ mx es x.o := by
  have : ∀ (l : List Ent) (m : Int), x ∈ l → x.d ≤ l.foldl (mxF x.o) m := by
    intro l
    induction l with
    | nil => intro m h; cases h
    | cons y r ih =>
      intro m h
      rcases List.mem_cons.1 h with rfl | h
      · refine Int.le_trans ?_ (mxfoldP_ge r _ _)
        unfold mxF
        rw [if_pos rfl]
        omega
      · exact ih _ h
  exact this es 0 hx
theorem part_all {es : List Ent} (h : bookOk es = true) : partFor es (vecOf []) = es := by
  rw [partFor_yes h (vecOk_vec book_nil), vecOf_nil]
  refine List.filter_eq_self.2 fun e he => ?_
  have hg := Ent.ok_all ((book_up h).1 e he)
  obtain ⟨j, hj⟩ : ∃ j : Nat, e.o = j := ⟨e.o.toNat, by omega⟩
  have h : j = 0 ∨ j = 1 ∨ j = 2 ∨ j = 3 := by omega
  unfold news
  rw [hj, Int.toNat_natCast, decide_eq_true_eq]
  rcases h with rfl | rfl | rfl | rfl <;> (show (0 : Int) < e.d; omega)
theorem part_none {es : List Ent} (h : bookOk es = true) : partFor es (vecOf es) = [] := by
  rw [partFor_yes h (vecOk_vec h), vecOf_yes h]
  refine List.filter_eq_nil_iff.2 fun e he => ?_
  have hg := Ent.ok_all ((book_up h).1 e he)
  have hm := mxP_ge he
  obtain ⟨j, hj⟩ : ∃ j : Nat, e.o = j := ⟨e.o.toNat, by omega⟩
  unfold news
  rw [hj, Int.toNat_natCast, vec_get0 es j (by omega), decide_eq_true_eq]
  rw [hj] at hm
  omega

end Go.Proofs.Ytekjhcckepkmnaa
