/- Texts of this claim, put together. -/
import Derived.Test.YtccoljbnddfmpaaGreatDoorQ1
import Derived.Test.YtccoljbnddfmpaaGreatDoorQ12
import Derived.Test.YtccoljbnddfmpaaGreatDoorQ24
import Derived.Test.YtccoljbnddfmpaaGreatDoorQ30

namespace Go.Proofs.YtccoljbnddfmpaaGreatDoor
def Agree (a b : List Ent) : Prop := ∀ x ∈ a, ∀ y ∈ b, x.key = y.key → x.d = y.d → x = y
theorem Agree.symm {a b : List Ent} (h : Agree a b) : Agree b a := fun x hx y hy hk hd => (h y hy x hx hk.symm hd.symm).symm
def DotsOne (a b : List Ent) : Prop := ∀ x ∈ a, ∀ y ∈ b, x.o = y.o → x.d = y.d → x = y
theorem up_ne {es : List Ent} (h : Up es) {i j : Nat} (hj : j < i) (hi : i < es.length) : (E es j).key < (E es i).key := by
  have h2 := List.pairwise_iff_getElem.1 h.2 j i (by omega) hi hj
  rwa [E_get hi, E_get (by omega)]
theorem book_iff (es : List Ent) : bookOk es = true ↔ Up es ∧ DotsOne es es := by
  refine ⟨fun h => ⟨book_up h, fun x hx y hy ho hd => ?_⟩, fun ⟨hu, hd⟩ => ?_⟩
  · have hr := book_right h
    obtain ⟨i, hi, rfl⟩ := List.mem_iff_getElem.1 hx
    obtain ⟨j, hj, rfl⟩ := List.mem_iff_getElem.1 hy
    rcases Nat.lt_trichotomy i j with hlt | he | hgt
    · exact absurd ⟨by rw [E_get hi, E_get hj]; exact ho, by rw [E_get hi, E_get hj]; exact hd⟩ ((hr j hj).2.2 i hlt)
    · subst he; rfl
    · exact absurd ⟨by rw [E_get hi, E_get hj]; exact ho.symm, by rw [E_get hi, E_get hj]; exact hd.symm⟩ ((hr i hi).2.2 j hgt)
  · refine book_good fun i hi => ⟨?_, fun h0 => up_ne hu (by omega) hi, fun j hj hh => ?_⟩
    · rw [E_get hi]
      exact hu.1 _ (List.getElem_mem _)
    · have hm : E es j ∈ es := by rw [E_get (by omega)]; exact List.getElem_mem _
      have hm2 : E es i ∈ es := by rw [E_get hi]; exact List.getElem_mem _
      have h1 := hd _ hm _ hm2 hh.1 hh.2
      have h2 := up_ne hu hj hi
      rw [h1] at h2
      omega
def Grows (a b : List Ent) : Prop := ∀ x ∈ a, ∀ y ∈ b, x.key = y.key → x.d < y.d → x.a ≤ y.a
structure LogOk (log : List Ent) : Prop where
  one : DotsOne log log
  grows : Grows log log
def Of (log es : List Ent) : Prop := ∀ e ∈ es, e ∈ log
theorem Of.one {log a b : List Ent} (h : LogOk log) (ha : Of log a) (hb : Of log b) : DotsOne a b := fun x hx y hy => h.one x (ha x hx) y (hb y hy)
theorem Of.grows {log a b : List Ent} (h : LogOk log) (ha : Of log a) (hb : Of log b) : Grows a b := fun x hx y hy => h.grows x (ha x hx) y (hb y hy)
theorem key_sameD {x y : Ent} (hx : x.ok = true) (hy : y.ok = true) : x.key = y.key ↔ x.o = y.o ∧ x.s = y.s := by
  have h1 := Ent.key_ok hx; have h2 := Ent.key_ok hy
  constructor
  · intro h; omega
  · intro h; omega
theorem put_mem {es : List Ent} {e : Ent} (hu : Up es) : ∀ x ∈ putE es e, x = e ∨ (x ∈ es ∧ ¬ x.key = e.key) := by
  induction es with
  | nil => intro x hx; simp [putE] at hx; exact .inl hx
  | cons x0 r ih =>
    intro x hx
    have hh := hu.head
    have iht := ih hu.tail
    rw [putE] at hx
    split at hx
    · rename_i hlt
      rcases List.mem_cons.1 hx with rfl | hx
      · exact .inr ⟨List.mem_cons_self .., by omega⟩
      · rcases iht x hx with h | h
        · exact .inl h
        · exact .inr ⟨List.mem_cons_of_mem _ h.1, h.2⟩
    · split at hx
      · rename_i he
        rcases List.mem_cons.1 hx with rfl | hx
        · exact .inl rfl
        · exact .inr ⟨List.mem_cons_of_mem _ hx, by have := hh.2 x hx; omega⟩
      · rename_i h1 h2
        rcases List.mem_cons.1 hx with rfl | hx
        · exact .inl rfl
        · rcases List.mem_cons.1 hx with rfl | hx2
          · exact .inr ⟨List.mem_cons_self .., by omega⟩
          · exact .inr ⟨List.mem_cons_of_mem _ hx2, by have := hh.2 x hx2; omega⟩
theorem put_up {es : List Ent} {e : Ent} (hu : Up es) (he : e.ok = true) : Up (putE es e) := by
  refine ⟨fun x hx => ?_, ?_⟩
  · rcases put_mem hu x hx with rfl | h
    · exact he
    · exact hu.1 x h.1
  · induction es with
    | nil => simp [putE]
    | cons x0 r ih =>
      have hh := hu.head
      rw [putE]
      split
      · rename_i hlt
        refine List.pairwise_cons.2 ⟨fun y hy => ?_, ih hu.tail⟩
        rcases put_mem hu.tail y hy with rfl | h
        · exact hlt
        · exact hh.2 y h.1
      · split
        · rename_i heq
          exact List.pairwise_cons.2 ⟨fun y hy => by have := hh.2 y hy; omega, (List.pairwise_cons.1 hu.2).2⟩
        · rename_i h1 h2
          refine List.pairwise_cons.2 ⟨fun y hy => ?_, hu.2⟩
          rcases List.mem_cons.1 hy with rfl | hy
          · omega
          · have := hh.2 y hy
            omega
theorem put_book {es : List Ent} {e : Ent} (hb : bookOk es = true) (he : e.ok = true) (hd : ∀ x ∈ es, x.o = e.o → ¬ x.d = e.d) : bookOk (putE es e) = true := by
  obtain ⟨hu, h1⟩ := (book_iff es).1 hb
  refine (book_iff _).2 ⟨put_up hu he, fun x hx y hy ho hdd => ?_⟩
  rcases put_mem hu x hx with rfl | h
  · rcases put_mem hu y hy with rfl | h2
    · rfl
    · exact absurd hdd.symm (hd y h2.1 ho.symm)
  · rcases put_mem hu y hy with rfl | h2
    · exact absurd hdd (hd x h.1 ho)
    · exact h1 x h.1 y h2.1 ho hdd
theorem mxF_ge (o m : Int) (e : Ent) : m ≤ mxF o m e := by
  unfold mxF
  split <;> omega
theorem mxfold_ge (es : List Ent) (o : Int) : ∀ m, m ≤ es.foldl (mxF o) m := by
  induction es with
  | nil => intro m; exact Int.le_refl m
  | cons x r ih => intro m; exact Int.le_trans (mxF_ge o m x) (ih _)
theorem mx_ge {es : List Ent} {x : Ent} (hx : x ∈ es) : x.d ≤ mx es x.o := by
  have : ∀ (l : List Ent) (m : Int), x ∈ l → x.d ≤ l.foldl (mxF x.o) m := by
    intro l
    induction l with
    | nil => intro m h; cases h
    | cons y r ih =>
      intro m h
      rcases List.mem_cons.1 h with rfl | h
      · refine Int.le_trans ?_ (mxfold_ge r _ _)
        unfold mxF
        rw [if_pos rfl]
        omega
      · exact ih _ h
  exact this es 0 hx
def contribD (e : Ent) (node : Int) : Int := if e.s = node then e.a else if e.o = node then -e.a else 0
def hsumD : List Ent → Int → Int
  | [], _ => 0
  | e :: r, node => contribD e node + hsumD r node
theorem held_sumD (es : List Ent) (node : Int) : held es node = hsumD es node := by
  have : ∀ acc, es.foldl (heldStep node) acc = acc + hsumD es node := by
    induction es with
    | nil => intro acc; simp [hsumD]
    | cons e r ih =>
      intro acc
      rw [List.foldl_cons, ih, hsumD]
      unfold heldStep contribD
      split
      · omega
      · split <;> omega
  unfold held
  rw [this]
  omega
theorem amount_noneD {es : List Ent} {o s : Int} (h : ∀ x ∈ es, ¬ (x.o = o ∧ x.s = s)) : amount es o s = 0 := by
  induction es with
  | nil => rfl
  | cons x r ih =>
    rw [amount, if_neg (h x (List.mem_cons_self ..))]
    exact ih (fun y hy => h y (List.mem_cons_of_mem _ hy))
theorem hsum_put {es : List Ent} {e : Ent} (hu : Up es) (he : e.ok = true) (node : Int) : hsumD (putE es e) node = hsumD es node + contribD e node - contribD ⟨e.o, e.s, amount es e.o e.s, 0⟩ node := by
  induction es with
  | nil =>
    simp only [putE, hsumD, amount, contribD]
    split
    · omega
    · split <;> omega
  | cons x r ih =>
    have hh := hu.head
    have hk := key_sameD hh.1 he
    rw [putE]
    split
    · rename_i hlt
      have hne : ¬ (x.o = e.o ∧ x.s = e.s) := fun h => by have := hk.2 h; omega
      rw [hsumD, hsumD, ih hu.tail, amount, if_neg hne]
      omega
    · split
      · rename_i heq
        have hs := hk.1 heq
        rw [hsumD, hsumD, amount, if_pos hs]
        have hc : contribD x node = contribD ⟨e.o, e.s, x.a, 0⟩ node := by
          unfold contribD
          rw [hs.1, hs.2]
        rw [hc]
        omega
      · rename_i h1 h2
        have ha : amount (x :: r) e.o e.s = 0 := amount_noneD fun y hy => by
          intro h
          have hyo : y.ok = true := hu.1 y hy
          have := (key_sameD hyo he).2 h
          rcases List.mem_cons.1 hy with rfl | hy
          · omega
          · have := hh.2 y hy; omega
        rw [ha, hsumD]
        simp only [contribD]
        split
        · omega
        · split <;> omega
theorem contribD_add (o s a m d x : Int) : contribD ⟨o, s, a + m, d⟩ x = contribD ⟨o, s, a, 0⟩ x + contribD ⟨o, s, m, 0⟩ x := by
  unfold contribD
  by_cases h1 : s = x
  · simp only [if_pos h1]
  · by_cases h2 : o = x
    · simp only [if_neg h1, if_pos h2]
      omega
    · simp only [if_neg h1, if_neg h2]
      omega
theorem deed_held {es : List Ent} {k n t m : Int} (hb : bookOk es = true) (he : (deedEnt es k n t m).ok = true) (node : Int) : held (putE es (deedEnt es k n t m)) node = held es node + contribD ⟨n, slotOf k n t, m, 0⟩ node := by
  rw [held_sumD, held_sumD, hsum_put (book_up hb) he]
  show hsumD es node + contribD ⟨n, slotOf k n t, amount es n (slotOf k n t) + m, mx es n + 1⟩ node - contribD ⟨n, slotOf k n t, amount es n (slotOf k n t), 0⟩ node = hsumD es node + contribD ⟨n, slotOf k n t, m, 0⟩ node
  rw [contribD_add]
  omega
theorem deed_book {es : List Ent} {k n t m : Int} (hb : bookOk es = true) (he : (deedEnt es k n t m).ok = true) : bookOk (putE es (deedEnt es k n t m)) = true := by
  refine put_book hb he (fun x hx ho hd => ?_)
  have h1 := mx_ge hx
  have h2 : x.o = n := ho
  have h3 : x.d = mx es n + 1 := hd
  rw [h2] at h1
  omega
theorem sound_parts {es : List Ent} (h : soundE es = true) : bookOk es = true ∧ HeldUp es 4 := by
  simp only [soundE, Bool.and_eq_true, decide_eq_true_eq] at h
  exact h
theorem sound_of {es : List Ent} (h1 : bookOk es = true) (h2 : HeldUp es 4) : soundE es = true := by
  simp only [soundE, Bool.and_eq_true, decide_eq_true_eq]
  exact ⟨h1, h2⟩
theorem deed_sound {es : List Ent} {k n t m : Int} (hs : soundE es = true) (hd : deedOk k n t m = true) : soundE (doneR es k n t m).1 = true := by
  obtain ⟨hb, hu⟩ := sound_parts hs
  unfold doneR
  split
  · exact hs
  · rename_i hsh
    split
    · rename_i hok
      refine sound_of (deed_book hb hok) (fun i hi => ?_)
      have h0 := hu i hi
      show 0 ≤ held (putE es (deedEnt es k n t m)) (i : Int)
      rw [deed_held hb hok]
      have hd' : (0 ≤ n ∧ n ≤ 3) ∧ (1 ≤ m ∧ m ≤ 1000000) ∧ ((k = 1 ∨ k = 3) ∨ (k = 2 ∧ (0 ≤ t ∧ t ≤ 3) ∧ ¬ t = n)) := by
        simp only [deedOk, inB, Bool.and_eq_true, decide_eq_true_eq] at hd
        refine ⟨hd.1.1, hd.1.2, ?_⟩
        have h2 := hd.2
        by_cases hk : k = 1 ∨ k = 3
        · exact .inl hk
        · rw [if_neg hk] at h2
          by_cases hk2 : k = 2
          · rw [if_pos hk2] at h2
            simp at h2
            exact .inr ⟨hk2, h2.1, h2.2⟩
          · rw [if_neg hk2] at h2
            cases h2
      have hn : ¬ k = 1 → m ≤ held es n := fun hk => by
        have : ¬ held es n < m := fun h => hsh ⟨hk, h⟩
        omega
      obtain ⟨hn3, hm, hkk⟩ := hd'
      simp only [contribD, slotOf]
      rcases hkk with (rfl | rfl) | ⟨rfl, ht, htn⟩
      · rw [if_pos rfl]
        by_cases hni : n = i
        · rw [if_pos hni]
          omega
        · rw [if_neg hni]
          simp only [hni, if_false]
          omega
      · have hh := hn (by omega)
        rw [if_neg (by omega : ¬ (3 : Int) = 1), if_neg (by omega : ¬ (3 : Int) = 2), if_neg (by omega)]
        split
        · rename_i hni
          rw [hni] at hh
          omega
        · omega
      · have hh := hn (by omega)
        rw [if_neg (by omega : ¬ (2 : Int) = 1), if_pos rfl]
        split
        · omega
        · split
          · rename_i hni
            rw [hni] at hh
            omega
          · omega
    · exact hs
end Go.Proofs.YtccoljbnddfmpaaGreatDoor
