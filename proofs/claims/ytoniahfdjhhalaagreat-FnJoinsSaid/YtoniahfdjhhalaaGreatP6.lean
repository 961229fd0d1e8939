/- Texts of this claim, put together. -/
import Derived.Test.YtoniahfdjhhalaaGreatP1
import Derived.Test.YtoniahfdjhhalaaGreatP4

namespace Go.Proofs.YtoniahfdjhhalaaGreat
open Go.RowKit
def entryOk (o s a d : Int) : Bool := decide (0 ≤ o ∧ o ≤ 3 ∧ 0 ≤ s ∧ s ≤ 4 ∧ 1 ≤ a ∧ a ≤ 1000000 ∧ 1 ≤ d ∧ d ≤ 100000)
def keyOf (o s a d : Int) : Int := if entryOk o s a d = true then 5 * o + s else -1
def Says (v : Value) (w : World) (e : Ending) (w' : World) : Prop := e = .returned v ∧ Below w.heap.size w w'
set_option maxHeartbeats 400000 in
theorem isNode_any (x : Int) (w : World) :
    Calls Tryz.prog 67 #[.int .i64 x] w fun e w' => e = .returned (.bool (inB x 0 3)) ∧ w' = w := by
  by_cases h1 : 0 ≤ x
  · go_enter Tryz.func67, Tryz.ntmps67
    go_wp2
    go_ret
    exact ⟨ret_bool (by simp only [inB]; congr 1; exact propext (by omega)), rfl⟩
  · go_enter Tryz.func67, Tryz.ntmps67
    go_wp2
    go_ret
    exact ⟨ret_bool (by rw [inB, decide_eq_false (by omega)]), rfl⟩
set_option maxHeartbeats 400000 in
theorem isFromOne_any (x m : Int) (w : World) :
    Calls Tryz.prog 68 #[.int .i64 x, .int .i64 m] w fun e w' => e = .returned (.bool (inB x 1 m)) ∧ w' = w := by
  by_cases h1 : 1 ≤ x
  · go_enter Tryz.func68, Tryz.ntmps68
    go_wp2
    go_ret
    exact ⟨ret_bool (by simp only [inB]; congr 1; exact propext (by omega)), rfl⟩
  · go_enter Tryz.func68, Tryz.ntmps68
    go_wp2
    go_ret
    exact ⟨ret_bool (by rw [inB, decide_eq_false (by omega)]), rfl⟩
def kindOf (o s : Int) : Int := if s = 4 then 2 else if s = o then 0 else 1
set_option maxHeartbeats 400000 in
theorem l3Node_any (x : Int) (w : World) :
    Calls Tryz.prog 45 #[.int .i64 x] w fun e w' => e = .returned (.bool (inB x 0 3)) ∧ w' = w := by
  go_enter Tryz.func45, Tryz.ntmps45
  go_wp2_with (go_at_call 47; refine (l1In_any _ _ _ _).mono ?_; rintro e w' ⟨rfl, rfl⟩)
  go_ret
  exact ⟨rfl, rfl⟩
set_option maxHeartbeats 400000 in
theorem l3Slot_any (x : Int) (w : World) :
    Calls Tryz.prog 46 #[.int .i64 x] w fun e w' => e = .returned (.bool (inB x 0 4)) ∧ w' = w := by
  go_enter Tryz.func46, Tryz.ntmps46
  go_wp2_with (go_at_call 47; refine (l1In_any _ _ _ _).mono ?_; rintro e w' ⟨rfl, rfl⟩)
  go_ret
  exact ⟨rfl, rfl⟩
theorem says_box {v u : Value} {w : World} (cs : Array Value) (t : TypeId) (h : u = v) : Says v w (.returned u) (w.alloc (.cells cs t)) := by
  subst h
  exact ⟨rfl, (Below.refl _ _).alloc (Nat.le_refl _) _⟩
set_option maxHeartbeats 400000 in
theorem kindOf_any (o s a d : Int) (w : World) :
    Calls Tryz.prog 66 #[.agg #[.int .i64 o, .int .i64 s, .int .i64 a, .int .i64 d]] w (Says (.int .i64 (kindOf o s)) w) := by
  by_cases h1 : s = 4
  · go_enter Tryz.func66, Tryz.ntmps66
    go_wp2
    go_ret
    exact says_box _ _ (by rw [kindOf, if_pos h1]; rfl)
  · by_cases h2 : s = o
    · go_enter Tryz.func66, Tryz.ntmps66
      go_wp2
      go_ret
      exact says_box _ _ (by rw [kindOf, if_neg h1, if_pos h2]; rfl)
    · go_enter Tryz.func66, Tryz.ntmps66
      go_wp2
      go_ret
      exact says_box _ _ (by simp [kindOf, h1, h2])
set_option maxHeartbeats 1000000 in
theorem specEntryOk_any (o s a d : Int) (w : World) :
    Calls Tryz.prog 35 #[.agg #[.int .i64 o, .int .i64 s, .int .i64 a, .int .i64 d]] w (Says (.bool (entryOk o s a d)) w) := by
  have he : entryOk o s a d = (inB o 0 3 && inB s 0 4 && inB a 1 1000000 && inB d 1 100000) := by
    simp only [entryOk, inB]
    rw [Bool.eq_iff_iff]
    simp only [Bool.and_eq_true, decide_eq_true_eq]
    omega
  rw [he]
  clear he
  have h1 : ∀ w, Calls Tryz.prog 45 #[.int .i64 o] w fun e w' => e = .returned (.bool (inB o 0 3)) ∧ w' = w := fun w => l3Node_any o w
  have h2 : ∀ w, Calls Tryz.prog 46 #[.int .i64 s] w fun e w' => e = .returned (.bool (inB s 0 4)) ∧ w' = w := fun w => l3Slot_any s w
  have h3 : ∀ w, Calls Tryz.prog 47 #[.int .i64 a, .int .i64 1, .int .i64 1000000] w fun e w' => e = .returned (.bool (inB a 1 1000000)) ∧ w' = w := fun w => l1In_any _ _ _ w
  have h4 : ∀ w, Calls Tryz.prog 47 #[.int .i64 d, .int .i64 1, .int .i64 100000] w fun e w' => e = .returned (.bool (inB d 1 100000)) ∧ w' = w := fun w => l1In_any _ _ _ w
  generalize inB o 0 3 = b1 at h1 ⊢
  generalize inB s 0 4 = b2 at h2 ⊢
  generalize inB a 1 1000000 = b3 at h3 ⊢
  generalize inB d 1 100000 = b4 at h4 ⊢
  go_enter Tryz.func35, Tryz.ntmps35
  go_wp2_with fail
  refine (h1 _).mono ?_
  rintro e w' ⟨rfl, rfl⟩
  rcases b1 with _ | _
  · go_wp2_with fail
    go_ret
    exact says_box _ _ rfl
  · go_wp2_with fail
    refine (h2 _).mono ?_
    rintro e w' ⟨rfl, rfl⟩
    rcases b2 with _ | _
    · go_wp2_with fail
      go_ret
      exact says_box _ _ rfl
    · go_wp2_with fail
      refine (h3 _).mono ?_
      rintro e w' ⟨rfl, rfl⟩
      rcases b3 with _ | _
      · go_wp2_with fail
        go_ret
        exact says_box _ _ rfl
      · go_wp2_with fail
        refine (h4 _).mono ?_
        rintro e w' ⟨rfl, rfl⟩
        rcases b4 with _ | _
        all_goals
          go_wp2_with fail
          go_ret
          exact says_box _ _ rfl
theorem kind_2 {o s : Int} (h : kindOf o s = 2) : s = 4 := by
  unfold kindOf at h
  split at h
  · assumption
  · split at h <;> omega
theorem kind_0 {o s : Int} (h : kindOf o s = 0) : s = o := by
  unfold kindOf at h
  split at h
  · omega
  · split at h
    · assumption
    · omega
theorem kind_1 {o s : Int} (h : kindOf o s = 1) : s ≠ 4 := by
  unfold kindOf at h
  split at h
  · omega
  · assumption
theorem kind_lo (o s : Int) : kindOf o s = 0 ∨ kindOf o s = 1 ∨ kindOf o s = 2 := by
  unfold kindOf
  split
  · omega
  · split <;> omega
theorem entryOk_slot {o s a d : Int} (h : s = 4 ∨ s = o ∨ inB s 0 3 = true) : entryOk o s a d = (inB o 0 3 && inB a 1 1000000 && inB d 1 100000) := by
  simp only [inB, decide_eq_true_eq] at h
  simp only [entryOk, inB]
  rw [Bool.eq_iff_iff]
  simp only [Bool.and_eq_true, decide_eq_true_eq]
  omega
theorem entryOk_noslot {o s a d : Int} (h : s ≠ 4) (h2 : inB s 0 3 = false) : entryOk o s a d = false := by
  simp only [inB, decide_eq_false_iff_not] at h2
  simp only [entryOk, decide_eq_false_iff_not]
  omega
set_option maxHeartbeats 1000000 in
theorem implEntryOk_any (o s a d : Int) (w : World) :
    Calls Tryz.prog 44 #[.agg #[.int .i64 o, .int .i64 s, .int .i64 a, .int .i64 d]] w (Says (.bool (entryOk o s a d)) w) := by
  have h0 := fun w => kindOf_any o s a d w
  have hk := kind_lo o s
  have hs : ∀ w, Calls Tryz.prog 67 #[.int .i64 s] w fun e w' => e = .returned (.bool (inB s 0 3)) ∧ w' = w := fun w => isNode_any s w
  have h1 : ∀ w, Calls Tryz.prog 67 #[.int .i64 o] w fun e w' => e = .returned (.bool (inB o 0 3)) ∧ w' = w := fun w => isNode_any o w
  have h3 : ∀ w, Calls Tryz.prog 68 #[.int .i64 a, .int .i64 1000000] w fun e w' => e = .returned (.bool (inB a 1 1000000)) ∧ w' = w := fun w => isFromOne_any _ _ w
  have h4 : ∀ w, Calls Tryz.prog 68 #[.int .i64 d, .int .i64 100000] w fun e w' => e = .returned (.bool (inB d 1 100000)) ∧ w' = w := fun w => isFromOne_any _ _ w
  have hgood : s = 4 ∨ s = o ∨ inB s 0 3 = true → entryOk o s a d = (inB o 0 3 && inB a 1 1000000 && inB d 1 100000) := fun h => entryOk_slot h
  have hbad : kindOf o s = 1 → inB s 0 3 = false → entryOk o s a d = false := fun h h2 => entryOk_noslot (kind_1 h) h2
  have hk0 : kindOf o s = 0 → s = o := kind_0
  have hk2 : kindOf o s = 2 → s = 4 := kind_2
  have HG := Lib.hid hgood; have HB := Lib.hid hbad; have H0 := Lib.hid hk0; have H2 := Lib.hid hk2
  clear hgood hbad hk0 hk2
  generalize kindOf o s = kk at h0 hk HB H0 H2
  generalize inB s 0 3 = bs at hs HG HB
  generalize inB o 0 3 = b1 at h1 HG
  generalize inB a 1 1000000 = b3 at h3 HG
  generalize inB d 1 100000 = b4 at h4 HG
  generalize entryOk o s a d = r at HG HB ⊢
  rcases hk with rfl | rfl | rfl
  · have e := HG.out (.inr (.inl (H0.out rfl)))
    subst e
    clear HG HB H0 H2
    go_enter Tryz.func44, Tryz.ntmps44
    go_wp2_with fail
    refine (h0 _).mono ?_
    rintro e w1 ⟨rfl, hb1⟩
    have hbb := ((Below.refl w.heap.size w).alloc (Nat.le_refl _) (Obj.cells #[.int .i64 o, .int .i64 s, .int .i64 a, .int .i64 d] 47)).trans (hb1.mono (by simp))
    have hc0 := (hb1.cell (p := ⟨w.heap.size, 0, none⟩) (by simp)).trans (show _ = some (Value.int .i64 o) by go_simp)
    have hc1 := (hb1.cell (p := ⟨w.heap.size, 1, none⟩) (by simp)).trans (show _ = some (Value.int .i64 s) by go_simp)
    have hc2 := (hb1.cell (p := ⟨w.heap.size, 2, none⟩) (by simp)).trans (show _ = some (Value.int .i64 a) by go_simp)
    have hc3 := (hb1.cell (p := ⟨w.heap.size, 3, none⟩) (by simp)).trans (show _ = some (Value.int .i64 d) by go_simp)
    clear hb1
    go_wp2_with fail
    refine (h1 _).mono ?_
    rintro e w' ⟨rfl, rfl⟩
    rcases b1 with _ | _
    · go_wp2_with fail
      go_ret
      exact ⟨rfl, hbb⟩
    · go_wp2_with fail
      refine (h3 _).mono ?_
      rintro e w' ⟨rfl, rfl⟩
      rcases b3 with _ | _
      · go_wp2_with fail
        go_ret
        exact ⟨rfl, hbb⟩
      · go_wp2_with fail
        refine (h4 _).mono ?_
        rintro e w' ⟨rfl, rfl⟩
        rcases b4 with _ | _
        all_goals
          go_wp2_with fail
          go_ret
          exact ⟨rfl, hbb⟩
  · rcases bs with _ | _
    · have e := HB.out rfl rfl
      subst e
      clear HG HB H0 H2
      go_enter Tryz.func44, Tryz.ntmps44
      go_wp2_with fail
      refine (h0 _).mono ?_
      rintro e w1 ⟨rfl, hb1⟩
      have hbb := ((Below.refl w.heap.size w).alloc (Nat.le_refl _) (Obj.cells #[.int .i64 o, .int .i64 s, .int .i64 a, .int .i64 d] 47)).trans (hb1.mono (by simp))
      have hc0 := (hb1.cell (p := ⟨w.heap.size, 0, none⟩) (by simp)).trans (show _ = some (Value.int .i64 o) by go_simp)
      have hc1 := (hb1.cell (p := ⟨w.heap.size, 1, none⟩) (by simp)).trans (show _ = some (Value.int .i64 s) by go_simp)
      have hc2 := (hb1.cell (p := ⟨w.heap.size, 2, none⟩) (by simp)).trans (show _ = some (Value.int .i64 a) by go_simp)
      have hc3 := (hb1.cell (p := ⟨w.heap.size, 3, none⟩) (by simp)).trans (show _ = some (Value.int .i64 d) by go_simp)
      clear hb1
      go_wp2_with fail
      refine (hs _).mono ?_
      rintro e w' ⟨rfl, rfl⟩
      go_wp2_with fail
      go_ret
      exact ⟨rfl, hbb⟩
    · have e := HG.out (.inr (.inr rfl))
      subst e
      clear HG HB H0 H2
      go_enter Tryz.func44, Tryz.ntmps44
      go_wp2_with fail
      refine (h0 _).mono ?_
      rintro e w1 ⟨rfl, hb1⟩
      have hbb := ((Below.refl w.heap.size w).alloc (Nat.le_refl _) (Obj.cells #[.int .i64 o, .int .i64 s, .int .i64 a, .int .i64 d] 47)).trans (hb1.mono (by simp))
      have hc0 := (hb1.cell (p := ⟨w.heap.size, 0, none⟩) (by simp)).trans (show _ = some (Value.int .i64 o) by go_simp)
      have hc1 := (hb1.cell (p := ⟨w.heap.size, 1, none⟩) (by simp)).trans (show _ = some (Value.int .i64 s) by go_simp)
      have hc2 := (hb1.cell (p := ⟨w.heap.size, 2, none⟩) (by simp)).trans (show _ = some (Value.int .i64 a) by go_simp)
      have hc3 := (hb1.cell (p := ⟨w.heap.size, 3, none⟩) (by simp)).trans (show _ = some (Value.int .i64 d) by go_simp)
      clear hb1
      go_wp2_with fail
      refine (hs _).mono ?_
      rintro e w' ⟨rfl, rfl⟩
      go_wp2_with fail
      refine (h1 _).mono ?_
      rintro e w' ⟨rfl, rfl⟩
      rcases b1 with _ | _
      · go_wp2_with fail
        go_ret
        exact ⟨rfl, hbb⟩
      · go_wp2_with fail
        refine (h3 _).mono ?_
        rintro e w' ⟨rfl, rfl⟩
        rcases b3 with _ | _
        · go_wp2_with fail
          go_ret
          exact ⟨rfl, hbb⟩
        · go_wp2_with fail
          refine (h4 _).mono ?_
          rintro e w' ⟨rfl, rfl⟩
          rcases b4 with _ | _
          all_goals
            go_wp2_with fail
            go_ret
            exact ⟨rfl, hbb⟩
  · have e := HG.out (.inl (H2.out rfl))
    subst e
    clear HG HB H0 H2
    go_enter Tryz.func44, Tryz.ntmps44
    go_wp2_with fail
    refine (h0 _).mono ?_
    rintro e w1 ⟨rfl, hb1⟩
    have hbb := ((Below.refl w.heap.size w).alloc (Nat.le_refl _) (Obj.cells #[.int .i64 o, .int .i64 s, .int .i64 a, .int .i64 d] 47)).trans (hb1.mono (by simp))
    have hc0 := (hb1.cell (p := ⟨w.heap.size, 0, none⟩) (by simp)).trans (show _ = some (Value.int .i64 o) by go_simp)
    have hc1 := (hb1.cell (p := ⟨w.heap.size, 1, none⟩) (by simp)).trans (show _ = some (Value.int .i64 s) by go_simp)
    have hc2 := (hb1.cell (p := ⟨w.heap.size, 2, none⟩) (by simp)).trans (show _ = some (Value.int .i64 a) by go_simp)
    have hc3 := (hb1.cell (p := ⟨w.heap.size, 3, none⟩) (by simp)).trans (show _ = some (Value.int .i64 d) by go_simp)
    clear hb1
    go_wp2_with fail
    refine (h1 _).mono ?_
    rintro e w' ⟨rfl, rfl⟩
    rcases b1 with _ | _
    · go_wp2_with fail
      go_ret
      exact ⟨rfl, hbb⟩
    · go_wp2_with fail
      refine (h3 _).mono ?_
      rintro e w' ⟨rfl, rfl⟩
      rcases b3 with _ | _
      · go_wp2_with fail
        go_ret
        exact ⟨rfl, hbb⟩
      · go_wp2_with fail
        refine (h4 _).mono ?_
        rintro e w' ⟨rfl, rfl⟩
        rcases b4 with _ | _
        all_goals
          go_wp2_with fail
          go_ret
          exact ⟨rfl, hbb⟩
structure Ent where
  o : Int
  s : Int
  a : Int
  d : Int
theorem Ent.same {x y : Ent} (h0 : x.o = y.o) (h1 : x.s = y.s) (h2 : x.a = y.a) (h3 : x.d = y.d) : x = y := by
  obtain ⟨a, b, c, d⟩ := x
  obtain ⟨a', b', c', d'⟩ := y
  simp only at h0 h1 h2 h3
  subst h0 h1 h2 h3
  rfl
instance : DecidableEq Ent := fun x y =>
  decidable_of_iff (x.o = y.o ∧ x.s = y.s ∧ x.a = y.a ∧ x.d = y.d) ⟨fun h => Ent.same h.1 h.2.1 h.2.2.1 h.2.2.2, fun h => by rw [h]; exact ⟨rfl, rfl, rfl, rfl⟩⟩
def Ent.cells (e : Ent) : List Value := [.int .i64 e.o, .int .i64 e.s, .int .i64 e.a, .int .i64 e.d]
def Ent.val (e : Ent) : Value := .agg #[.int .i64 e.o, .int .i64 e.s, .int .i64 e.a, .int .i64 e.d]
def Ent.wf (e : Ent) : Prop := I64 e.o ∧ I64 e.s ∧ I64 e.a ∧ I64 e.d
def zeroE : Ent := ⟨0, 0, 0, 0⟩
def AllE (es : List Ent) : Prop := ∀ e ∈ es, e.wf
def E (es : List Ent) (i : Nat) : Ent := es.getD i zeroE
theorem E_get {es : List Ent} {i : Nat} (h : i < es.length) : E es i = es[i] := by simp [E, List.getD, h]
def flatE (es : List Ent) : List Value := es.flatMap Ent.cells
theorem flatE_len (es : List Ent) : (flatE es).length = es.length * 4 := by
  induction es with
  | nil => rfl
  | cons e r ih => simp [flatE, List.flatMap_cons, Ent.cells] at *; omega
theorem flatE_append (xs ys : List Ent) : flatE (xs ++ ys) = flatE xs ++ flatE ys := by simp [flatE]
theorem flatE_one (e : Ent) : flatE [e] = e.cells := by simp [flatE]
theorem flatE_get (es : List Ent) (j k : Nat) (hj : j < es.length) (hk : k < 4) : (flatE es)[j * 4 + k]? = (E es j).cells[k]? := by
  induction es generalizing j with
  | nil => simp at hj
  | cons e r ih =>
    rw [show flatE (e :: r) = e.cells ++ flatE r from by simp [flatE]]
    cases j with
    | zero => rw [List.getElem?_append_left (by simp [Ent.cells]; omega)]; simp [E]
    | succ j =>
      rw [List.getElem?_append_right (by simp [Ent.cells]; omega)]
      have e1 : (j + 1) * 4 + k - e.cells.length = j * 4 + k := by simp [Ent.cells]; omega
      rw [e1, ih j (by simpa using hj)]
      simp [E]
structure Ent4 (w : World) (b o : Nat) (e : Ent) : Prop where
  h0 : w.cell? ⟨b, o, none⟩ = some (.int .i64 e.o)
  h1 : w.cell? ⟨b, o + 1, none⟩ = some (.int .i64 e.s)
  h2 : w.cell? ⟨b, o + 2, none⟩ = some (.int .i64 e.a)
  h3 : w.cell? ⟨b, o + 3, none⟩ = some (.int .i64 e.d)
structure Ents (B : Nat) (w : World) (ao : Option Addr) (n cap : Nat) (es : List Ent) : Prop where
  hlen : es.length = n
  hcap : n ≤ cap
  hmax : cap ≤ maxLen
  cell : ∀ j, j < n → ∃ b off, ao = some ⟨b, off, none⟩ ∧ b < B ∧ Ent4 w b (off + j * 4) (E es j)
  wf : AllE es
theorem Ent4.below {C b o : Nat} {w w' : World} {e : Ent} (h : Ent4 w b o e) (hb : Below C w w') (hC : b < C) : Ent4 w' b o e :=
  ⟨(hb.cell (p := ⟨b, o, none⟩) hC).trans h.h0, (hb.cell (p := ⟨b, o + 1, none⟩) hC).trans h.h1, (hb.cell (p := ⟨b, o + 2, none⟩) hC).trans h.h2, (hb.cell (p := ⟨b, o + 3, none⟩) hC).trans h.h3⟩
theorem Ents.below {B B' C : Nat} {w w' : World} {ao : Option Addr} {n cap : Nat} {es : List Ent} (h : Ents B w ao n cap es) (hb : Below C w w') (hC : B ≤ C) (hB : B ≤ B') : Ents B' w' ao n cap es :=
  ⟨h.hlen, h.hcap, h.hmax, fun j hj => by
    obtain ⟨b, off, e, hlt, hc⟩ := h.cell j hj
    exact ⟨b, off, e, by omega, hc.below hb (by omega)⟩, h.wf⟩
theorem Ents.at {B : Nat} {w : World} {ao : Option Addr} {n cap : Nat} {es : List Ent} (h : Ents B w ao n cap es) (k : Nat) (hk : k < n) :
    ∃ b off, ao = some ⟨b, off, none⟩ ∧ b < B ∧ ∀ j, j < n → Ent4 w b (off + j * 4) (E es j) := by
  obtain ⟨b, off, e, hb, _⟩ := h.cell k hk
  refine ⟨b, off, e, hb, fun j hj => ?_⟩
  obtain ⟨b', off', e', _, hc⟩ := h.cell j hj
  rw [e] at e'
  cases e'
  exact hc
def OwnE (base : Nat) (w : World) (v : Value) (es : List Ent) : Prop :=
  w.ownsRow base 47 4 v es.length (flatE es)
theorem OwnE.ents {base : Nat} {w : World} {v : Value} {es : List Ent} (h : OwnE base w v es) (hx : AllE es) : ∃ ao cap, v = .slice ao es.length cap ∧ Ents w.heap.size w ao es.length cap es ∧ (ao = none → cap = 0) := by
  obtain ⟨h1, h2⟩ := h
  rcases h2 with ⟨rfl, h3⟩ | ⟨g, cap, cur, rfl, hb, hg, hn, hm, hs, ht⟩
  · have : es = [] := List.eq_nil_of_length_eq_zero h3
    subst this
    exact ⟨none, 0, rfl, ⟨rfl, Nat.le_refl _, by unfold maxLen; omega, fun j hj => by simp at hj, hx⟩, fun _ => rfl⟩
  · refine ⟨some ⟨g, 0, none⟩, cap, rfl, ⟨rfl, hn, hm, fun j hj => ⟨g, 0, rfl, (Array.getElem?_eq_some_iff.1 hg).1, ?_⟩, hx⟩, fun h => by cases h⟩
    have hc : ∀ k, k < 4 → w.cell? ⟨g, 0 + j * 4 + k, none⟩ = (E es j).cells[k]? := fun k hk => by
      rw [Nat.zero_add, cell_of_row w g (j * 4 + k) cur _ (0, 0) hg, ← flatE_get es j k hj hk, ← ht, List.getElem?_take, if_pos (by omega)]
      simp
    exact ⟨hc 0 (by omega), hc 1 (by omega), hc 2 (by omega), hc 3 (by omega)⟩
theorem OwnE.below {base C : Nat} {w w' : World} {v : Value} {es : List Ent} (h : OwnE base w v es) (hb : Below C w w') (hC : w.heap.size ≤ C) : OwnE base w' v es := by
  refine ⟨h.1, ?_⟩
  rcases h.2 with h3 | ⟨g, cap, cur, hv, hg, hh, r⟩
  · exact .inl h3
  · exact .inr ⟨g, cap, cur, hv, hg, by rw [hb.block g (by have := (Array.getElem?_eq_some_iff.1 hh).1; omega)]; exact hh, r⟩
theorem OwnE.mono {base base' : Nat} {w : World} {v : Value} {es : List Ent} (h : OwnE base w v es) (hb : base' ≤ base) : OwnE base' w v es := by
  refine ⟨h.1, ?_⟩
  rcases h.2 with h3 | ⟨g, cap, cur, hv, hg, r⟩
  · exact .inl h3
  · exact .inr ⟨g, cap, cur, hv, by omega, r⟩
theorem OwnE.alloc {base : Nat} {w : World} {v : Value} {es : List Ent} (h : OwnE base w v es) (o : Obj) : OwnE base (w.alloc o) v es := World.ownsRow.alloc h o
theorem infoE : (Tryz.prog.info? 47).map (fun i => (i.zero, i.size, i.bytes)) = some (some (.agg #[.int .i64 0, .int .i64 0, .int .i64 0, .int .i64 0]), 4, 32) := by kernel_rfl
theorem flatE_oneCell (es : List Ent) : ∀ u ∈ flatE es, u.oneCell' = true := by
  intro u hu
  simp only [flatE, List.mem_flatMap, Ent.cells] at hu
  obtain ⟨e, _, he⟩ := hu
  simp at he
  rcases he with rfl | rfl | rfl | rfl <;> rfl
theorem ownE_nil (B : Nat) (w : World) : OwnE B w (.slice none 0 0) [] := World.ownsRow_nil w B 47 4
theorem ownE_empty (w : World) : OwnE w.heap.size (w.alloc (.cells #[] 47)) (.slice (some ⟨w.heap.size, 0, none⟩) 0 0) [] := World.ownsRow_lit w #[] 0 (Nat.le_refl _) (by unfold maxLen; omega) rfl
theorem appendE_one {ops : Array Oper} {rest : List Oper} {o : Oper} {a : Act} {Q : Exit → Act → World → Prop} {w : World} (y : Ent)
    (hgd : o.guard = none) (s x : Operand) (ho : o.op = .call { callee := .builtin .append, args := #[s, x], argTypes := #[24, 24] })
    (B : Nat) (v : Value) (es : List Ent) (hs : a.eval s = v) (hx : a.eval x = .slice (some ⟨w.heap.size, 0, none⟩) 1 1)
    (hown : OwnE B w v es) (hB : B ≤ w.heap.size) (hlen : es.length ≤ 1099511627776)
    (hK : ∀ v' w', OwnE B w' v' (es ++ [y]) → Below B w w' → wpList Tryz.prog ops Q rest (a.put o.dst v') w') :
    wpList Tryz.prog ops Q (o :: rest) a (w.alloc (.cells #[.int .i64 y.o, .int .i64 y.s, .int .i64 y.a, .int .i64 y.d] 47)) := by
  obtain ⟨i0, hi, hz0, hz1, hz2⟩ := info_parts infoE
  refine wpList_append_own _ hgd s x 24 ho B 47 i0 _ 4 32 Tryz.underlying24 hi hz0 hz1 hz2 rfl (by decide) v es.length (flatE es) hs (World.ownsRow.alloc hown _)
    ⟨w.heap.size, 0, none⟩ 1 1 (flatE [y]) hx rfl ?c1 (flatE_oneCell _) ?c3 ?c4 ?c5 ?_
  case c1 =>
    intro j u hu
    rw [Addr.add_lit, Nat.zero_add, cell_of_row _ _ j #[.int .i64 y.o, .int .i64 y.s, .int .i64 y.a, .int .i64 y.d] 47 (0, 0) (heap_alloc_new w _)]
    rw [flatE_one] at hu
    simpa [Ent.cells] using hu
  case c3 => unfold maxLen; omega
  case c4 => omega
  case c5 => simp; omega
  intro v' w' hown' hgrow _
  refine hK v' w' ?_ ?_
  · unfold OwnE
    rw [List.length_append, flatE_append]
    exact hown'
  · refine ((Below.refl B w).alloc hB _).grown hgrow (by simp; omega) ?_
    intro k hk
    exact (World.ownsRow.lt hown k hk).1
theorem appendE_all {ops : Array Oper} {rest : List Oper} {o : Oper} {a : Act} {Q : Exit → Act → World → Prop} {w : World}
    (hgd : o.guard = none) (s x : Operand) (ho : o.op = .call { callee := .builtin .append, args := #[s, x], argTypes := #[24, 24] })
    (B C : Nat) (v : Value) (xs ys : List Ent) (ao : Option Addr) (n cap : Nat) (hs : a.eval s = v) (hx : a.eval x = .slice ao n cap) (hi : Ents C w ao n cap ys) (hz : ao = none → cap = 0)
    (hown : OwnE B w v xs) (hB : B ≤ w.heap.size) (hlen : xs.length + n ≤ 1099511627776)
    (hK : ∀ v' w', OwnE B w' v' (xs ++ ys) → Below B w w' → wpList Tryz.prog ops Q rest (a.put o.dst v') w') :
    wpList Tryz.prog ops Q (o :: rest) a w := by
  obtain ⟨i0, hi0, hz0, hz1, hz2⟩ := info_parts infoE
  have hyl := hi.hlen
  cases ao with
  | none =>
    have hc0 := hz rfl
    have hn0 : n = 0 := by have := hi.hcap; omega
    subst hc0 hn0
    have hys : ys = [] := List.eq_nil_of_length_eq_zero hyl
    subst hys
    refine wpList_append_own_none hgd s x 24 ho B 47 i0 4 Tryz.underlying24 hi0 v xs.length (flatE xs) hs hown hx ?_
    exact hK v w (by rw [List.append_nil]; exact hown) (Below.refl _ _)
  | some ad =>
    refine wpList_append_own _ hgd s x 24 ho B 47 i0 _ 4 32 Tryz.underlying24 hi0 hz0 hz1 hz2 rfl (by decide) v xs.length (flatE xs) hs hown
      ad n cap (flatE ys) hx (by rw [flatE_len, hyl]) ?c1 (flatE_oneCell _) ?c3 ?c4 hB ?_
    case c1 =>
      intro j u hu
      have hj : j < n * 4 := by
        have := (List.getElem?_eq_some_iff.1 hu).1
        rwa [flatE_len, hyl] at this
      obtain ⟨b, off, e, _, hc⟩ := hi.cell (j / 4) (by omega)
      cases e
      have ej : j = j / 4 * 4 + j % 4 := by omega
      have hk : j % 4 < 4 := by omega
      rw [ej] at hu
      rw [flatE_get ys (j / 4) (j % 4) (by omega) hk] at hu
      rw [Addr.add_lit]
      have e2 : off + j = off + j / 4 * 4 + j % 4 := by omega
      rw [e2, ← hu]
      generalize j % 4 = k at hk
      have hk' : k = 0 ∨ k = 1 ∨ k = 2 ∨ k = 3 := by omega
      rcases hk' with rfl | rfl | rfl | rfl
      · exact hc.h0
      · exact hc.h1
      · exact hc.h2
      · exact hc.h3
    case c3 => unfold maxLen; omega
    case c4 => omega
    intro v' w' hown' hgrow _
    refine hK v' w' ?_ ?_
    · unfold OwnE
      rw [List.length_append, flatE_append, hyl]
      exact hown'
    · refine (Below.refl B w).grown hgrow hB ?_
      intro k hk
      exact (World.ownsRow.lt hown k hk).1
theorem Ents.take {B : Nat} {w : World} {ao : Option Addr} {n cap : Nat} {es : List Ent} (h : Ents B w ao n cap es) (k : Nat) (hk : k ≤ n) : Ents B w ao k cap (es.take k) := by
  have hl := h.hlen
  refine ⟨by rw [List.length_take]; omega, by have := h.hcap; omega, h.hmax, fun j hj => ?_, fun e he => h.wf e (List.mem_of_mem_take he)⟩
  obtain ⟨b, off, e, hb, hc⟩ := h.cell j (by omega)
  refine ⟨b, off, e, hb, ?_⟩
  have e2 : E (es.take k) j = E es j := by rw [E_get (by rw [List.length_take]; omega), E_get (by omega)]; simp
  rw [e2]
  exact hc
theorem Ents.drop {B : Nat} {w : World} {ao : Option Addr} {n cap : Nat} {es : List Ent} (h : Ents B w ao n cap es) (k : Nat) (hk : k ≤ n) :
    Ents B w (if cap = k then ao else ao.map (·.add (k * 4))) (n - k) (cap - k) (es.drop k) := by
  have hl := h.hlen
  have hc := h.hcap
  refine ⟨by rw [List.length_drop]; omega, by omega, by have := h.hmax; omega, fun j hj => ?_, fun e he => h.wf e (List.mem_of_mem_drop he)⟩
  obtain ⟨b, off, rfl, hb, hcell⟩ := h.cell (k + j) (by omega)
  rw [if_neg (by omega)]
  refine ⟨b, off + k * 4, by simp only [Option.map, Addr.add_lit], hb, ?_⟩
  have e2 : E (es.drop k) j = E es (k + j) := by rw [E_get (by rw [List.length_drop]; omega), E_get (by omega)]; simp
  have e3 : off + k * 4 + j * 4 = off + (k + j) * 4 := by omega
  rw [e2, e3]
  exact hcell
theorem drop_none {ao : Option Addr} {cap k : Nat} (hz : ao = none → cap = 0) : (if cap = k then ao else ao.map (·.add (k * 4))) = none → cap - k = 0 := by
  intro h
  split at h
  · omega
  · cases ao with
    | none => have := hz rfl; omega
    | some a => cases h
theorem keyOf_ok {o s a d : Int} (h : entryOk o s a d = true) : keyOf o s a d = 5 * o + s ∧ 0 ≤ o ∧ o ≤ 3 ∧ 0 ≤ s ∧ s ≤ 4 := by
  refine ⟨by rw [keyOf, if_pos h], ?_⟩
  simp only [entryOk, decide_eq_true_eq] at h
  omega
theorem keyOf_no {o s a d : Int} (h : entryOk o s a d = false) : keyOf o s a d = -1 := by rw [keyOf, h]; rfl
set_option maxHeartbeats 1000000 in
theorem implKeyOf_any (o s a d : Int) (w : World) :
    Calls Tryz.prog 34 #[.agg #[.int .i64 o, .int .i64 s, .int .i64 a, .int .i64 d]] w (Says (.int .i64 (keyOf o s a d)) w) := by
  have h0 := fun w => implEntryOk_any o s a d w
  have hy : entryOk o s a d = true → keyOf o s a d = 5 * o + s ∧ 0 ≤ o ∧ o ≤ 3 ∧ 0 ≤ s ∧ s ≤ 4 := keyOf_ok
  have hn : entryOk o s a d = false → keyOf o s a d = -1 := keyOf_no
  generalize entryOk o s a d = b at h0 hy hn
  generalize keyOf o s a d = k at hy hn
  rcases b with _ | _
  · have e := hn rfl
    subst e
    clear hy hn
    go_enter Tryz.func34, Tryz.ntmps34
    go_wp2_with fail
    refine (h0 _).mono ?_
    rintro e w1 ⟨rfl, hb1⟩
    have hbb := ((Below.refl w.heap.size w).alloc (Nat.le_refl _) (Obj.cells #[.int .i64 o, .int .i64 s, .int .i64 a, .int .i64 d] 47)).trans (hb1.mono (by simp))
    go_wp2_with fail
    go_ret
    exact ⟨rfl, hbb⟩
  · obtain ⟨rfl, ho0, ho1, hs0, hs1⟩ := hy rfl
    clear hn
    go_enter Tryz.func34, Tryz.ntmps34
    go_wp2_with fail
    refine (h0 _).mono ?_
    rintro e w1 ⟨rfl, hb1⟩
    have hbb := ((Below.refl w.heap.size w).alloc (Nat.le_refl _) (Obj.cells #[.int .i64 o, .int .i64 s, .int .i64 a, .int .i64 d] 47)).trans (hb1.mono (by simp))
    have hc0 := (hb1.cell (p := ⟨w.heap.size, 0, none⟩) (by simp)).trans (show _ = some (Value.int .i64 o) by go_simp)
    have hc1 := (hb1.cell (p := ⟨w.heap.size, 1, none⟩) (by simp)).trans (show _ = some (Value.int .i64 s) by go_simp)
    clear hb1
    go_wp2_with fail
    go_ret
    exact ⟨ret_int (by omega), hbb⟩
set_option maxHeartbeats 1000000 in
theorem specKeyOf_any (o s a d : Int) (w : World) :
    Calls Tryz.prog 23 #[.agg #[.int .i64 o, .int .i64 s, .int .i64 a, .int .i64 d]] w (Says (.int .i64 (keyOf o s a d)) w) := by
  have h0 := fun w => specEntryOk_any o s a d w
  have hy : entryOk o s a d = true → keyOf o s a d = 5 * o + s ∧ 0 ≤ o ∧ o ≤ 3 ∧ 0 ≤ s ∧ s ≤ 4 := keyOf_ok
  have hn : entryOk o s a d = false → keyOf o s a d = -1 := keyOf_no
  generalize entryOk o s a d = b at h0 hy hn
  generalize keyOf o s a d = k at hy hn
  rcases b with _ | _
  · have e := hn rfl
    subst e
    clear hy hn
    go_enter Tryz.func23, Tryz.ntmps23
    go_wp2_with fail
    refine (h0 _).mono ?_
    rintro e w1 ⟨rfl, hb1⟩
    have hbb := ((Below.refl w.heap.size w).alloc (Nat.le_refl _) (Obj.cells #[.int .i64 o, .int .i64 s, .int .i64 a, .int .i64 d] 47)).trans (hb1.mono (by simp))
    go_wp2_with fail
    go_ret
    exact ⟨rfl, hbb⟩
  · obtain ⟨rfl, ho0, ho1, hs0, hs1⟩ := hy rfl
    clear hn
    go_enter Tryz.func23, Tryz.ntmps23
    go_wp2_with fail
    refine (h0 _).mono ?_
    rintro e w1 ⟨rfl, hb1⟩
    have hbb := ((Below.refl w.heap.size w).alloc (Nat.le_refl _) (Obj.cells #[.int .i64 o, .int .i64 s, .int .i64 a, .int .i64 d] 47)).trans (hb1.mono (by simp))
    have hc0 := (hb1.cell (p := ⟨w.heap.size, 0, none⟩) (by simp)).trans (show _ = some (Value.int .i64 o) by go_simp)
    have hc1 := (hb1.cell (p := ⟨w.heap.size, 1, none⟩) (by simp)).trans (show _ = some (Value.int .i64 s) by go_simp)
    clear hb1
    go_wp2_with fail
    go_ret
    exact ⟨ret_int (by omega), hbb⟩
end Go.Proofs.YtoniahfdjhhalaaGreat

namespace Go.Proofs.YtoniahfdjhhalaaGreat
def Ent.ok (e : Ent) : Bool := entryOk e.o e.s e.a e.d
def Ent.key (e : Ent) : Int := keyOf e.o e.s e.a e.d
theorem Ent.key_ok {e : Ent} (h : e.ok = true) : e.key = 5 * e.o + e.s ∧ 0 ≤ e.o ∧ e.o ≤ 3 ∧ 0 ≤ e.s ∧ e.s ≤ 4 := keyOf_ok h
theorem Ent.ok_all {e : Ent} (h : e.ok = true) : 0 ≤ e.o ∧ e.o ≤ 3 ∧ 0 ≤ e.s ∧ e.s ≤ 4 ∧ 1 ≤ e.a ∧ e.a ≤ 1000000 ∧ 1 ≤ e.d ∧ e.d ≤ 100000 := by
  simpa [Ent.ok, entryOk] using h
def Good (es : List Ent) (i : Nat) : Prop :=
  (E es i).ok = true ∧ (0 < i → (E es (i - 1)).key < (E es i).key) ∧ ∀ j, j < i → ¬ ((E es j).o = (E es i).o ∧ (E es j).d = (E es i).d)
instance (es : List Ent) (i : Nat) : Decidable (Good es i) := by unfold Good; infer_instance
def Right (es : List Ent) (k : Nat) : Prop := ∀ i, i < k → Good es i
instance (es : List Ent) (k : Nat) : Decidable (Right es k) := by unfold Right; infer_instance
def bookOk (es : List Ent) : Bool := decide (Right es es.length)
theorem right_key {es : List Ent} {k : Nat} (h : Right es k) : ∀ i, i < k → (i : Int) ≤ (E es i).key ∧ (E es i).key ≤ 19 := by
  intro i
  induction i with
  | zero =>
    intro hi
    have h1 := Ent.key_ok (h 0 hi).1
    omega
  | succ i ih =>
    intro hi
    have h1 := Ent.key_ok (h (i + 1) hi).1
    have h2 := (h (i + 1) hi).2.1 (by omega)
    have h3 := ih (by omega)
    simp only [Nat.add_sub_cancel] at h2
    omega
theorem right_len {es : List Ent} {k : Nat} (h : Right es k) : k ≤ 20 := by
  rcases Nat.lt_or_ge 20 k with hk | hk
  · have := right_key h 20 hk
    omega
  · exact hk
theorem book_len {es : List Ent} (h : bookOk es = true) : es.length ≤ 20 := right_len (of_decide_eq_true h)
theorem book_big {es : List Ent} (h : 20 < es.length) : bookOk es = false := decide_eq_false (fun hr => by have := right_len hr; omega)
theorem right_zero (es : List Ent) : Right es 0 := fun i hi => absurd hi (by omega)
theorem right_succ {es : List Ent} {k : Nat} (h : Right es k) (hg : Good es k) : Right es (k + 1) := fun i hi => by
  by_cases e : i = k
  · subst e; exact hg
  · exact h i (by omega)
theorem book_bad {es : List Ent} {k : Nat} (hk : k < es.length) (h : ¬ Good es k) : bookOk es = false := decide_eq_false (fun hr => h (hr k hk))
theorem book_good {es : List Ent} (h : Right es es.length) : bookOk es = true := decide_eq_true h
theorem book_right {es : List Ent} (h : bookOk es = true) : Right es es.length := of_decide_eq_true h
end Go.Proofs.YtoniahfdjhhalaaGreat
