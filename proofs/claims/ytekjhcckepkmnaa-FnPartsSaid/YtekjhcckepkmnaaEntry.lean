/-
  Entries (chapter 3): what is an entry, its key.
-/
import Derived.Test.YtekjhcckepkmnaaL1In
import Derived.BigQuiet
namespace Go.Proofs.Ytekjhcckepkmnaa
open Go.RowKit

/-- Four numbers that are an entry. -/
def entryOk (o s a d : Int) : Bool := decide (0 ≤ o ∧ o ≤ 3 ∧ 0 ≤ s ∧ s ≤ 4 ∧ 1 ≤ a ∧ a ≤ 1000000 ∧ 1 ≤ d ∧ d ≤ 100000)
def keyOf (o s a d : Int) : Int := if entryOk o s a d = true then 5 * o + s else -1

/-- A call that answers v and only lays new memory. -/
def Says (v : Value) (w : World) (e : Ending) (w' : World) : Prop := e = .returned v ∧ Below w.heap.size w w'

set_option maxHeartbeats 400000 in
theorem isNode_any (x : Int) (w : World) :
    Calls Try.prog 60 #[.int .i64 x] w fun e w' => e = .returned (.bool (inB x 0 3)) ∧ w' = w := by
  by_cases h1 : 0 ≤ x
  · go_enter Try.func60, Try.ntmps60
    go_wp2
    go_ret
    exact ⟨ret_bool (by simp only [inB]; congr 1; exact propext (by omega)), rfl⟩
  · go_enter Try.func60, Try.ntmps60
    go_wp2
    go_ret
    exact ⟨ret_bool (by rw [inB, decide_eq_false (by omega)]), rfl⟩

set_option maxHeartbeats 400000 in
theorem isFromOne_any (x m : Int) (w : World) :
    Calls Try.prog 61 #[.int .i64 x, .int .i64 m] w fun e w' => e = .returned (.bool (inB x 1 m)) ∧ w' = w := by
  by_cases h1 : 1 ≤ x
  · go_enter Try.func61, Try.ntmps61
    go_wp2
    go_ret
    exact ⟨ret_bool (by simp only [inB]; congr 1; exact propext (by omega)), rfl⟩
  · go_enter Try.func61, Try.ntmps61
    go_wp2
    go_ret
    exact ⟨ret_bool (by rw [inB, decide_eq_false (by omega)]), rfl⟩

def kindOf (o s : Int) : Int := if s = 4 then 2 else if s = o then 0 else 1

set_option maxHeartbeats 400000 in
theorem l3Node_any (x : Int) (w : World) :
    Calls Try.prog 46 #[.int .i64 x] w fun e w' => e = .returned (.bool (inB x 0 3)) ∧ w' = w := by
  go_enter Try.func46, Try.ntmps46
  go_wp2_with (go_at_call 32; refine (l1In_any _ _ _ _).mono ?_; rintro e w' ⟨rfl, rfl⟩)
  go_ret
  exact ⟨rfl, rfl⟩

set_option maxHeartbeats 400000 in
theorem l3Slot_any (x : Int) (w : World) :
    Calls Try.prog 47 #[.int .i64 x] w fun e w' => e = .returned (.bool (inB x 0 4)) ∧ w' = w := by
  go_enter Try.func47, Try.ntmps47
  go_wp2_with (go_at_call 32; refine (l1In_any _ _ _ _).mono ?_; rintro e w' ⟨rfl, rfl⟩)
  go_ret
  exact ⟨rfl, rfl⟩

theorem says_box {v u : Value} {w : World} (cs : Array Value) (t : TypeId) (h : u = v) : Says v w (.returned u) (w.alloc (.cells cs t)) := by
  subst h
  exact ⟨rfl, (Below.refl _ _).alloc (Nat.le_refl _) _⟩

set_option maxHeartbeats 400000 in
theorem kindOf_any (o s a d : Int) (w : World) :
    Calls Try.prog 59 #[.agg #[.int .i64 o, .int .i64 s, .int .i64 a, .int .i64 d]] w (Says (.int .i64 (kindOf o s)) w) := by
  by_cases h1 : s = 4
  · go_enter Try.func59, Try.ntmps59
    go_wp2
    go_ret
    exact says_box _ _ (by rw [kindOf, if_pos h1]; rfl)
  · by_cases h2 : s = o
    · go_enter Try.func59, Try.ntmps59
      go_wp2
      go_ret
      exact says_box _ _ (by rw [kindOf, if_neg h1, if_pos h2]; rfl)
    · go_enter Try.func59, Try.ntmps59
      go_wp2
      go_ret
      exact says_box _ _ (by simp [kindOf, h1, h2])

set_option maxHeartbeats 1000000 in
theorem specEntryOk_any (o s a d : Int) (w : World) :
    Calls Try.prog 30 #[.agg #[.int .i64 o, .int .i64 s, .int .i64 a, .int .i64 d]] w (Says (.bool (entryOk o s a d)) w) := by
  have he : entryOk o s a d = (inB o 0 3 && inB s 0 4 && inB a 1 1000000 && inB d 1 100000) := by
    simp only [entryOk, inB]
    rw [Bool.eq_iff_iff]
    simp only [Bool.and_eq_true, decide_eq_true_eq]
    omega
  rw [he]
  clear he
  have h1 : ∀ w, Calls Try.prog 46 #[.int .i64 o] w fun e w' => e = .returned (.bool (inB o 0 3)) ∧ w' = w := fun w => l3Node_any o w
  have h2 : ∀ w, Calls Try.prog 47 #[.int .i64 s] w fun e w' => e = .returned (.bool (inB s 0 4)) ∧ w' = w := fun w => l3Slot_any s w
  have h3 : ∀ w, Calls Try.prog 32 #[.int .i64 a, .int .i64 1, .int .i64 1000000] w fun e w' => e = .returned (.bool (inB a 1 1000000)) ∧ w' = w := fun w => l1In_any _ _ _ w
  have h4 : ∀ w, Calls Try.prog 32 #[.int .i64 d, .int .i64 1, .int .i64 100000] w fun e w' => e = .returned (.bool (inB d 1 100000)) ∧ w' = w := fun w => l1In_any _ _ _ w
  generalize inB o 0 3 = b1 at h1 ⊢
  generalize inB s 0 4 = b2 at h2 ⊢
  generalize inB a 1 1000000 = b3 at h3 ⊢
  generalize inB d 1 100000 = b4 at h4 ⊢
  go_enter Try.func30, Try.ntmps30
  go_wp2_with fail
  refine (h1 _).mono ?_
  rintro e w' ⟨rfl, rfl⟩
  rcases b1 with _ | _
  · go_wp2_with fail
    go_ret
    exact says_box _ _ rfl
  · go_wp2_with fail
    refine (h2 _).mono ?_
    rintro e w' ⟨rfl, rfl⟩
    rcases b2 with _ | _
    · go_wp2_with fail
      go_ret
      exact says_box _ _ rfl
    · go_wp2_with fail
      refine (h3 _).mono ?_
      rintro e w' ⟨rfl, rfl⟩
      rcases b3 with _ | _
      · go_wp2_with fail
        go_ret
        exact says_box _ _ rfl
      · go_wp2_with fail
        refine (h4 _).mono ?_
        rintro e w' ⟨rfl, rfl⟩
        rcases b4 with _ | _
        all_goals
          go_wp2_with fail
          go_ret
          exact says_box _ _ rfl

theorem kind_2 {o s : Int} (h : kindOf o s = 2) : s = 4 := by
  unfold kindOf at h
  split at h
  · assumption
  · split at h <;> omega
theorem kind_0 {o s : Int} (h : kindOf o s = 0) : s = o := by
  unfold kindOf at h
  split at h
  · omega
  · split at h
    · assumption
    · omega
theorem kind_1 {o s : Int} (h : kindOf o s = 1) : s ≠ 4 := by
  unfold kindOf at h
  split at h
  · omega
  · assumption
theorem kind_lo (o s : Int) : kindOf o s = 0 ∨ kindOf o s = 1 ∨ kindOf o s = 2 := by
  unfold kindOf
  split
  · omega
  · split <;> omega

/-- The entry's numbers apart from the slot. -/
theorem entryOk_slot {o s a d : Int} (h : s = 4 ∨ s = o ∨ inB s 0 3 = true) : entryOk o s a d = (inB o 0 3 && inB a 1 1000000 && inB d 1 100000) := by
  simp only [inB, decide_eq_true_eq] at h
  simp only [entryOk, inB]
  rw [Bool.eq_iff_iff]
  simp only [Bool.and_eq_true, decide_eq_true_eq]
  omega
theorem entryOk_noslot {o s a d : Int} (h : s ≠ 4) (h2 : inB s 0 3 = false) : entryOk o s a d = false := by
  simp only [inB, decide_eq_false_iff_not] at h2
  simp only [entryOk, decide_eq_false_iff_not]
  omega

set_option maxHeartbeats 1000000 in
theorem implEntryOk_any (o s a d : Int) (w : World) :
    Calls Try.prog 58 #[.agg #[.int .i64 o, .int .i64 s, .int .i64 a, .int .i64 d]] w (Says (.bool (entryOk o s a d)) w) := by
  have h0 := fun w => kindOf_any o s a d w
  have hk := kind_lo o s
  have hs : ∀ w, Calls Try.prog 60 #[.int .i64 s] w fun e w' => e = .returned (.bool (inB s 0 3)) ∧ w' = w := fun w => isNode_any s w
  have h1 : ∀ w, Calls Try.prog 60 #[.int .i64 o] w fun e w' => e = .returned (.bool (inB o 0 3)) ∧ w' = w := fun w => isNode_any o w
  have h3 : ∀ w, Calls Try.prog 61 #[.int .i64 a, .int .i64 1000000] w fun e w' => e = .returned (.bool (inB a 1 1000000)) ∧ w' = w := fun w => isFromOne_any _ _ w
  have h4 : ∀ w, Calls Try.prog 61 #[.int .i64 d, .int .i64 100000] w fun e w' => e = .returned (.bool (inB d 1 100000)) ∧ w' = w := fun w => isFromOne_any _ _ w
  have hgood : s = 4 ∨ s = o ∨ inB s 0 3 = true → entryOk o s a d = (inB o 0 3 && inB a 1 1000000 && inB d 1 100000) := fun h => entryOk_slot h
  have hbad : kindOf o s = 1 → inB s 0 3 = false → entryOk o s a d = false := fun h h2 => entryOk_noslot (kind_1 h) h2
  have hk0 : kindOf o s = 0 → s = o := kind_0
  have hk2 : kindOf o s = 2 → s = 4 := kind_2
  have HG := Lib.hid hgood; have HB := Lib.hid hbad; have H0 := Lib.hid hk0; have H2 := Lib.hid hk2
  clear hgood hbad hk0 hk2
  generalize kindOf o s = kk at h0 hk HB H0 H2
  generalize inB s 0 3 = bs at hs HG HB
  generalize inB o 0 3 = b1 at h1 HG
  generalize inB a 1 1000000 = b3 at h3 HG
  generalize inB d 1 100000 = b4 at h4 HG
  generalize entryOk o s a d = r at HG HB ⊢
  rcases hk with rfl | rfl | rfl
  · have e := HG.out (.inr (.inl (H0.out rfl)))
    subst e
    clear HG HB H0 H2
    go_enter Try.func58, Try.ntmps58
    go_wp2_with fail
    refine (h0 _).mono ?_
    rintro e w1 ⟨rfl, hb1⟩
    have hbb := ((Below.refl w.heap.size w).alloc (Nat.le_refl _) (Obj.cells #[.int .i64 o, .int .i64 s, .int .i64 a, .int .i64 d] 33)).trans (hb1.mono (by simp))
    have hc0 := (hb1.cell (p := ⟨w.heap.size, 0, none⟩) (by simp)).trans (show _ = some (Value.int .i64 o) by go_simp)
    have hc1 := (hb1.cell (p := ⟨w.heap.size, 1, none⟩) (by simp)).trans (show _ = some (Value.int .i64 s) by go_simp)
    have hc2 := (hb1.cell (p := ⟨w.heap.size, 2, none⟩) (by simp)).trans (show _ = some (Value.int .i64 a) by go_simp)
    have hc3 := (hb1.cell (p := ⟨w.heap.size, 3, none⟩) (by simp)).trans (show _ = some (Value.int .i64 d) by go_simp)
    clear hb1
    go_wp2_with fail
    refine (h1 _).mono ?_
    rintro e w' ⟨rfl, rfl⟩
    rcases b1 with _ | _
    · go_wp2_with fail
      go_ret
      exact ⟨rfl, hbb⟩
    · go_wp2_with fail
      refine (h3 _).mono ?_
      rintro e w' ⟨rfl, rfl⟩
      rcases b3 with _ | _
      · go_wp2_with fail
        go_ret
        exact ⟨rfl, hbb⟩
      · go_wp2_with fail
        refine (h4 _).mono ?_
        rintro e w' ⟨rfl, rfl⟩
        rcases b4 with _ | _
        all_goals
          go_wp2_with fail
          go_ret
          exact ⟨rfl, hbb⟩
  · rcases bs with _ | _
    · have e := HB.out rfl rfl
      subst e
      clear HG HB H0 H2
      go_enter Try.func58, Try.ntmps58
      go_wp2_with fail
      refine (h0 _).mono ?_
      rintro e w1 ⟨rfl, hb1⟩
      have hbb := ((Below.refl w.heap.size w).alloc (Nat.le_refl _) (Obj.cells #[.int .i64 o, .int .i64 s, .int .i64 a, .int .i64 d] 33)).trans (hb1.mono (by simp))
      have hc0 := (hb1.cell (p := ⟨w.heap.size, 0, none⟩) (by simp)).trans (show _ = some (Value.int .i64 o) by go_simp)
      have hc1 := (hb1.cell (p := ⟨w.heap.size, 1, none⟩) (by simp)).trans (show _ = some (Value.int .i64 s) by go_simp)
      have hc2 := (hb1.cell (p := ⟨w.heap.size, 2, none⟩) (by simp)).trans (show _ = some (Value.int .i64 a) by go_simp)
      have hc3 := (hb1.cell (p := ⟨w.heap.size, 3, none⟩) (by simp)).trans (show _ = some (Value.int .i64 d) by go_simp)
      clear hb1
      go_wp2_with fail
      refine (hs _).mono ?_
      rintro e w' ⟨rfl, rfl⟩
      go_wp2_with fail
      go_ret
      exact ⟨rfl, hbb⟩
    · have e := HG.out (.inr (.inr rfl))
      subst e
      clear HG HB H0 H2
      go_enter Try.func58, Try.ntmps58
      go_wp2_with fail
      refine (h0 _).mono ?_
      rintro e w1 ⟨rfl, hb1⟩
      have hbb := ((Below.refl w.heap.size w).alloc (Nat.le_refl _) (Obj.cells #[.int .i64 o, .int .i64 s, .int .i64 a, .int .i64 d] 33)).trans (hb1.mono (by simp))
      have hc0 := (hb1.cell (p := ⟨w.heap.size, 0, none⟩) (by simp)).trans (show _ = some (Value.int .i64 o) by go_simp)
      have hc1 := (hb1.cell (p := ⟨w.heap.size, 1, none⟩) (by simp)).trans (show _ = some (Value.int .i64 s) by go_simp)
      have hc2 := (hb1.cell (p := ⟨w.heap.size, 2, none⟩) (by simp)).trans (show _ = some (Value.int .i64 a) by go_simp)
      have hc3 := (hb1.cell (p := ⟨w.heap.size, 3, none⟩) (by simp)).trans (show _ = some (Value.int .i64 d) by go_simp)
      clear hb1
      go_wp2_with fail
      refine (hs _).mono ?_
      rintro e w' ⟨rfl, rfl⟩
      go_wp2_with fail
      refine (h1 _).mono ?_
      rintro e w' ⟨rfl, rfl⟩
      rcases b1 with _ | _
      · go_wp2_with fail
        go_ret
        exact ⟨rfl, hbb⟩
      · go_wp2_with fail
        refine (h3 _).mono ?_
        rintro e w' ⟨rfl, rfl⟩
        rcases b3 with _ | _
        · go_wp2_with fail
          go_ret
          exact ⟨rfl, hbb⟩
        · go_wp2_with fail
          refine (h4 _).mono ?_
          rintro e w' ⟨rfl, rfl⟩
          rcases b4 with _ | _
          all_goals
            go_wp2_with fail
            go_ret
            exact ⟨rfl, hbb⟩
  · have e := HG.out (.inl (H2.out rfl))
    subst e
    clear HG HB H0 H2
    go_enter Try.func58, Try.ntmps58
    go_wp2_with fail
    refine (h0 _).mono ?_
    rintro e w1 ⟨rfl, hb1⟩
    have hbb := ((Below.refl w.heap.size w).alloc (Nat.le_refl _) (Obj.cells #[.int .i64 o, .int .i64 s, .int .i64 a, .int .i64 d] 33)).trans (hb1.mono (by simp))
    have hc0 := (hb1.cell (p := ⟨w.heap.size, 0, none⟩) (by simp)).trans (show _ = some (Value.int .i64 o) by go_simp)
    have hc1 := (hb1.cell (p := ⟨w.heap.size, 1, none⟩) (by simp)).trans (show _ = some (Value.int .i64 s) by go_simp)
    have hc2 := (hb1.cell (p := ⟨w.heap.size, 2, none⟩) (by simp)).trans (show _ = some (Value.int .i64 a) by go_simp)
    have hc3 := (hb1.cell (p := ⟨w.heap.size, 3, none⟩) (by simp)).trans (show _ = some (Value.int .i64 d) by go_simp)
    clear hb1
    go_wp2_with fail
    refine (h1 _).mono ?_
    rintro e w' ⟨rfl, rfl⟩
    rcases b1 with _ | _
    · go_wp2_with fail
      go_ret
      exact ⟨rfl, hbb⟩
    · go_wp2_with fail
      refine (h3 _).mono ?_
      rintro e w' ⟨rfl, rfl⟩
      rcases b3 with _ | _
      · go_wp2_with fail
        go_ret
        exact ⟨rfl, hbb⟩
      · go_wp2_with fail
        refine (h4 _).mono ?_
        rintro e w' ⟨rfl, rfl⟩
        rcases b4 with _ | _
        all_goals
          go_wp2_with fail
          go_ret
          exact ⟨rfl, hbb⟩

end Go.Proofs.Ytekjhcckepkmnaa
