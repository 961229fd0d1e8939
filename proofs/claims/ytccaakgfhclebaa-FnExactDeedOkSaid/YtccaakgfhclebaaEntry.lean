/-
  Entries (chapter 3): what is an entry, its key.
-/
import Derived.Test.YtccaakgfhclebaaL1In
import Derived.BigQuiet
namespace Go.Proofs.Ytccaakgfhclebaa
open Go.RowKit

/-- Four numbers that are an entry. -/
def entryOk (o s a d : Int) : Bool := decide (0 ≤ o ∧ o ≤ 3 ∧ 0 ≤ s ∧ s ≤ 4 ∧ 1 ≤ a ∧ a ≤ 1000000 ∧ 1 ≤ d ∧ d ≤ 100000)
def keyOf (o s a d : Int) : Int := if entryOk o s a d = true then 5 * o + s else -1

/-- A call that answers v and only lays new memory. -/
def Says (v : Value) (w : World) (e : Ending) (w' : World) : Prop := e = .returned v ∧ Below w.heap.size w w'

set_option maxHeartbeats 400000 in
theorem isNode_any (x : Int) (w : World) :
    Calls Try.prog 9 #[.int .i64 x] w fun e w' => e = .returned (.bool (inB x 0 3)) ∧ w' = w := by
  by_cases h1 : 0 ≤ x
  · go_enter Try.func9, Try.ntmps9
    go_wp2
    go_ret
    exact ⟨ret_bool (by simp only [inB]; congr 1; exact propext (by omega)), rfl⟩
  · go_enter Try.func9, Try.ntmps9
    go_wp2
    go_ret
    exact ⟨ret_bool (by rw [inB, decide_eq_false (by omega)]), rfl⟩

set_option maxHeartbeats 400000 in
theorem isFromOne_any (x m : Int) (w : World) :
    Calls Try.prog 10 #[.int .i64 x, .int .i64 m] w fun e w' => e = .returned (.bool (inB x 1 m)) ∧ w' = w := by
  by_cases h1 : 1 ≤ x
  · go_enter Try.func10, Try.ntmps10
    go_wp2
    go_ret
    exact ⟨ret_bool (by simp only [inB]; congr 1; exact propext (by omega)), rfl⟩
  · go_enter Try.func10, Try.ntmps10
    go_wp2
    go_ret
    exact ⟨ret_bool (by rw [inB, decide_eq_false (by omega)]), rfl⟩

def kindOf (o s : Int) : Int := if s = 4 then 2 else if s = o then 0 else 1

set_option maxHeartbeats 400000 in
theorem l3Node_any (x : Int) (w : World) :
    Calls Try.prog 7 #[.int .i64 x] w fun e w' => e = .returned (.bool (inB x 0 3)) ∧ w' = w := by
  go_enter Try.func7, Try.ntmps7
  go_wp2_with (go_at_call 8; refine (l1In_any _ _ _ _).mono ?_; rintro e w' ⟨rfl, rfl⟩)
  go_ret
  exact ⟨rfl, rfl⟩

theorem says_box {v u : Value} {w : World} (cs : Array Value) (t : TypeId) (h : u = v) : Says v w (.returned u) (w.alloc (.cells cs t)) := by
  subst h
  exact ⟨rfl, (Below.refl _ _).alloc (Nat.le_refl _) _⟩

theorem kind_2 {o s : Int} (h : kindOf o s = 2) : s = 4 := by
  unfold kindOf at h
  split at h
  · assumption
  · split at h <;> omega
theorem kind_0 {o s : Int} (h : kindOf o s = 0) : s = o := by
  unfold kindOf at h
  split at h
  · omega
  · split at h
    · assumption
    · omega
theorem kind_1 {o s : Int} (h : kindOf o s = 1) : s ≠ 4 := by
  unfold kindOf at h
  split at h
  · omega
  · assumption
theorem kind_lo (o s : Int) : kindOf o s = 0 ∨ kindOf o s = 1 ∨ kindOf o s = 2 := by
  unfold kindOf
  split
  · omega
  · split <;> omega

/-- The entry's numbers apart from the slot. -/
theorem entryOk_slot {o s a d : Int} (h : s = 4 ∨ s = o ∨ inB s 0 3 = true) : entryOk o s a d = (inB o 0 3 && inB a 1 1000000 && inB d 1 100000) := by
  simp only [inB, decide_eq_true_eq] at h
  simp only [entryOk, inB]
  rw [Bool.eq_iff_iff]
  simp only [Bool.and_eq_true, decide_eq_true_eq]
  omega
theorem entryOk_noslot {o s a d : Int} (h : s ≠ 4) (h2 : inB s 0 3 = false) : entryOk o s a d = false := by
  simp only [inB, decide_eq_false_iff_not] at h2
  simp only [entryOk, decide_eq_false_iff_not]
  omega

end Go.Proofs.Ytccaakgfhclebaa
