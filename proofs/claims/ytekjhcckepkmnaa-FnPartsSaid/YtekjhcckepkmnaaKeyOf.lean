/-
  Keys of entries: impl.KeyOf, spec.KeyOf.
-/
import Derived.Test.YtekjhcckepkmnaaEntry
namespace Go.Proofs.Ytekjhcckepkmnaa
open Go.RowKit

theorem keyOf_ok {o s a d : Int} (h : entryOk o s a d = true) : keyOf o s a d = 5 * o + s ∧ 0 ≤ o ∧ o ≤ 3 ∧ 0 ≤ s ∧ s ≤ 4 := by
  refine ⟨by rw [keyOf, if_pos h], ?_⟩
  simp only [entryOk, decide_eq_true_eq] at h
  omega
theorem keyOf_no {o s a d : Int} (h : entryOk o s a d = false) : keyOf o s a d = -1 := by rw [keyOf, h]; rfl

set_option maxHeartbeats 1000000 in
theorem implKeyOf_any (o s a d : Int) (w : World) :
    Calls Try.prog 56 #[.agg #[.int .i64 o, .int .i64 s, .int .i64 a, .int .i64 d]] w (Says (.int .i64 (keyOf o s a d)) w) := by
  have h0 := fun w => implEntryOk_any o s a d w
  have hy : entryOk o s a d = true → keyOf o s a d = 5 * o + s ∧ 0 ≤ o ∧ o ≤ 3 ∧ 0 ≤ s ∧ s ≤ 4 := keyOf_ok
  have hn : entryOk o s a d = false → keyOf o s a d = -1 := keyOf_no
  generalize entryOk o s a d = b at h0 hy hn
  generalize keyOf o s a d = k at hy hn
  rcases b with _ | _
  · have e := hn rfl
    subst e
    clear hy hn
    go_enter Try.func56, Try.ntmps56
    go_wp2_with fail
    refine (h0 _).mono ?_
    rintro e w1 ⟨rfl, hb1⟩
    have hbb := ((Below.refl w.heap.size w).alloc (Nat.le_refl _) (Obj.cells #[.int .i64 o, .int .i64 s, .int .i64 a, .int .i64 d] 33)).trans (hb1.mono (by simp))
    go_wp2_with fail
    go_ret
    exact ⟨rfl, hbb⟩
  · obtain ⟨rfl, ho0, ho1, hs0, hs1⟩ := hy rfl
    clear hn
    go_enter Try.func56, Try.ntmps56
    go_wp2_with fail
    refine (h0 _).mono ?_
    rintro e w1 ⟨rfl, hb1⟩
    have hbb := ((Below.refl w.heap.size w).alloc (Nat.le_refl _) (Obj.cells #[.int .i64 o, .int .i64 s, .int .i64 a, .int .i64 d] 33)).trans (hb1.mono (by simp))
    have hc0 := (hb1.cell (p := ⟨w.heap.size, 0, none⟩) (by simp)).trans (show _ = some (Value.int .i64 o) by go_simp)
    have hc1 := (hb1.cell (p := ⟨w.heap.size, 1, none⟩) (by simp)).trans (show _ = some (Value.int .i64 s) by go_simp)
    clear hb1
    go_wp2_with fail
    go_ret
    exact ⟨ret_int (by omega), hbb⟩

set_option maxHeartbeats 1000000 in
theorem specKeyOf_any (o s a d : Int) (w : World) :
    Calls Try.prog 31 #[.agg #[.int .i64 o, .int .i64 s, .int .i64 a, .int .i64 d]] w (Says (.int .i64 (keyOf o s a d)) w) := by
  have h0 := fun w => specEntryOk_any o s a d w
  have hy : entryOk o s a d = true → keyOf o s a d = 5 * o + s ∧ 0 ≤ o ∧ o ≤ 3 ∧ 0 ≤ s ∧ s ≤ 4 := keyOf_ok
  have hn : entryOk o s a d = false → keyOf o s a d = -1 := keyOf_no
  generalize entryOk o s a d = b at h0 hy hn
  generalize keyOf o s a d = k at hy hn
  rcases b with _ | _
  · have e := hn rfl
    subst e
    clear hy hn
    go_enter Try.func31, Try.ntmps31
    go_wp2_with fail
    refine (h0 _).mono ?_
    rintro e w1 ⟨rfl, hb1⟩
    have hbb := ((Below.refl w.heap.size w).alloc (Nat.le_refl _) (Obj.cells #[.int .i64 o, .int .i64 s, .int .i64 a, .int .i64 d] 33)).trans (hb1.mono (by simp))
    go_wp2_with fail
    go_ret
    exact ⟨rfl, hbb⟩
  · obtain ⟨rfl, ho0, ho1, hs0, hs1⟩ := hy rfl
    clear hn
    go_enter Try.func31, Try.ntmps31
    go_wp2_with fail
    refine (h0 _).mono ?_
    rintro e w1 ⟨rfl, hb1⟩
    have hbb := ((Below.refl w.heap.size w).alloc (Nat.le_refl _) (Obj.cells #[.int .i64 o, .int .i64 s, .int .i64 a, .int .i64 d] 33)).trans (hb1.mono (by simp))
    have hc0 := (hb1.cell (p := ⟨w.heap.size, 0, none⟩) (by simp)).trans (show _ = some (Value.int .i64 o) by go_simp)
    have hc1 := (hb1.cell (p := ⟨w.heap.size, 1, none⟩) (by simp)).trans (show _ = some (Value.int .i64 s) by go_simp)
    clear hb1
    go_wp2_with fail
    go_ret
    exact ⟨ret_int (by omega), hbb⟩

end Go.Proofs.Ytekjhcckepkmnaa
