/-
  A row of entries of the call's own: one entry is stored anew.
-/
import Derived.Test.YtekjhcckepkmnaaEnts
namespace Go.Proofs.Ytekjhcckepkmnaa
open Go.RowKit

theorem flatE_set (es : List Ent) (j : Nat) (e : Ent) (hj : j < es.length) :
    ((((flatE es).set (j * 4) (.int .i64 e.o)).set (j * 4 + 1) (.int .i64 e.s)).set (j * 4 + 2) (.int .i64 e.a)).set (j * 4 + 3) (.int .i64 e.d) = flatE (es.set j e) := by
  induction es generalizing j with
  | nil => simp at hj
  | cons x r ih =>
    have hc : ∀ y : Ent, ∀ l, flatE (y :: l) = .int .i64 y.o :: .int .i64 y.s :: .int .i64 y.a :: .int .i64 y.d :: flatE l := fun y l => by simp [flatE, Ent.cells]
    cases j with
    | zero => rw [List.set_cons_zero, hc, hc]; rfl
    | succ j =>
      have h2 := ih j (by simpa using hj)
      rw [List.set_cons_succ, hc, hc, ← h2]
      have e1 : (j + 1) * 4 = j * 4 + 1 + 1 + 1 + 1 := by omega
      rw [e1]
      rfl

theorem OwnE.store {base : Nat} {w : World} {g n cap : Nat} {es : List Ent} (h : w.ownsRow base 33 4 (.slice (some ⟨g, 0, none⟩) n cap) n (flatE es)) (hn : es.length = n) (j : Nat) (hj : j < n) (e : Ent) :
    ((((w.setCell ⟨g, j * 4, none⟩ (.int .i64 e.o)).setCell ⟨g, j * 4 + 1, none⟩ (.int .i64 e.s)).setCell ⟨g, j * 4 + 2, none⟩ (.int .i64 e.a)).setCell ⟨g, j * 4 + 3, none⟩ (.int .i64 e.d)).ownsRow base 33 4 (.slice (some ⟨g, 0, none⟩) n cap) n (flatE (es.set j e)) := by
  have h1 := (h.stored (j * 4) (.int .i64 e.o)).1
  have h2 := (h1.stored (j * 4 + 1) (.int .i64 e.s)).1
  have h3 := (h2.stored (j * 4 + 2) (.int .i64 e.a)).1
  have h4 := (h3.stored (j * 4 + 3) (.int .i64 e.d)).1
  rw [flatE_set es j e (by omega)] at h4
  exact h4

/-- The four cells of entry j of the call's own row. -/
theorem OwnE.ent4 {base : Nat} {w : World} {g n cap : Nat} {es : List Ent} (h : w.ownsRow base 33 4 (.slice (some ⟨g, 0, none⟩) n cap) n (flatE es)) (hn : es.length = n) (j : Nat) (hj : j < n) : Ent4 w g (j * 4) (E es j) := by
  have hc : ∀ k, k < 4 → w.cell? ⟨g, j * 4 + k, none⟩ = (E es j).cells[k]? := fun k hk => by
    rw [h.cellAt (j * 4 + k) (by omega), flatE_get es j k (by omega) hk]
  exact ⟨hc 0 (by omega), hc 1 (by omega), hc 2 (by omega), hc 3 (by omega)⟩

theorem flatE_zero (n : Nat) : (madeCells #[Value.int .i64 0, .int .i64 0, .int .i64 0, .int .i64 0] (n * 4)).toList = flatE (List.replicate n zeroE) := by
  apply List.ext_getElem?
  intro i
  by_cases hi : i < n * 4
  · have e : i = i / 4 * 4 + i % 4 := by omega
    have hk : i % 4 < 4 := by omega
    have hE : E (List.replicate n zeroE) (i / 4) = zeroE := by rw [E_get (by simp; omega)]; simp
    have hr : (flatE (List.replicate n zeroE))[i]? = zeroE.cells[i % 4]? := by
      rw [e, flatE_get _ (i / 4) (i % 4) (by simp; omega) hk, hE, ← e]
    rw [hr]
    have hl : (madeCells #[Value.int .i64 0, .int .i64 0, .int .i64 0, .int .i64 0] (n * 4)).toList[i]? = some (#[Value.int .i64 0, .int .i64 0, .int .i64 0, .int .i64 0][i % 4]!) := by
      simp [madeCells, hi]
    rw [hl]
    generalize i % 4 = k at hk
    have hk' : k = 0 ∨ k = 1 ∨ k = 2 ∨ k = 3 := by omega
    rcases hk' with rfl | rfl | rfl | rfl <;> rfl
  · rw [List.getElem?_eq_none (by simp [madeCells]; omega), List.getElem?_eq_none (by rw [flatE_len]; simp; omega)]

theorem copyE_step (es : List Ent) (k : Nat) (hk : k < es.length) : (es.take k ++ List.replicate (es.length - k) zeroE).set k (E es k) = es.take (k + 1) ++ List.replicate (es.length - (k + 1)) zeroE := by
  have e : es.length - k = (es.length - (k + 1)) + 1 := by omega
  rw [e, List.replicate_succ, List.set_append_right _ _ (by simp; omega)]
  have e2 : k - (es.take k).length = 0 := by simp; omega
  rw [e2, List.take_succ_eq_append_getElem hk, List.append_assoc, E_get hk]
  rfl

end Go.Proofs.Ytekjhcckepkmnaa
