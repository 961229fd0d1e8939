/-
  impl.sumTable: the table of 256 numbers, by value.
-/
import Derived.Test.YtdfcdemkmniknaaBits2
import Derived.Deep.WholeRow
namespace Go.Proofs.Ytdfcdemkmniknaa
open Go.RowKit

theorem infoArr : (Try.prog.info? 44).map (fun i => (i.zero, i.size)) = some (some (.agg (Array.replicate 256 (.int .i64 0))), 256) := by kernel_rfl

/-- The table's cells, as far as k. -/
def tab (k : Nat) : List Value := (List.range k).map (fun i => Value.int .i64 ((halves 8 i : Nat) : Int)) ++ List.replicate (256 - k) (Value.int .i64 0)
theorem tab_len {k : Nat} (h : k ≤ 256) : (tab k).length = 256 := by
  unfold tab
  rw [List.length_append, List.length_map, List.length_range, List.length_replicate]
  omega
theorem tab0 : (tab 0).toArray = Array.replicate 256 (Value.int .i64 0) := by
  unfold tab
  rw [List.range_zero, List.map_nil, List.nil_append, Nat.sub_zero, List.toArray_replicate]
theorem tab_set {k : Nat} (h : k < 256) : (tab k).set k (.int .i64 ((halves 8 k : Nat) : Int)) = tab (k + 1) := by
  unfold tab
  have e : 256 - k = (256 - (k + 1)) + 1 := by omega
  rw [List.set_append_right _ _ (by simp), e, List.replicate_succ, List.range_succ]
  simp
theorem tab_zero {k : Nat} (h : k < 256) : (tab k)[k]? = some (.int .i64 0) := by
  unfold tab
  have e : 256 - k = (256 - (k + 1)) + 1 := by omega
  rw [List.getElem?_append_right (by simp), e, List.replicate_succ]
  simp
theorem tab_at {i : Nat} (h : i < 256) : (tab 256)[i]? = some (.int .i64 ((halves 8 i : Nat) : Int)) := by
  unfold tab
  rw [List.getElem?_append_left (by simp; omega)]
  simp [h]
theorem tab_one {k : Nat} : ∀ v ∈ tab k, v.oneCell' = true := by
  intro v hv
  unfold tab at hv
  rcases List.mem_append.1 hv with h | h
  · obtain ⟨i, _, rfl⟩ := List.mem_map.1 h; rfl
  · rw [(List.mem_replicate.1 h).2]; rfl

/-- Block g is an array of these cells. -/
def Arr (w : World) (g : Nat) (cs : List Value) : Prop := w.heap[g]? = some (.cells cs.toArray 44 (0, 0))
theorem Arr.cell {w : World} {g : Nat} {cs : List Value} (h : Arr w g cs) (j : Nat) : w.cell? ⟨g, j, none⟩ = cs[j]? := by
  rw [cell_of_row _ _ _ _ _ _ h]; simp

set_option maxHeartbeats 400000 in
set_option maxRecDepth 100000 in
theorem sumTable_any (w : World) :
    Calls Try.prog 34 #[] w fun e w' => e = .returned (.agg (tab 256).toArray) ∧ Below w.heap.size w w' := by
  obtain ⟨hz, hsz⟩ := zero_of_info infoArr
  go_enter Try.func34, Try.ntmps34
  go_wp2
  clear hz
  go_loopw [3] (fun si wr => ∃ k : Nat, k ≤ 256 ∧ si = .int .i64 k ∧ Arr wr w.heap.size (tab 0) ∧ Arr wr (w.heap.size + 1) (tab k) ∧ Below w.heap.size w wr) (fun si _ => 256 - (intOf si).toNat)
  case atStart =>
    refine ⟨0, Nat.zero_le _, rfl, ?_, ?_, ((Below.refl _ _).alloc (Nat.le_refl _) _).alloc (by simp) _⟩
    · unfold Arr; rw [heap_alloc2_old, tab0]
    · unfold Arr; rw [heap_alloc2_new, tab0]
  case round =>
    obtain ⟨k, hk, rfl, hr0, hr1, hbel⟩ := hrel
    by_cases hlt : k < 256
    · have g1 : wr.cell? ⟨w.heap.size + 1, k, none⟩ = some (.int .i64 0) := by rw [hr1.cell, tab_zero hlt]
      have f1 : wr.frozen? ⟨w.heap.size + 1, k, none⟩ = false := frozen_of_row _ _ _ _ _ hr1
      go_wp2_with (go_at_call 41; refine (eightHalved_any k (by omega) _).mono ?_; rintro e w' ⟨rfl, rfl⟩)
      go_roundw
      case rel =>
        refine ⟨k + 1, by omega, by go_num, ?_, ?_, hbel.setCell (by simp) _⟩
        · unfold Arr; rw [heap_setCell_other _ _ _ _ (by simp)]; exact hr0
        · unfold Arr
          rw [heap_setCell_same _ _ _ _ _ _ hr1, ← tab_set hlt]
          simp
      case measure => simp [intOf]; omega
    · have ek : k = 256 := by omega
      subst ek
      have hl : (tab 256).toArray.size = 256 := by rw [List.size_toArray]; exact tab_len (by omega)
      have hl0 : (tab 0).toArray.size = 256 := by rw [List.size_toArray]; exact tab_len (by omega)
      have h1 : (tab 256).toArray.all (·.oneCell') = true := by
        rw [Array.all_eq_true_iff_forall_mem]
        intro v hv
        exact tab_one v (List.mem_toArray.1 hv)
      have HL := Lib.hid hl; have HL0 := Lib.hid hl0; have H1 := Lib.hid h1
      clear hl hl0 h1
      go_wp2_with (first
        | (refine wpList_load_row rfl 44 _ rfl (w.heap.size + 1) rfl 44 (tab 256).toArray (0, 0) (.array 256 2) hr1 (by kernel_rfl) rfl (by rw [HL.out]; exact hsz) ?_)
        | (refine wpList_store_row rfl 44 _ _ rfl w.heap.size (tab 256).toArray rfl rfl 44 (tab 0).toArray hr0 (by rw [HL.out]; exact hsz) (by rw [HL.out, HL0.out]) H1.out ?_))
      refine bodyPost_ret (v := .agg (tab 256).toArray) ?_ rfl ⟨rfl, ?_⟩
      · exact results_cell_row rfl _ _ w.heap.size 44 (tab 256).toArray (0, 0) (.array 256 2) rfl (setRow_heap _ _ _ _ _ _ hr0) (by kernel_rfl) rfl (by rw [HL.out]; exact hsz)
      · exact ⟨hbel.os, hbel.tape, hbel.output, by rw [size_setRow]; exact hbel.size, fun k hk => (setRow_other _ _ _ _ (by omega)).trans (hbel.block k hk)⟩

end Go.Proofs.Ytdfcdemkmniknaa
