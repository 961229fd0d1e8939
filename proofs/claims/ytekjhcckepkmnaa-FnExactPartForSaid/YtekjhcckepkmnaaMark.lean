/-
  laws.markInt64S writes k, k + 1, .. into a slice of the call's own; laws.heldInt64S finds them there.
-/
import Derived.Test.YtekjhcckepkmnaaOnly
namespace Go.Proofs.Ytekjhcckepkmnaa
open Go.RowKit

def marks (k : Int) (n : Nat) : List Int := (List.range n).map (fun i : Nat => k + (i : Int))
theorem marks_len (k : Int) (n : Nat) : (marks k n).length = n := by simp [marks]
theorem marks_get (k : Int) (n j : Nat) (h : j < n) : (marks k n).getD j 0 = k + j := by simp [marks, List.getD, h]
theorem marks_succ (k : Int) (n : Nat) : marks k (n + 1) = marks k n ++ [k + n] := by simp [marks, List.range_succ]
theorem marks_i64 {k : Int} {n : Nat} (h0 : 0 ≤ k) (h1 : k + n ≤ 4611686018427387904) : AllI64 (marks k n) := by
  intro x hx
  simp only [marks, List.mem_map, List.mem_range] at hx
  obtain ⟨i, hi, rfl⟩ := hx
  unfold I64
  omega

theorem mark_step (xs : List Int) (k : Int) (j : Nat) (h : j < xs.length) : (marks k j ++ xs.drop j).set j (k + j) = marks k (j + 1) ++ xs.drop (j + 1) := by
  rw [List.set_append_right _ _ (by rw [marks_len]; exact Nat.le_refl _), marks_len, marks_succ, List.append_assoc]
  rw [List.drop_eq_getElem_cons h, Nat.sub_self]
  rfl

theorem mark_old (xs : List Int) (k : Int) (j : Nat) (h : j < xs.length) : ((marks k j ++ xs.drop j).map (Value.int .i64))[j]? = some (.int .i64 xs[j]) := by
  rw [List.getElem?_map, List.getElem?_append_right (by rw [marks_len]; exact Nat.le_refl _), marks_len]
  simp [h]

set_option maxHeartbeats 400000 in
set_option maxRecDepth 100000 in
theorem mark_only (base : Nat) (v : Value) (xs : List Int) (k : Int) (w : World) (hown : Own base w v xs) (hk0 : 0 ≤ k) (hk : k ≤ 1152921504606846976) (hn : xs.length ≤ 1152921504606846976) :
    Calls Try.prog 20 #[v, .int .i64 k] w fun e w' => e = .returned (.int .i64 (k + xs.length)) ∧ Own base w' v (marks k xs.length) ∧ w.grownBy w' v.ownBlock ∧ w'.heap.size = w.heap.size := by
  rcases hown.2 with ⟨rfl, h0⟩ | ⟨g, cap, cur, rfl, hbg, hg, hnc, hcm, hcs, htake⟩
  · have hx : xs = [] := List.eq_nil_of_length_eq_zero h0
    subst hx
    go_enter Try.func20, Try.ntmps20
    go_wp2
    refine wp_loop_rounds 1 ?_
    rw [rounds_succ]
    go_wp2
    go_ret
    exact ⟨ret_int (by simp), by simpa [marks] using hown, World.grownBy.refl _ _, rfl⟩
  · clear hcs htake hcm hnc
    obtain ⟨n, hn'⟩ : ∃ n, n = xs.length := ⟨_, rfl⟩
    unfold Own at hown
    rw [← hn'] at hown hn
    rw [← hn']
    have HN := Lib.hid hn'; clear hn'
    have hdrop : xs.map (Value.int .i64) = (marks k 0 ++ xs.drop 0).map (Value.int .i64) := by simp [marks]
    rw [hdrop] at hown
    clear hdrop hg
    go_enter Try.func20, Try.ntmps20
    go_wp2
    go_loopw [1, 5] (fun sk si wr => ∃ j : Nat, j ≤ n ∧ si = .int .i64 j ∧ sk = .int .i64 (k + j) ∧ wr.ownsRow base 2 1 (.slice (some ⟨g, 0, none⟩) n cap) n ((marks k j ++ xs.drop j).map (Value.int .i64)) ∧ Only g w wr) (fun _ si _ => n - (intOf si).toNat)
    case atStart => exact ⟨0, Nat.zero_le _, rfl, by simp, hown, Only.refl _ _⟩
    case round =>
      obtain ⟨j, hj, rfl, rfl, how, hon⟩ := hrel
      by_cases hlt : j < n
      · have g2 : wr.cell? ⟨g, j, none⟩ = some (.int .i64 (xs.getD j 0)) := by
          rw [how.cellAt j (by omega), mark_old xs k j (by have := HN.out; omega)]
          simp [List.getD, show j < xs.length by have := HN.out; omega]
        generalize xs.getD j 0 = x at g2
        have f2 := how.frozenAt j
        have hst := (how.stored j (.int .i64 (k + j))).1
        rw [show (List.map (Value.int IntKind.i64) (marks k j ++ xs.drop j)).set j (.int .i64 (k + j)) = (marks k (j + 1) ++ xs.drop (j + 1)).map (Value.int .i64) from by rw [map_set, mark_step xs k j (by have := HN.out; omega)]] at hst
        have HST := Lib.hid hst; clear hst how
        go_wp2
        go_roundw
        case rel => exact ⟨j + 1, by omega, by go_num, by go_num, HST.out, hon.setCell _ _⟩
        case measure => simp [intOf]; omega
      · go_wp2
        go_ret
        have ej : j = n := by omega
        subst ej
        have hl := HN.out
        refine ⟨rfl, ?_, hon.grown, hon.size⟩
        unfold Own
        rw [marks_len]
        rw [List.drop_of_length_le (by omega), List.append_nil] at how
        exact how

theorem mark_any (base : Nat) (v : Value) (xs : List Int) (k : Int) (w : World) (hown : Own base w v xs) (hk0 : 0 ≤ k) (hk : k ≤ 1152921504606846976) (hn : xs.length ≤ 1152921504606846976) :
    Calls Try.prog 20 #[v, .int .i64 k] w fun e w' => e = .returned (.int .i64 (k + xs.length)) ∧ Own base w' v (marks k xs.length) ∧ Below base w w' ∧ w'.heap.size = w.heap.size :=
  (mark_only base v xs k w hown hk0 hk hn).mono fun e w' ⟨h1, h2, h3, h4⟩ => ⟨h1, h2, ⟨h3.os, h3.tape, h3.output, h3.size, fun k hk => by
    by_cases hlt : k < w.heap.size
    · exact h3.block k hlt (fun e => by have := (World.ownsRow.lt hown k e.symm).1; omega)
    · rw [Array.getElem?_eq_none (by omega), Array.getElem?_eq_none (by omega)]⟩, h4⟩

end Go.Proofs.Ytekjhcckepkmnaa
