/-
  laws.markEntryS writes k, k + 1, .. into a row of entries of the call's own.
-/
import Derived.Test.YtekjhcckepkmnaaEntsSet
import Derived.Test.YtekjhcckepkmnaaOnly
namespace Go.Proofs.Ytekjhcckepkmnaa
open Go.RowKit

def markE (k : Int) (i : Nat) : Ent := ⟨k + 4 * i, k + 4 * i + 1, k + 4 * i + 1 + 1, k + 4 * i + 1 + 1 + 1⟩
def marksE (k : Int) (n : Nat) : List Ent := (List.range n).map (markE k)
theorem marksE_len (k : Int) (n : Nat) : (marksE k n).length = n := by simp [marksE]
theorem marksE_get (k : Int) (n j : Nat) (h : j < n) : E (marksE k n) j = markE k j := by rw [E_get (by rw [marksE_len]; exact h)]; simp [marksE]
theorem marksE_succ (k : Int) (n : Nat) : marksE k (n + 1) = marksE k n ++ [markE k n] := by simp [marksE, List.range_succ]
theorem marksE_wf {k : Int} {n : Nat} (h0 : 0 ≤ k) (h1 : k + 4 * n ≤ 4611686018427387904) : AllE (marksE k n) := by
  intro x hx
  simp only [marksE, List.mem_map, List.mem_range] at hx
  obtain ⟨i, hi, rfl⟩ := hx
  unfold Ent.wf markE I64
  simp only
  omega
theorem markE_step (es : List Ent) (k : Int) (j : Nat) (h : j < es.length) : (marksE k j ++ es.drop j).set j (markE k j) = marksE k (j + 1) ++ es.drop (j + 1) := by
  rw [List.set_append_right _ _ (by rw [marksE_len]; exact Nat.le_refl _), marksE_len, marksE_succ, List.append_assoc]
  rw [List.drop_eq_getElem_cons h, Nat.sub_self]
  rfl

/-- The row v was marked from k on. -/
def MarkedE (base : Nat) (v : Value) (k : Int) (n : Nat) (w : World) (e : Ending) (w' : World) : Prop :=
  e = .returned (.int .i64 (k + 4 * n)) ∧ OwnE base w' v (marksE k n) ∧ w.grownBy w' v.ownBlock ∧ w'.heap.size = w.heap.size ∧ Below base w w'

set_option maxHeartbeats 1000000 in
set_option maxRecDepth 100000 in
theorem markEntryS_any (base : Nat) (v : Value) (es : List Ent) (k : Int) (n : Nat) (w : World) (hown : OwnE base w v es) (hl : es.length = n) (hk0 : 0 ≤ k) (hk : k ≤ 1152921504606846976) (hn : n ≤ 1048576) (hbase : base ≤ w.heap.size) :
    Calls Try.prog 19 #[v, .int .i64 k] w (MarkedE base v k n w) := by
  unfold OwnE at hown
  rw [hl] at hown
  rcases hown.2 with ⟨rfl, h0⟩ | ⟨g, cap, cur, rfl, hbg, hg, hnc, hcm, hcs, htake⟩
  · subst h0
    have hx : es = [] := List.eq_nil_of_length_eq_zero hl
    subst hx
    go_enter Try.func19, Try.ntmps19
    go_wp2
    refine wp_loop_rounds 1 ?_
    rw [rounds_succ]
    go_wp2
    go_ret
    exact ⟨ret_int (by simp), ownE_nil _ _, World.grownBy.refl _ _, rfl, Below.refl _ _⟩
  · clear hcs htake hcm hnc
    have hgs := (World.ownsRow.lt hown g rfl).2
    have HN := Lib.hid hl; clear hl
    have hdrop : flatE es = flatE (marksE k 0 ++ es.drop 0) := by simp [marksE]
    rw [hdrop] at hown
    clear hdrop hg
    go_enter Try.func19, Try.ntmps19
    go_wp2
    go_loopw [1, 5] (fun sk si wr => ∃ j : Nat, j ≤ n ∧ si = .int .i64 j ∧ sk = .int .i64 (k + 4 * j) ∧ wr.ownsRow base 33 4 (.slice (some ⟨g, 0, none⟩) n cap) n (flatE (marksE k j ++ es.drop j)) ∧ Only g w wr) (fun _ si _ => n - (intOf si).toNat)
    case atStart => exact ⟨0, Nat.zero_le _, rfl, by simp, hown, Only.refl _ _⟩
    case round =>
      obtain ⟨j, hj, rfl, rfl, how, hon⟩ := hrel
      by_cases hlt : j < n
      · have hll : (marksE k j ++ es.drop j).length = n := by have := HN.out; rw [List.length_append, marksE_len, List.length_drop]; omega
        obtain ⟨q0, q1, q2, q3⟩ := OwnE.ent4 how hll j hlt
        generalize E (marksE k j ++ es.drop j) j = x at q0 q1 q2 q3
        have f0 := how.frozenAt (j * 4); have f1 := how.frozenAt (j * 4 + 1); have f2 := how.frozenAt (j * 4 + 2); have f3 := how.frozenAt (j * 4 + 3)
        have hst := OwnE.store how hll j hlt (markE k j)
        rw [markE_step es k j (by have := HN.out; omega)] at hst
        have HST := Lib.hid hst; clear hst how hll
        have i1 : (0 : Int) ≤ j := by omega
        have i2 : (j : Int) < n := by omega
        have ho4 := Lib.hid ((((hon.setCell (j * 4) (.int .i64 (markE k j).o)).setCell (j * 4 + 1) (.int .i64 (markE k j).s)).setCell (j * 4 + 2) (.int .i64 (markE k j).a)).setCell (j * 4 + 3) (.int .i64 (markE k j).d))
        go_wp2
        go_roundw
        case rel => exact ⟨j + 1, by omega, by go_num, by go_num, HST.out, ho4.out⟩
        case measure => simp [intOf]; omega
      · have ej : j = n := by omega
        subst ej
        have hl := HN.out
        rw [List.drop_of_length_le (by omega), List.append_nil] at how
        go_wp2
        go_ret
        refine ⟨rfl, by unfold OwnE; rw [marksE_len]; exact how, hon.grown, hon.size, hon.below hbg hbase⟩

end Go.Proofs.Ytekjhcckepkmnaa
