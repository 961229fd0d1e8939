/-
  Vectors inside the program: a struct that holds an array of four dots; impl.vectorFrom.
-/
import Derived.Test.YtekjhcckepkmnaaVec
import Derived.Test.YtekjhcckepkmnaaBlk
import Derived.Deep.WholeRow
namespace Go.Proofs.Ytekjhcckepkmnaa
open Go.RowKit

/-- A vector as a value. -/
def V4 (a b c d : Int) : Value := .agg #[.int .i64 a, .int .i64 b, .int .i64 c, .int .i64 d]

def FromR (xs : List Int) (w : World) (e : Ending) (w' : World) : Prop :=
  ∃ a b c d : Int, e = .returned (.tuple #[.agg #[.int .i64 a, .int .i64 b, .int .i64 c, .int .i64 d], .bool (vecOk xs)]) ∧ (vecOk xs = true → xs = [a, b, c, d]) ∧ Below w.heap.size w w'

def dot4 (xs : List Int) (k j : Nat) : Int := if j < k then xs.getD j 0 else 0
def dots (xs : List Int) (k : Nat) : Array Value := #[.int .i64 (dot4 xs k 0), .int .i64 (dot4 xs k 1), .int .i64 (dot4 xs k 2), .int .i64 (dot4 xs k 3)]
theorem dots0 (xs : List Int) : dots xs 0 = #[.int .i64 0, .int .i64 0, .int .i64 0, .int .i64 0] := by simp [dots, dot4]
theorem dots_at (xs : List Int) {k : Nat} (h : k < 4) : (dots xs k)[k]? = some (.int .i64 0) := by
  have h : k = 0 ∨ k = 1 ∨ k = 2 ∨ k = 3 := by omega
  rcases h with rfl | rfl | rfl | rfl <;> simp [dots, dot4]
theorem dots_set (xs : List Int) {k : Nat} (h : k < 4) : (dots xs k).setIfInBounds k (.int .i64 (xs.getD k 0)) = dots xs (k + 1) := by
  have h : k = 0 ∨ k = 1 ∨ k = 2 ∨ k = 3 := by omega
  rcases h with rfl | rfl | rfl | rfl <;> simp [dots, dot4]
theorem dots4 (xs : List Int) : dots xs 4 = #[.int .i64 (xs.getD 0 0), .int .i64 (xs.getD 1 0), .int .i64 (xs.getD 2 0), .int .i64 (xs.getD 3 0)] := rfl
theorem vecList4 {xs : List Int} (h : xs.length = 4) : xs = [xs.getD 0 0, xs.getD 1 0, xs.getD 2 0, xs.getD 3 0] := by
  match xs, h with
  | [_, _, _, _], _ => rfl

set_option maxHeartbeats 1000000 in
set_option maxRecDepth 100000 in
theorem vectorFrom_any (B : Nat) (ao : Option Addr) (n cap : Nat) (xs : List Int) (w : World) (hx : Ints B w ao n cap xs) (hB : B ≤ w.heap.size) :
    Calls Try.prog 25 #[.slice ao n cap] w (FromR xs w) := by
  have hx0 := hx.hlen; have hx1 := hx.hcap; have hx2 := hx.hmax
  unfold maxLen at hx2
  by_cases h4 : n = 4
  · subst h4
    have HX := Lib.hid hx0; clear hx0
    unfold FromR
    generalize hv : vecOk xs = v
    have HV := Lib.hid hv; clear hv
    go_enter Try.func25, Try.ntmps25
    go_wp2
    go_loopw [5, 6, 13] (fun _ _ i wr => ∃ k : Nat, k ≤ 4 ∧ i = .int .i64 k ∧ Hid (vecPre xs k) ∧ Blk wr w.heap.size 51 (dots xs 0) ∧ Blk wr (w.heap.size + 1) 51 (dots xs k) ∧ Below w.heap.size w wr) (fun _ _ i _ => 4 - (intOf i).toNat)
    case atStart =>
      refine ⟨0, Nat.zero_le _, rfl, Lib.hid (fun j hj => absurd hj (by omega)), ?_, ?_, ((Below.refl _ _).alloc (Nat.le_refl _) _).alloc (by simp) _⟩
      · rw [dots0]; exact heap_alloc2_old _ _ _
      · rw [dots0]; exact heap_alloc2_new _ _ _
    case round =>
      obtain ⟨k, hk, rfl, ht, hr0, hr1, hbel⟩ := hrel
      by_cases hlt : k < 4
      · obtain ⟨b, off, rfl, hbB, hc⟩ := (hx.below hbel hB (Nat.le_refl _)).at k hlt
        have g1 := hc k hlt
        clear hc
        have q1 : wr.cell? ⟨w.heap.size + 1, k, none⟩ = some (.int .i64 0) := by rw [hr1.cell, dots_at _ hlt]
        have f1 := hr1.frozen k
        have hset := hr1.set_ k (.int .i64 (xs.getD k 0))
        rw [dots_set _ hlt] at hset
        have hno : inB (xs.getD k 0) 0 100000 = false → v = false := fun h => by rw [← HV.out]; exact vec_bad hlt h
        have hyes : inB (xs.getD k 0) 0 100000 = true → vecPre xs (k + 1) := fun h j hj => by
          by_cases e : j = k
          · subst e; exact h
          · exact ht.out j (by omega)
        have hin : inB (xs.getD k 0) 0 100000 = decide (0 ≤ xs.getD k 0 ∧ xs.getD k 0 ≤ 100000) := rfl
        have hr0' := hr0.far (p := ⟨w.heap.size + 1, k, none⟩) (by simp) (.int .i64 (xs.getD k 0))
        have HSET := Lib.hid hset; have HR0' := Lib.hid hr0'
        clear hset hr0'
        generalize inB (xs.getD k 0) 0 100000 = bb at hno hyes hin
        generalize xs.getD k 0 = x at g1 hin HSET HR0'
        have HN := Lib.hid hno; have HY := Lib.hid hyes; clear hno hyes
        have i1 : (k : Int) < 4 := by omega
        have i2 : (0 : Int) ≤ k := by omega
        have z0 := hr0.cell 0; have z1 := hr0.cell 1; have z2 := hr0.cell 2; have z3 := hr0.cell 3
        have y0 := hr0.frozen 0; have y1 := hr0.frozen 1; have y2 := hr0.frozen 2; have y3 := hr0.frozen 3
        simp [dots0] at z0 z1 z2 z3
        rcases bb with _ | _
        · have hvv := Lib.hid (HN.out rfl); clear HN HY
          have hn := of_decide_eq_false hin.symm
          clear hin
          by_cases hx0 : x < 0
          · go_wp2
            refine bodyPost_ret (v := .tuple #[.agg #[.int .i64 0, .int .i64 0, .int .i64 0, .int .i64 0], .bool false]) (by simp [results, Try.results25, go_sem, z0, z1, z2, z3]) rfl ?_
            exact ⟨0, 0, 0, 0, by rw [hvv.out], (fun h => by rw [hvv.out] at h; cases h), ((((hbel.setCell (by simp) _).setCell (by simp) _).setCell (by simp) _).setCell (by simp) _)⟩
          · have hx1 : 100000 < x := by omega
            go_wp2
            refine bodyPost_ret (v := .tuple #[.agg #[.int .i64 0, .int .i64 0, .int .i64 0, .int .i64 0], .bool false]) (by simp [results, Try.results25, go_sem, z0, z1, z2, z3]) rfl ?_
            exact ⟨0, 0, 0, 0, by rw [hvv.out], (fun h => by rw [hvv.out] at h; cases h), ((((hbel.setCell (by simp) _).setCell (by simp) _).setCell (by simp) _).setCell (by simp) _)⟩
        · have hvv := Lib.hid (HY.out rfl); clear HN HY
          obtain ⟨hy1, hy2⟩ := of_decide_eq_true hin.symm
          clear hin
          go_wp2
          go_roundw
          case rel => exact ⟨k + 1, by omega, by go_num, hvv, HR0'.out, HSET.out, hbel.setCell (by simp) _⟩
          case measure => simp [intOf]; omega
      · have ek : k = 4 := by omega
        subst ek
        have hv : v = true := by rw [← HV.out]; exact vecPre_all HX.out ht.out
        subst hv
        have hl4 := vecList4 HX.out
        rw [dots0] at hr0
        rw [dots4] at hr1
        generalize xs.getD 0 0 = x0 at hr1 hl4
        generalize xs.getD 1 0 = x1 at hr1 hl4
        generalize xs.getD 2 0 = x2 at hr1 hl4
        generalize xs.getD 3 0 = x3 at hr1 hl4
        have HL4 := Lib.hid hl4; clear hl4
        have z0 := hr1.cell 0; have z1 := hr1.cell 1; have z2 := hr1.cell 2; have z3 := hr1.cell 3
        have q0 := hr0.cell 0; have q1 := hr0.cell 1; have q2 := hr0.cell 2; have q3 := hr0.cell 3
        have y0 := hr0.frozen 0; have y1 := hr0.frozen 1; have y2 := hr0.frozen 2; have y3 := hr0.frozen 3
        simp at z0 z1 z2 z3 q0 q1 q2 q3
        go_wp2
        refine bodyPost_ret (v := .tuple #[.agg #[.int .i64 x0, .int .i64 x1, .int .i64 x2, .int .i64 x3], .bool true]) (by simp [results, Try.results25, go_sem, q0, q1, q2, q3]) rfl ?_
        exact ⟨x0, x1, x2, x3, rfl, HL4.out, ((((hbel.setCell (by simp) _).setCell (by simp) _).setCell (by simp) _).setCell (by simp) _)⟩
  · have hv := vec_badlen (xs := xs) (by omega)
    have hb : ((n : Int) != 4) = true := by rw [bne_iff_ne]; omega
    unfold FromR
    rw [hv]
    clear hx0
    go_enter Try.func25, Try.ntmps25
    go_wp2
    refine bodyPost_ret (v := .tuple #[.agg #[.int .i64 0, .int .i64 0, .int .i64 0, .int .i64 0], .bool false]) (by simp [results, Try.results25, go_sem]) rfl ?_
    exact ⟨0, 0, 0, 0, rfl, (fun h => by cases h), (Below.refl _ _).alloc (Nat.le_refl _) _⟩

end Go.Proofs.Ytekjhcckepkmnaa
