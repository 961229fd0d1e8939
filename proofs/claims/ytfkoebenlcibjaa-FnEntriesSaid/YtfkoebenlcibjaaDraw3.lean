/-
  What is drawn for chapter 3.
-/
import Derived.Test.YtfkoebenlcibjaaDrawE
namespace Go.Proofs.Ytfkoebenlcibjaa
open Go.RowKit

/-- A drawn entry, in no memory of the call's own. -/
def EntDrawn (w : World) (e : Ending) (w' : World) : Prop := ∃ o s a d : Int, e = .returned (.agg #[.int .i64 o, .int .i64 s, .int .i64 a, .int .i64 d]) ∧ I64 o ∧ I64 s ∧ I64 a ∧ I64 d ∧ Below w.heap.size w w'

set_option maxHeartbeats 1000000 in
set_option maxRecDepth 100000 in
theorem drawEntryOk_any (B : Nat) (ao : Option Addr) (n cap : Nat) (bs : List Int) (w : World) (hb : Bytes B w ao n cap bs) (hB : B ≤ w.heap.size) (hn : n ≤ 1099511627776) :
    Calls Try.prog 7 #[.slice ao n cap] w (EntDrawn w) := by
  go_enter Try.func7, Try.ntmps7
  have hbA : Bytes w.heap.size (w.alloc (.cells #[.int .i64 0, .int .i64 0, .int .i64 0, .int .i64 0] 25)) ao n cap bs := hb.below ((Below.refl w.heap.size w).alloc (Nat.le_refl _) _) hB hB
  have hszE : (w.alloc (.cells #[.int .i64 0, .int .i64 0, .int .i64 0, .int .i64 0] 25)).heap.size = w.heap.size + 1 := by simp
  have hszA : w.heap.size ≤ (w.alloc (.cells #[.int .i64 0, .int .i64 0, .int .i64 0, .int .i64 0] 25)).heap.size := by simp
  go_wp2_with fail
  refine (l1New_any w.heap.size ao n cap bs _ hbA hszA hn).mono ?_
  rintro e w1 ⟨rfl, hd1, hb1⟩
  rw [hszE] at hd1 hb1
  have hb01 := ((Below.refl w.heap.size w).alloc (Nat.le_refl _) (.cells #[.int .i64 0, .int .i64 0, .int .i64 0, .int .i64 0] 25)).trans (hb1.mono (by simp))
  have hB1 := (Blk.new w 25 #[.int .i64 0, .int .i64 0, .int .i64 0, .int .i64 0]).below hb1 (by simp)
  go_wp2_with fail
  refine (l3DrawAny_any _ _ _ hd1).mono ?_
  rintro e w2 ⟨o, s, a, d, rfl, ho, hs, ha, hdd, hk2, hd2⟩
  have hB2 := hB1.keeps hk2 (by simp)
  have hb02 := hb01.trans (hk2.below (by simp) (by have := hB1.lt; omega))
  clear hb1 hb01 hB1 hd1
  have c0 := hB2.cell 0; have c1 := hB2.cell 1; have c2 := hB2.cell 2; have c3 := hB2.cell 3
  have f0 := hB2.frozen 0; have f1 := hB2.frozen 1; have f2 := hB2.frozen 2; have f3 := hB2.frozen 3
  go_wp2_with fail
  refine bodyPost_ret (v := .agg #[.int .i64 o, .int .i64 s, .int .i64 a, .int .i64 d]) (by simp [results, Try.results7, go_sem, c0, c1, c2, c3]) rfl ?_
  exact ⟨_, _, _, _, rfl, ho, hs, ha, hdd, below_set4 hb02 (Nat.le_refl _) _ _ _ _⟩

set_option maxHeartbeats 1000000 in
set_option maxRecDepth 100000 in
theorem drawKeyOf_any (B : Nat) (ao : Option Addr) (n cap : Nat) (bs : List Int) (w : World) (hb : Bytes B w ao n cap bs) (hB : B ≤ w.heap.size) (hn : n ≤ 1099511627776) :
    Calls Try.prog 8 #[.slice ao n cap] w (EntDrawn w) := by
  go_enter Try.func8, Try.ntmps8
  have hbA : Bytes w.heap.size (w.alloc (.cells #[.int .i64 0, .int .i64 0, .int .i64 0, .int .i64 0] 25)) ao n cap bs := hb.below ((Below.refl w.heap.size w).alloc (Nat.le_refl _) _) hB hB
  have hszE : (w.alloc (.cells #[.int .i64 0, .int .i64 0, .int .i64 0, .int .i64 0] 25)).heap.size = w.heap.size + 1 := by simp
  have hszA : w.heap.size ≤ (w.alloc (.cells #[.int .i64 0, .int .i64 0, .int .i64 0, .int .i64 0] 25)).heap.size := by simp
  go_wp2_with fail
  refine (l1New_any w.heap.size ao n cap bs _ hbA hszA hn).mono ?_
  rintro e w1 ⟨rfl, hd1, hb1⟩
  rw [hszE] at hd1 hb1
  have hb01 := ((Below.refl w.heap.size w).alloc (Nat.le_refl _) (.cells #[.int .i64 0, .int .i64 0, .int .i64 0, .int .i64 0] 25)).trans (hb1.mono (by simp))
  have hB1 := (Blk.new w 25 #[.int .i64 0, .int .i64 0, .int .i64 0, .int .i64 0]).below hb1 (by simp)
  go_wp2_with fail
  refine (l3DrawAny_any _ _ _ hd1).mono ?_
  rintro e w2 ⟨o, s, a, d, rfl, ho, hs, ha, hdd, hk2, hd2⟩
  have hB2 := hB1.keeps hk2 (by simp)
  have hb02 := hb01.trans (hk2.below (by simp) (by have := hB1.lt; omega))
  clear hb1 hb01 hB1 hd1
  have c0 := hB2.cell 0; have c1 := hB2.cell 1; have c2 := hB2.cell 2; have c3 := hB2.cell 3
  have f0 := hB2.frozen 0; have f1 := hB2.frozen 1; have f2 := hB2.frozen 2; have f3 := hB2.frozen 3
  go_wp2_with fail
  refine bodyPost_ret (v := .agg #[.int .i64 o, .int .i64 s, .int .i64 a, .int .i64 d]) (by simp [results, Try.results8, go_sem, c0, c1, c2, c3]) rfl ?_
  exact ⟨_, _, _, _, rfl, ho, hs, ha, hdd, below_set4 hb02 (Nat.le_refl _) _ _ _ _⟩

end Go.Proofs.Ytfkoebenlcibjaa
