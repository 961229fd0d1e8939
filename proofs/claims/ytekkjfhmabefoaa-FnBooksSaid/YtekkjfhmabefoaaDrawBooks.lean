/-
  What is drawn for chapter 4.
-/
import Derived.Test.YtekkjfhmabefoaaDraw4
import Derived.Test.YtekkjfhmabefoaaDiceNew
namespace Go.Proofs.Ytekkjfhmabefoaa
open Go.RowKit

set_option maxHeartbeats 1000000 in
theorem drawBookOk_any (B : Nat) (ao : Option Addr) (n cap : Nat) (bs : List Int) (w : World) (hb : Bytes B w ao n cap bs) (hB : B ≤ w.heap.size) (hn : n ≤ 1099511627776) :
    Calls Try.prog 12 #[.slice ao n cap] w (EsDrawn w) := by
  go_enter Try.func12, Try.ntmps12
  go_wp2_with fail
  refine (l1New_any B _ _ _ bs _ hb hB hn).mono ?_
  rintro e w1 ⟨rfl, hd1, hb1⟩
  go_wp2_with fail
  refine (l4DrawAny_any _ _ _ hd1).mono ?_
  rintro e w2 ⟨v, es, rfl, hown, hall, hlen, hk, hd2⟩
  go_wp2_with fail
  go_ret
  exact ⟨v, es, rfl, hown.mono hb1.size, hall, hlen, hb1.trans (hk.below (Nat.le_refl _) hb1.size)⟩

/-- A drawn row of entries and two numbers. -/
def EsTwoDrawn (w : World) (e : Ending) (w' : World) : Prop := ∃ v es o s, e = .returned (.tuple #[v, .int .i64 o, .int .i64 s]) ∧ OwnE w.heap.size w' v es ∧ AllE es ∧ es.length ≤ 21 ∧ I64 o ∧ I64 s ∧ Below w.heap.size w w'

set_option maxHeartbeats 1000000 in
theorem drawAmountAt_any (B : Nat) (ao : Option Addr) (n cap : Nat) (bs : List Int) (w : World) (hb : Bytes B w ao n cap bs) (hB : B ≤ w.heap.size) (hn : n ≤ 1099511627776) :
    Calls Try.prog 11 #[.slice ao n cap] w (EsTwoDrawn w) := by
  go_enter Try.func11, Try.ntmps11
  go_wp2_with fail
  refine (l1New_any B _ _ _ bs _ hb hB hn).mono ?_
  rintro e w1 ⟨rfl, hd1, hb1⟩
  have hg := hd1.hg
  go_wp2_with fail
  refine (l4DrawAny_any _ _ _ hd1).mono ?_
  rintro e w2 ⟨v, es, rfl, hown, hall, hlen, hk, hd2⟩
  go_wp2_with fail
  refine (l1From_any _ _ (-1) 4 _ hd2 (by decide) (by decide) (by decide) (by decide)).mono ?_
  rintro e w3 ⟨o, rfl, ho0, ho1, hn3, hd3⟩
  have hown3 := hown.keeps hn3.keeps hg
  go_wp2_with fail
  refine (l1From_any _ _ (-1) 5 _ hd3 (by decide) (by decide) (by decide) (by decide)).mono ?_
  rintro e w4 ⟨s, rfl, hs0, hs1, hn4, hd4⟩
  have hown4 := hown3.keeps hn4.keeps hg
  go_wp2_with fail
  go_ret3
  exact ⟨v, es, o, s, rfl, hown4.mono hb1.size, hall, hlen, by unfold I64; omega, by unfold I64; omega, hb1.trans (((hk.trans hn3.keeps).trans hn4.keeps).below (Nat.le_refl _) hb1.size)⟩

/-- A drawn row of entries and an entry. -/
def EsEntDrawn (w : World) (e : Ending) (w' : World) : Prop := ∃ v es, ∃ x : Ent, e = .returned (.tuple #[v, .agg #[.int .i64 x.o, .int .i64 x.s, .int .i64 x.a, .int .i64 x.d]]) ∧ OwnE w.heap.size w' v es ∧ AllE es ∧ es.length ≤ 21 ∧ x.wf ∧ Below w.heap.size w w'

set_option maxHeartbeats 1000000 in
set_option maxRecDepth 100000 in
theorem drawWith_any (B : Nat) (ao : Option Addr) (n cap : Nat) (bs : List Int) (w : World) (hb : Bytes B w ao n cap bs) (hB : B ≤ w.heap.size) (hn : n ≤ 1099511627776) :
    Calls Try.prog 8 #[.slice ao n cap] w (EsEntDrawn w) := by
  go_enter Try.func8, Try.ntmps8
  have hbA : Bytes w.heap.size (w.alloc (.cells #[.int .i64 0, .int .i64 0, .int .i64 0, .int .i64 0] 26)) ao n cap bs := hb.below ((Below.refl w.heap.size w).alloc (Nat.le_refl _) _) hB hB
  have hszE : (w.alloc (.cells #[.int .i64 0, .int .i64 0, .int .i64 0, .int .i64 0] 26)).heap.size = w.heap.size + 1 := by simp
  have hszA : w.heap.size ≤ (w.alloc (.cells #[.int .i64 0, .int .i64 0, .int .i64 0, .int .i64 0] 26)).heap.size := by simp
  have hbl := (Below.refl w.heap.size w).alloc (Nat.le_refl _) (.cells #[.int .i64 0, .int .i64 0, .int .i64 0, .int .i64 0] 26)
  have hB0 := Blk.new w 26 #[.int .i64 0, .int .i64 0, .int .i64 0, .int .i64 0]
  go_wp2_with fail
  refine (l1New_any w.heap.size ao n cap bs _ hbA hszA hn).mono ?_
  rintro e w1 ⟨rfl, hd1, hb1⟩
  rw [hszE] at hd1 hb1
  have hb01 := hbl.trans (hb1.mono (by simp))
  have hB1 := hB0.below hb1 (by simp)
  have hg := hd1.hg
  go_wp2_with fail
  refine (l4DrawAny_any _ _ _ hd1).mono ?_
  rintro e w2 ⟨v, es, rfl, hown, hall, hlen, hk, hd2⟩
  have hs1 := hB1.lt
  have hB2 := hB1.keeps hk (by simp)
  go_wp2_with fail
  refine (l3DrawAny_any _ _ _ hd2).mono ?_
  rintro e w3 ⟨o, s, a, d, rfl, ho, hs, ha, hdd, hk3, hd3⟩
  have hown3 := hown.keeps hk3 hg
  have hB3 := hB2.keeps hk3 (by simp)
  have hb03 := hb01.trans ((hk.trans hk3).below (by simp) (by omega))
  clear hb1 hb01 hB1 hB2 hd1 hd2 hk hk3 hown
  have c0 := hB3.cell 0; have c1 := hB3.cell 1; have c2 := hB3.cell 2; have c3 := hB3.cell 3
  have f0 := hB3.frozen 0; have f1 := hB3.frozen 1; have f2 := hB3.frozen 2; have f3 := hB3.frozen 3
  have hown4 : OwnE w.heap.size ((((w3.setCell ⟨w.heap.size, 0, none⟩ (.int .i64 o)).setCell ⟨w.heap.size, 1, none⟩ (.int .i64 s)).setCell ⟨w.heap.size, 2, none⟩ (.int .i64 a)).setCell ⟨w.heap.size, 3, none⟩ (.int .i64 d)) v es := by
    have h4 := hown3.keeps (g := w.heap.size) (w' := ((((w3.setCell ⟨w.heap.size, 0, none⟩ (.int .i64 o)).setCell ⟨w.heap.size, 1, none⟩ (.int .i64 s)).setCell ⟨w.heap.size, 2, none⟩ (.int .i64 a)).setCell ⟨w.heap.size, 3, none⟩ (.int .i64 d))) (((((Only.refl w.heap.size w3).setCell 0 _).setCell 1 _).setCell 2 _).setCell 3 _).keeps hs1
    exact h4.mono (by omega)
  have HO := Lib.hid hown4; clear hown4 hown3
  go_wp2_with fail
  refine bodyPost_ret (v := .tuple #[v, .agg #[.int .i64 o, .int .i64 s, .int .i64 a, .int .i64 d]]) (by simp [results, Try.results8, go_sem, c0, c1, c2, c3]) rfl ?_
  exact ⟨v, es, ⟨o, s, a, d⟩, rfl, HO.out, hall, hlen, ⟨ho, hs, ha, hdd⟩, below_set4 hb03 (Nat.le_refl _) _ _ _ _⟩

end Go.Proofs.Ytekkjfhmabefoaa
