/-
  An entry by the dice: spec.l3Draw, spec.l3DrawAny.
-/
import Derived.Test.YtekjhcckepkmnaaDiceNew
import Derived.Test.YtekjhcckepkmnaaDiceNum
import Derived.Test.YtekjhcckepkmnaaBlk
namespace Go.Proofs.Ytekjhcckepkmnaa
open Go.RowKit

def EntSaid (B g : Nat) (w : World) (e : Ending) (w' : World) : Prop := ∃ o s a d : Int, e = .returned (.agg #[.int .i64 o, .int .i64 s, .int .i64 a, .int .i64 d]) ∧ I64 o ∧ I64 s ∧ I64 a ∧ I64 d ∧ Keeps g w w' ∧ Dice B g w'

theorem below_set4 {C r : Nat} {w w4 : World} (h : Below C w w4) (hr : C ≤ r) (x y z u : Value) :
    Below C w ((((w4.setCell ⟨r, 0, none⟩ x).setCell ⟨r, 1, none⟩ y).setCell ⟨r, 2, none⟩ z).setCell ⟨r, 3, none⟩ u) :=
  (((h.setCell (by exact hr) _).setCell (by exact hr) _).setCell (by exact hr) _).setCell (by exact hr) _

theorem stored4 {B g r : Nat} {w w4 : World} (hg : g < w.heap.size) (hr : w.heap.size ≤ r) (hk : Keeps g w w4) (hd : Dice B g w4) (x y z u : Value) :
    Keeps g w ((((w4.setCell ⟨r, 0, none⟩ x).setCell ⟨r, 1, none⟩ y).setCell ⟨r, 2, none⟩ z).setCell ⟨r, 3, none⟩ u) ∧ Dice B g ((((w4.setCell ⟨r, 0, none⟩ x).setCell ⟨r, 1, none⟩ y).setCell ⟨r, 2, none⟩ z).setCell ⟨r, 3, none⟩ u) := by
  have hb : Below w.heap.size w4 ((((w4.setCell ⟨r, 0, none⟩ x).setCell ⟨r, 1, none⟩ y).setCell ⟨r, 2, none⟩ z).setCell ⟨r, 3, none⟩ u) :=
    ((((Below.refl _ _).setCell (by exact hr) _).setCell (by exact hr) _).setCell (by exact hr) _).setCell (by exact hr) _
  exact ⟨hk.then_below hb, hd.below' hb hg⟩

theorem stored1 {B g r k : Nat} {w w4 : World} (hg : g < w.heap.size) (hr : w.heap.size ≤ r) (hk : Keeps g w w4) (hd : Dice B g w4) (x : Value) :
    Keeps g w (w4.setCell ⟨r, k, none⟩ x) ∧ Dice B g (w4.setCell ⟨r, k, none⟩ x) := by
  have hb : Below w.heap.size w4 (w4.setCell ⟨r, k, none⟩ x) := (Below.refl _ _).setCell (by exact hr) _
  exact ⟨hk.then_below hb, hd.below' hb hg⟩

set_option maxHeartbeats 1000000 in
set_option maxRecDepth 100000 in
theorem l3Draw_any (B g : Nat) (w : World) (hd : Dice B g w) :
    Calls Try.prog 51 #[.pointer (some ⟨g, 0, none⟩)] w (EntSaid B g w) := by
  go_enter Try.func51, Try.ntmps51
  go_wp2_with fail
  refine (l1Below_any B g 4 _ (hd.alloc _) ⟨by decide, by decide⟩).mono ?_
  rintro e w1 ⟨r1, rfl, hr1, -, ho1, hd1⟩
  have hr1 : (r1 : Int) < 4 := hr1 (by omega)
  go_wp2_with fail
  refine (l1Below_any B g 5 _ hd1 ⟨by decide, by decide⟩).mono ?_
  rintro e w2 ⟨r2, rfl, hr2, -, ho2, hd2⟩
  have hr2 : (r2 : Int) < 5 := hr2 (by omega)
  go_wp2_with fail
  refine (l1Below_any B g 300 _ hd2 ⟨by decide, by decide⟩).mono ?_
  rintro e w3 ⟨r3, rfl, hr3, -, ho3, hd3⟩
  have hr3 : (r3 : Int) < 300 := hr3 (by omega)
  go_wp2_with fail
  refine (l1Below_any B g 20 _ hd3 ⟨by decide, by decide⟩).mono ?_
  rintro e w4 ⟨r4, rfl, hr4, -, ho4, hd4⟩
  have hr4 : (r4 : Int) < 20 := hr4 (by omega)
  have hk : Keeps g (w.alloc (.cells #[.int .i64 0, .int .i64 0, .int .i64 0, .int .i64 0] 33)) w4 := (((ho1.trans ho2).trans ho3).trans ho4).keeps
  have hg := hd.hg
  have hB := (Blk.new w 33 #[.int .i64 0, .int .i64 0, .int .i64 0, .int .i64 0]).keeps hk (by omega)
  have c0 := hB.cell 0; have c1 := hB.cell 1; have c2 := hB.cell 2; have c3 := hB.cell 3
  have f0 := hB.frozen 0; have f1 := hB.frozen 1; have f2 := hB.frozen 2; have f3 := hB.frozen 3
  clear ho1 ho2 ho3 ho4 hd1 hd2 hd3
  go_wp2_with fail
  refine bodyPost_ret (v := .agg #[.int .i64 r1, .int .i64 r2, .int .i64 (1 + r3), .int .i64 (1 + r4)]) (by simp [results, Try.results51, go_sem, c0, c1, c2, c3]) rfl ?_
  exact ⟨_, _, _, _, rfl, by unfold I64; omega, by unfold I64; omega, by unfold I64; omega, by unfold I64; omega, stored4 hg (Nat.le_refl _) ((Keeps.alloc _ _ _).trans hk) hd4 _ _ _ _⟩

set_option maxHeartbeats 1000000 in
set_option maxRecDepth 100000 in
theorem l3DrawAny_any (B g : Nat) (w : World) (hd : Dice B g w) :
    Calls Try.prog 40 #[.pointer (some ⟨g, 0, none⟩)] w (EntSaid B g w) := by
  have hg := hd.hg
  go_enter Try.func40, Try.ntmps40
  go_wp2_with fail
  refine (l3Draw_any B g _ (hd.alloc _)).mono ?_
  rintro e w1 ⟨o, s, a, d, rfl, ho, hs, ha, hdd, hk1, hd1⟩
  have hB1 := (Blk.new w 33 #[.int .i64 0, .int .i64 0, .int .i64 0, .int .i64 0]).keeps hk1 (by omega)
  have hlt1 := hB1.lt
  have hk01 := (Keeps.alloc g w (.cells #[.int .i64 0, .int .i64 0, .int .i64 0, .int .i64 0] 33)).trans hk1
  go_wp2_with fail
  refine (l1Once_any B g 5 _ (hd1.alloc _) ⟨by decide, by decide⟩).mono ?_
  rintro e w2 ⟨b2, rfl, ho2, hd2⟩
  have hE2 := (Blk.new w1 33 #[.int .i64 o, .int .i64 s, .int .i64 a, .int .i64 d]).keeps ho2.keeps (by omega)
  have hB2 := (hB1.alloc (.cells #[.int .i64 o, .int .i64 s, .int .i64 a, .int .i64 d] 33)).keeps ho2.keeps (by omega)
  have hk02 := (hk01.trans (Keeps.alloc g w1 (.cells #[.int .i64 o, .int .i64 s, .int .i64 a, .int .i64 d] 33))).trans ho2.keeps
  clear hk1 hd1 hB1 ho2 hk01
  have hne : w1.heap.size ≠ w.heap.size := by omega
  have hne' : w.heap.size ≠ w1.heap.size := by omega
  rcases b2 with _ | _
  · have c0 := hB2.cell 0; have c1 := hB2.cell 1; have c2 := hB2.cell 2; have c3 := hB2.cell 3
    have f0 := hB2.frozen 0; have f1 := hB2.frozen 1; have f2 := hB2.frozen 2; have f3 := hB2.frozen 3
    have e0 := hE2.cell 0; have e1 := hE2.cell 1; have e2 := hE2.cell 2; have e3 := hE2.cell 3
    go_wp2_with fail
    refine bodyPost_ret (v := .agg #[.int .i64 o, .int .i64 s, .int .i64 a, .int .i64 d]) (by simp [results, Try.results40, go_sem, c0, c1, c2, c3]) rfl ?_
    exact ⟨_, _, _, _, rfl, ho, hs, ha, hdd, stored4 hg (Nat.le_refl _) hk02 hd2 _ _ _ _⟩
  · go_wp2_with fail
    refine (l1Below_any B g 4 _ hd2 ⟨by decide, by decide⟩).mono ?_
    rintro e w3 ⟨r, rfl, hr, -, ho3, hd3⟩
    have hr : (r : Int) < 4 := hr (by omega)
    have hE3 := hE2.keeps ho3.keeps (by omega)
    have hB3 := hB2.keeps ho3.keeps (by omega)
    have hk03 := hk02.trans ho3.keeps
    clear hE2 hB2 hk02 ho3 hd2
    have hr' : r = 0 ∨ r = 1 ∨ r = 2 ∨ r = 3 := by omega
    rcases hr' with rfl | rfl | rfl | rfl
    · go_wp2_with fail
      refine (l1From_any B g (-1) 4 _ hd3 (by decide) (by decide) (by decide) (by decide)).mono ?_
      rintro e w4 ⟨x, rfl, hx0, hx1, ho4, hd4⟩
      have hx : I64 x := by unfold I64; omega
      have ho4 := ho4.keeps
      have hE4 := hE3.keeps ho4 (by omega)
      have hB4 := hB3.keeps ho4 (by omega)
      have hk04 := hk03.trans ho4
      clear hE3 hB3 hk03 ho4 hd3
      have c0 := hB4.cell 0; have c1 := hB4.cell 1; have c2 := hB4.cell 2; have c3 := hB4.cell 3
      have f0 := hB4.frozen 0; have f1 := hB4.frozen 1; have f2 := hB4.frozen 2; have f3 := hB4.frozen 3
      have e0 := hE4.cell 0; have e1 := hE4.cell 1; have e2 := hE4.cell 2; have e3 := hE4.cell 3
      have n0 := hE4.frozen 0; have n1 := hE4.frozen 1; have n2 := hE4.frozen 2; have n3 := hE4.frozen 3
      go_wp2_with fail
      refine bodyPost_ret (v := .agg #[.int .i64 x, .int .i64 s, .int .i64 a, .int .i64 d]) (by simp [results, Try.results40, go_sem, c0, c1, c2, c3]) rfl ?_
      have hst := stored1 (k := 0) hg (Nat.le_of_lt hlt1) hk04 hd4 (.int .i64 x)
      exact ⟨_, _, _, _, rfl, hx, hs, ha, hdd, stored4 hg (Nat.le_refl _) hst.1 hst.2 _ _ _ _⟩
    · go_wp2_with fail
      refine (l1From_any B g (-1) 5 _ hd3 (by decide) (by decide) (by decide) (by decide)).mono ?_
      rintro e w4 ⟨x, rfl, hx0, hx1, ho4, hd4⟩
      have hx : I64 x := by unfold I64; omega
      have ho4 := ho4.keeps
      have hE4 := hE3.keeps ho4 (by omega)
      have hB4 := hB3.keeps ho4 (by omega)
      have hk04 := hk03.trans ho4
      clear hE3 hB3 hk03 ho4 hd3
      have c0 := hB4.cell 0; have c1 := hB4.cell 1; have c2 := hB4.cell 2; have c3 := hB4.cell 3
      have f0 := hB4.frozen 0; have f1 := hB4.frozen 1; have f2 := hB4.frozen 2; have f3 := hB4.frozen 3
      have e0 := hE4.cell 0; have e1 := hE4.cell 1; have e2 := hE4.cell 2; have e3 := hE4.cell 3
      have n0 := hE4.frozen 0; have n1 := hE4.frozen 1; have n2 := hE4.frozen 2; have n3 := hE4.frozen 3
      go_wp2_with fail
      refine bodyPost_ret (v := .agg #[.int .i64 o, .int .i64 x, .int .i64 a, .int .i64 d]) (by simp [results, Try.results40, go_sem, c0, c1, c2, c3]) rfl ?_
      have hst := stored1 (k := 1) hg (Nat.le_of_lt hlt1) hk04 hd4 (.int .i64 x)
      exact ⟨_, _, _, _, rfl, ho, hx, ha, hdd, stored4 hg (Nat.le_refl _) hst.1 hst.2 _ _ _ _⟩
    · go_wp2_with fail
      refine (l1Num_any B g 1000000 _ hd3 (by decide) (by decide)).mono ?_
      rintro e w4 ⟨x, rfl, hx, ho4, hd4⟩
      have hE4 := hE3.keeps ho4 (by omega)
      have hB4 := hB3.keeps ho4 (by omega)
      have hk04 := hk03.trans ho4
      clear hE3 hB3 hk03 ho4 hd3
      have c0 := hB4.cell 0; have c1 := hB4.cell 1; have c2 := hB4.cell 2; have c3 := hB4.cell 3
      have f0 := hB4.frozen 0; have f1 := hB4.frozen 1; have f2 := hB4.frozen 2; have f3 := hB4.frozen 3
      have e0 := hE4.cell 0; have e1 := hE4.cell 1; have e2 := hE4.cell 2; have e3 := hE4.cell 3
      have n0 := hE4.frozen 0; have n1 := hE4.frozen 1; have n2 := hE4.frozen 2; have n3 := hE4.frozen 3
      go_wp2_with fail
      refine bodyPost_ret (v := .agg #[.int .i64 o, .int .i64 s, .int .i64 x, .int .i64 d]) (by simp [results, Try.results40, go_sem, c0, c1, c2, c3]) rfl ?_
      have hst := stored1 (k := 2) hg (Nat.le_of_lt hlt1) hk04 hd4 (.int .i64 x)
      exact ⟨_, _, _, _, rfl, ho, hs, hx, hdd, stored4 hg (Nat.le_refl _) hst.1 hst.2 _ _ _ _⟩
    · go_wp2_with fail
      refine (l1Num_any B g 100000 _ hd3 (by decide) (by decide)).mono ?_
      rintro e w4 ⟨x, rfl, hx, ho4, hd4⟩
      have hE4 := hE3.keeps ho4 (by omega)
      have hB4 := hB3.keeps ho4 (by omega)
      have hk04 := hk03.trans ho4
      clear hE3 hB3 hk03 ho4 hd3
      have c0 := hB4.cell 0; have c1 := hB4.cell 1; have c2 := hB4.cell 2; have c3 := hB4.cell 3
      have f0 := hB4.frozen 0; have f1 := hB4.frozen 1; have f2 := hB4.frozen 2; have f3 := hB4.frozen 3
      have e0 := hE4.cell 0; have e1 := hE4.cell 1; have e2 := hE4.cell 2; have e3 := hE4.cell 3
      have n0 := hE4.frozen 0; have n1 := hE4.frozen 1; have n2 := hE4.frozen 2; have n3 := hE4.frozen 3
      go_wp2_with fail
      refine bodyPost_ret (v := .agg #[.int .i64 o, .int .i64 s, .int .i64 a, .int .i64 x]) (by simp [results, Try.results40, go_sem, c0, c1, c2, c3]) rfl ?_
      have hst := stored1 (k := 3) hg (Nat.le_of_lt hlt1) hk04 hd4 (.int .i64 x)
      exact ⟨_, _, _, _, rfl, ho, hs, ha, hx, stored4 hg (Nat.le_refl _) hst.1 hst.2 _ _ _ _⟩

end Go.Proofs.Ytekjhcckepkmnaa
