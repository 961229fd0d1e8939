/- Texts of this claim, put together. -/
import Derived.Test.YtoniahfdjhhalaaGreatP1

namespace Go.Proofs.YtoniahfdjhhalaaGreat
open Go.RowKit
set_option maxHeartbeats 400000 in
theorem l1Odd_any (B g : Nat) (w : World) (hd : Dice B g w) :
    Calls Tryz.prog 87 #[.pointer (some ⟨g, 0, none⟩)] w (NumSaid B g w) := by
  have hg := hd.hg
  go_enter Tryz.func87, Tryz.ntmps87
  go_wp2_with fail
  refine (l1Below_any B g _ _ (hd.alloc _) ⟨by decide, by decide⟩).mono ?_
  rintro e w1 ⟨r1, rfl, hr1, hr2, ho1, hd1⟩
  have hr3 : (r1 : Int) < 10 := hr1 (by omega)
  clear hr1 hr2
  have hc := lit_cell w [-1, 0, 1, 2147483648, -2147483648, 1099511627776, 4611686018427387904, -4611686018427387904, 9223372036854775807, -9223372036854775808] g w1 (by exact ho1.keeps) hg r1 (by simp; omega)
  have hr : I64 (([-1, 0, 1, 2147483648, -2147483648, 1099511627776, 4611686018427387904, -4611686018427387904, 9223372036854775807, -9223372036854775808] : List Int).getD r1 0) :=
    all_getD (fun x hx => by simp at hx; unfold I64; omega) (by simp; omega)
  generalize ([-1, 0, 1, 2147483648, -2147483648, 1099511627776, 4611686018427387904, -4611686018427387904, 9223372036854775807, -9223372036854775808] : List Int).getD r1 0 = x at hc hr
  go_wp2_with fail
  go_ret
  exact ⟨_, rfl, hr, (Keeps.alloc g w _).trans ho1.keeps, hd1⟩
set_option maxHeartbeats 400000 in
theorem l1Min_any (a b : Int) (w : World) :
    Calls Tryz.prog 88 #[.int .i64 a, .int .i64 b] w fun e w' => e = .returned (.int .i64 (min a b)) ∧ w' = w := by
  by_cases h : a < b
  · go_enter Tryz.func88, Tryz.ntmps88
    go_wp2
    go_ret
    exact ⟨ret_int (by omega), rfl⟩
  · go_enter Tryz.func88, Tryz.ntmps88
    go_wp2
    go_ret
    exact ⟨ret_int (by omega), rfl⟩
set_option maxHeartbeats 400000 in
theorem l1Num_any (B g : Nat) (most : Int) (w : World) (hd : Dice B g w) (hm0 : 0 ≤ most) (hm1 : most ≤ 4611686018427387904) :
    Calls Tryz.prog 63 #[.pointer (some ⟨g, 0, none⟩), .int .i64 most] w (NumSaid B g w) := by
  go_enter Tryz.func63, Tryz.ntmps63
  go_wp2_with fail
  refine (l1Once_any B g _ _ hd ⟨by decide, by decide⟩).mono ?_
  rintro e w1 ⟨b1, rfl, ho1, hd1⟩
  rcases b1 with _ | _
  · go_wp2_with fail
    refine (l1Once_any B g _ _ hd1 ⟨by decide, by decide⟩).mono ?_
    rintro e w2 ⟨b2, rfl, ho2, hd2⟩
    rcases b2 with _ | _
    · go_wp2_with fail
      refine (l1Below_any B g _ _ hd2 ⟨by omega, by omega⟩).mono ?_
      rintro e w3 ⟨r3, rfl, hr3, hr4, ho3, hd3⟩
      have hr : I64 r3 := by unfold I64; have := hr3 (by omega); omega
      clear hr3 hr4
      go_wp2_with fail
      go_ret
      exact ⟨_, rfl, hr, ((ho1.trans ho2).trans ho3).keeps, hd3⟩
    · go_wp2_with fail
      refine (l1Min_any _ _ _).mono ?_
      rintro e w3 ⟨rfl, rfl⟩
      have hmn : 0 ≤ min most 4 ∧ min most 4 ≤ 4 := by omega
      generalize min most 4 = mn at hmn
      obtain ⟨hmn0, hmn1⟩ := hmn
      go_wp2_with fail
      refine (l1Below_any B g _ _ hd2 ⟨by omega, by omega⟩).mono ?_
      rintro e w3 ⟨r3, rfl, hr3, hr4, ho3, hd3⟩
      have hr : I64 r3 := by unfold I64; have := hr3 (by omega); omega
      clear hr3 hr4
      go_wp2_with fail
      go_ret
      exact ⟨_, rfl, hr, ((ho1.trans ho2).trans ho3).keeps, hd3⟩
  · go_wp2_with fail
    refine (l1Odd_any B g _ hd1).mono ?_
    rintro e w2 ⟨x, rfl, hx, ho2, hd2⟩
    go_wp2_with fail
    refine (l1Below_any B g _ _ (hd2.alloc _) ⟨by decide, by decide⟩).mono ?_
    rintro e w3 ⟨r1, rfl, hr1, hr2, ho3, hd3⟩
    have hr3 : (r1 : Int) < 4 := hr1 (by omega)
    clear hr1 hr2
    have hc := lit_cell w2 [-1, most, most + 1, x] g w3 (by exact ho3.keeps) hd2.hg r1 (by simp; omega)
    have hr : I64 (([-1, most, most + 1, x] : List Int).getD r1 0) :=
      all_getD (fun x hx' => by simp at hx'; unfold I64 at *; omega) (by simp; omega)
    generalize ([-1, most, most + 1, x] : List Int).getD r1 0 = y at hc hr
    go_wp2_with fail
    go_ret
    exact ⟨_, rfl, hr, ((ho1.keeps.trans ho2).trans (Keeps.alloc g _ _)).trans ho3.keeps, hd3⟩
def Blk (w : World) (g : Nat) (t : TypeId) (cs : Array Value) : Prop := w.heap[g]? = some (.cells cs t (0, 0))
theorem Blk.lt {w : World} {g : Nat} {t : TypeId} {cs : Array Value} (h : Blk w g t cs) : g < w.heap.size := (Array.getElem?_eq_some_iff.1 h).1
theorem Blk.cell {w : World} {g : Nat} {t : TypeId} {cs : Array Value} (h : Blk w g t cs) (i : Nat) : w.cell? ⟨g, i, none⟩ = cs[i]? := cell_of_row w g i cs t (0, 0) h
theorem Blk.frozen {w : World} {g : Nat} {t : TypeId} {cs : Array Value} (h : Blk w g t cs) (i : Nat) : w.frozen? ⟨g, i, none⟩ = false := by
  unfold Blk at h
  simp [World.frozen?, h]
theorem Blk.new (w : World) (t : TypeId) (cs : Array Value) : Blk (w.alloc (.cells cs t)) w.heap.size t cs := heap_alloc_new w _
theorem Blk.drewN {w : World} {g : Nat} {t : TypeId} {cs : Array Value} (h : Blk w g t cs) (n : Nat) : Blk (w.drewN n) g t cs := h
theorem Blk.alloc {w : World} {g : Nat} {t : TypeId} {cs : Array Value} (h : Blk w g t cs) (o : Obj) : Blk (w.alloc o) g t cs := (Below.heap_alloc w o g h.lt).trans h
theorem Blk.below {w w' : World} {g B : Nat} {t : TypeId} {cs : Array Value} (h : Blk w g t cs) (hb : Below B w w') (hg : g < B) : Blk w' g t cs := (hb.block g hg).trans h
theorem Blk.keeps {w w' : World} {g k : Nat} {t : TypeId} {cs : Array Value} (h : Blk w g t cs) (hb : Keeps k w w') (hne : g ≠ k) : Blk w' g t cs :=
  (hb.block g h.lt (fun e => hne (Option.some.inj e))).trans h
theorem Blk.set_ {w : World} {g : Nat} {t : TypeId} {cs : Array Value} (h : Blk w g t cs) (i : Nat) (u : Value) : Blk (w.setCell ⟨g, i, none⟩ u) g t (cs.setIfInBounds i u) := by
  unfold Blk at h ⊢
  simp [World.setCell, Array.getElem?_modify, h]
theorem Blk.far {w : World} {g : Nat} {t : TypeId} {cs : Array Value} (h : Blk w g t cs) {p : Addr} (hp : g ≠ p.block) (u : Value) : Blk (w.setCell p u) g t cs := (Below.heap_setCell w p u g hp).trans h
theorem Blk.set4 {w : World} {g : Nat} {t : TypeId} {a b c d : Value} (h : Blk w g t #[a, b, c, d]) (a' b' c' d' : Value) : Blk ((((w.setCell ⟨g, 0, none⟩ a').setCell ⟨g, 1, none⟩ b').setCell ⟨g, 2, none⟩ c').setCell ⟨g, 3, none⟩ d') g t #[a', b', c', d'] := by
  have h4 := (((h.set_ 0 a').set_ 1 b').set_ 2 c').set_ 3 d'
  simpa using h4
def EntSaid (B g : Nat) (w : World) (e : Ending) (w' : World) : Prop := ∃ o s a d : Int, e = .returned (.agg #[.int .i64 o, .int .i64 s, .int .i64 a, .int .i64 d]) ∧ I64 o ∧ I64 s ∧ I64 a ∧ I64 d ∧ Keeps g w w' ∧ Dice B g w'
theorem below_set4 {C r : Nat} {w w4 : World} (h : Below C w w4) (hr : C ≤ r) (x y z u : Value) :
    Below C w ((((w4.setCell ⟨r, 0, none⟩ x).setCell ⟨r, 1, none⟩ y).setCell ⟨r, 2, none⟩ z).setCell ⟨r, 3, none⟩ u) :=
  (((h.setCell (by exact hr) _).setCell (by exact hr) _).setCell (by exact hr) _).setCell (by exact hr) _
theorem stored4 {B g r : Nat} {w w4 : World} (hg : g < w.heap.size) (hr : w.heap.size ≤ r) (hk : Keeps g w w4) (hd : Dice B g w4) (x y z u : Value) :
    Keeps g w ((((w4.setCell ⟨r, 0, none⟩ x).setCell ⟨r, 1, none⟩ y).setCell ⟨r, 2, none⟩ z).setCell ⟨r, 3, none⟩ u) ∧ Dice B g ((((w4.setCell ⟨r, 0, none⟩ x).setCell ⟨r, 1, none⟩ y).setCell ⟨r, 2, none⟩ z).setCell ⟨r, 3, none⟩ u) := by
  have hb : Below w.heap.size w4 ((((w4.setCell ⟨r, 0, none⟩ x).setCell ⟨r, 1, none⟩ y).setCell ⟨r, 2, none⟩ z).setCell ⟨r, 3, none⟩ u) :=
    ((((Below.refl _ _).setCell (by exact hr) _).setCell (by exact hr) _).setCell (by exact hr) _).setCell (by exact hr) _
  exact ⟨hk.then_below hb, hd.below' hb hg⟩
theorem stored1 {B g r k : Nat} {w w4 : World} (hg : g < w.heap.size) (hr : w.heap.size ≤ r) (hk : Keeps g w w4) (hd : Dice B g w4) (x : Value) :
    Keeps g w (w4.setCell ⟨r, k, none⟩ x) ∧ Dice B g (w4.setCell ⟨r, k, none⟩ x) := by
  have hb : Below w.heap.size w4 (w4.setCell ⟨r, k, none⟩ x) := (Below.refl _ _).setCell (by exact hr) _
  exact ⟨hk.then_below hb, hd.below' hb hg⟩
set_option maxHeartbeats 1000000 in
set_option maxRecDepth 100000 in
theorem l3Draw_any (B g : Nat) (w : World) (hd : Dice B g w) :
    Calls Tryz.prog 61 #[.pointer (some ⟨g, 0, none⟩)] w (EntSaid B g w) := by
  go_enter Tryz.func61, Tryz.ntmps61
  go_wp2_with fail
  refine (l1Below_any B g 4 _ (hd.alloc _) ⟨by decide, by decide⟩).mono ?_
  rintro e w1 ⟨r1, rfl, hr1, -, ho1, hd1⟩
  have hr1 : (r1 : Int) < 4 := hr1 (by omega)
  go_wp2_with fail
  refine (l1Below_any B g 5 _ hd1 ⟨by decide, by decide⟩).mono ?_
  rintro e w2 ⟨r2, rfl, hr2, -, ho2, hd2⟩
  have hr2 : (r2 : Int) < 5 := hr2 (by omega)
  go_wp2_with fail
  refine (l1Below_any B g 300 _ hd2 ⟨by decide, by decide⟩).mono ?_
  rintro e w3 ⟨r3, rfl, hr3, -, ho3, hd3⟩
  have hr3 : (r3 : Int) < 300 := hr3 (by omega)
  go_wp2_with fail
  refine (l1Below_any B g 20 _ hd3 ⟨by decide, by decide⟩).mono ?_
  rintro e w4 ⟨r4, rfl, hr4, -, ho4, hd4⟩
  have hr4 : (r4 : Int) < 20 := hr4 (by omega)
  have hk : Keeps g (w.alloc (.cells #[.int .i64 0, .int .i64 0, .int .i64 0, .int .i64 0] 47)) w4 := (((ho1.trans ho2).trans ho3).trans ho4).keeps
  have hg := hd.hg
  have hB := (Blk.new w 47 #[.int .i64 0, .int .i64 0, .int .i64 0, .int .i64 0]).keeps hk (by omega)
  have c0 := hB.cell 0; have c1 := hB.cell 1; have c2 := hB.cell 2; have c3 := hB.cell 3
  have f0 := hB.frozen 0; have f1 := hB.frozen 1; have f2 := hB.frozen 2; have f3 := hB.frozen 3
  clear ho1 ho2 ho3 ho4 hd1 hd2 hd3
  go_wp2_with fail
  refine bodyPost_ret (v := .agg #[.int .i64 r1, .int .i64 r2, .int .i64 (1 + r3), .int .i64 (1 + r4)]) (by simp [results, Tryz.results61, go_sem, c0, c1, c2, c3]) rfl ?_
  exact ⟨_, _, _, _, rfl, by unfold I64; omega, by unfold I64; omega, by unfold I64; omega, by unfold I64; omega, stored4 hg (Nat.le_refl _) ((Keeps.alloc _ _ _).trans hk) hd4 _ _ _ _⟩
set_option maxHeartbeats 1000000 in
set_option maxRecDepth 100000 in
theorem l3DrawAny_any (B g : Nat) (w : World) (hd : Dice B g w) :
    Calls Tryz.prog 41 #[.pointer (some ⟨g, 0, none⟩)] w (EntSaid B g w) := by
  have hg := hd.hg
  go_enter Tryz.func41, Tryz.ntmps41
  go_wp2_with fail
  refine (l3Draw_any B g _ (hd.alloc _)).mono ?_
  rintro e w1 ⟨o, s, a, d, rfl, ho, hs, ha, hdd, hk1, hd1⟩
  have hB1 := (Blk.new w 47 #[.int .i64 0, .int .i64 0, .int .i64 0, .int .i64 0]).keeps hk1 (by omega)
  have hlt1 := hB1.lt
  have hk01 := (Keeps.alloc g w (.cells #[.int .i64 0, .int .i64 0, .int .i64 0, .int .i64 0] 47)).trans hk1
  go_wp2_with fail
  refine (l1Once_any B g 5 _ (hd1.alloc _) ⟨by decide, by decide⟩).mono ?_
  rintro e w2 ⟨b2, rfl, ho2, hd2⟩
  have hE2 := (Blk.new w1 47 #[.int .i64 o, .int .i64 s, .int .i64 a, .int .i64 d]).keeps ho2.keeps (by omega)
  have hB2 := (hB1.alloc (.cells #[.int .i64 o, .int .i64 s, .int .i64 a, .int .i64 d] 47)).keeps ho2.keeps (by omega)
  have hk02 := (hk01.trans (Keeps.alloc g w1 (.cells #[.int .i64 o, .int .i64 s, .int .i64 a, .int .i64 d] 47))).trans ho2.keeps
  clear hk1 hd1 hB1 ho2 hk01
  have hne : w1.heap.size ≠ w.heap.size := by omega
  have hne' : w.heap.size ≠ w1.heap.size := by omega
  rcases b2 with _ | _
  · have c0 := hB2.cell 0; have c1 := hB2.cell 1; have c2 := hB2.cell 2; have c3 := hB2.cell 3
    have f0 := hB2.frozen 0; have f1 := hB2.frozen 1; have f2 := hB2.frozen 2; have f3 := hB2.frozen 3
    have e0 := hE2.cell 0; have e1 := hE2.cell 1; have e2 := hE2.cell 2; have e3 := hE2.cell 3
    go_wp2_with fail
    refine bodyPost_ret (v := .agg #[.int .i64 o, .int .i64 s, .int .i64 a, .int .i64 d]) (by simp [results, Tryz.results41, go_sem, c0, c1, c2, c3]) rfl ?_
    exact ⟨_, _, _, _, rfl, ho, hs, ha, hdd, stored4 hg (Nat.le_refl _) hk02 hd2 _ _ _ _⟩
  · go_wp2_with fail
    refine (l1Below_any B g 4 _ hd2 ⟨by decide, by decide⟩).mono ?_
    rintro e w3 ⟨r, rfl, hr, -, ho3, hd3⟩
    have hr : (r : Int) < 4 := hr (by omega)
    have hE3 := hE2.keeps ho3.keeps (by omega)
    have hB3 := hB2.keeps ho3.keeps (by omega)
    have hk03 := hk02.trans ho3.keeps
    clear hE2 hB2 hk02 ho3 hd2
    have hr' : r = 0 ∨ r = 1 ∨ r = 2 ∨ r = 3 := by omega
    rcases hr' with rfl | rfl | rfl | rfl
    · go_wp2_with fail
      refine (l1From_any B g (-1) 4 _ hd3 (by decide) (by decide) (by decide) (by decide)).mono ?_
      rintro e w4 ⟨x, rfl, hx0, hx1, ho4, hd4⟩
      have hx : I64 x := by unfold I64; omega
      have ho4 := ho4.keeps
      have hE4 := hE3.keeps ho4 (by omega)
      have hB4 := hB3.keeps ho4 (by omega)
      have hk04 := hk03.trans ho4
      clear hE3 hB3 hk03 ho4 hd3
      have c0 := hB4.cell 0; have c1 := hB4.cell 1; have c2 := hB4.cell 2; have c3 := hB4.cell 3
      have f0 := hB4.frozen 0; have f1 := hB4.frozen 1; have f2 := hB4.frozen 2; have f3 := hB4.frozen 3
      have e0 := hE4.cell 0; have e1 := hE4.cell 1; have e2 := hE4.cell 2; have e3 := hE4.cell 3
      have n0 := hE4.frozen 0; have n1 := hE4.frozen 1; have n2 := hE4.frozen 2; have n3 := hE4.frozen 3
      go_wp2_with fail
      refine bodyPost_ret (v := .agg #[.int .i64 x, .int .i64 s, .int .i64 a, .int .i64 d]) (by simp [results, Tryz.results41, go_sem, c0, c1, c2, c3]) rfl ?_
      have hst := stored1 (k := 0) hg (Nat.le_of_lt hlt1) hk04 hd4 (.int .i64 x)
      exact ⟨_, _, _, _, rfl, hx, hs, ha, hdd, stored4 hg (Nat.le_refl _) hst.1 hst.2 _ _ _ _⟩
    · go_wp2_with fail
      refine (l1From_any B g (-1) 5 _ hd3 (by decide) (by decide) (by decide) (by decide)).mono ?_
      rintro e w4 ⟨x, rfl, hx0, hx1, ho4, hd4⟩
      have hx : I64 x := by unfold I64; omega
      have ho4 := ho4.keeps
      have hE4 := hE3.keeps ho4 (by omega)
      have hB4 := hB3.keeps ho4 (by omega)
      have hk04 := hk03.trans ho4
      clear hE3 hB3 hk03 ho4 hd3
      have c0 := hB4.cell 0; have c1 := hB4.cell 1; have c2 := hB4.cell 2; have c3 := hB4.cell 3
      have f0 := hB4.frozen 0; have f1 := hB4.frozen 1; have f2 := hB4.frozen 2; have f3 := hB4.frozen 3
      have e0 := hE4.cell 0; have e1 := hE4.cell 1; have e2 := hE4.cell 2; have e3 := hE4.cell 3
      have n0 := hE4.frozen 0; have n1 := hE4.frozen 1; have n2 := hE4.frozen 2; have n3 := hE4.frozen 3
      go_wp2_with fail
      refine bodyPost_ret (v := .agg #[.int .i64 o, .int .i64 x, .int .i64 a, .int .i64 d]) (by simp [results, Tryz.results41, go_sem, c0, c1, c2, c3]) rfl ?_
      have hst := stored1 (k := 1) hg (Nat.le_of_lt hlt1) hk04 hd4 (.int .i64 x)
      exact ⟨_, _, _, _, rfl, ho, hx, ha, hdd, stored4 hg (Nat.le_refl _) hst.1 hst.2 _ _ _ _⟩
    · go_wp2_with fail
      refine (l1Num_any B g 1000000 _ hd3 (by decide) (by decide)).mono ?_
      rintro e w4 ⟨x, rfl, hx, ho4, hd4⟩
      have hE4 := hE3.keeps ho4 (by omega)
      have hB4 := hB3.keeps ho4 (by omega)
      have hk04 := hk03.trans ho4
      clear hE3 hB3 hk03 ho4 hd3
      have c0 := hB4.cell 0; have c1 := hB4.cell 1; have c2 := hB4.cell 2; have c3 := hB4.cell 3
      have f0 := hB4.frozen 0; have f1 := hB4.frozen 1; have f2 := hB4.frozen 2; have f3 := hB4.frozen 3
      have e0 := hE4.cell 0; have e1 := hE4.cell 1; have e2 := hE4.cell 2; have e3 := hE4.cell 3
      have n0 := hE4.frozen 0; have n1 := hE4.frozen 1; have n2 := hE4.frozen 2; have n3 := hE4.frozen 3
      go_wp2_with fail
      refine bodyPost_ret (v := .agg #[.int .i64 o, .int .i64 s, .int .i64 x, .int .i64 d]) (by simp [results, Tryz.results41, go_sem, c0, c1, c2, c3]) rfl ?_
      have hst := stored1 (k := 2) hg (Nat.le_of_lt hlt1) hk04 hd4 (.int .i64 x)
      exact ⟨_, _, _, _, rfl, ho, hs, hx, hdd, stored4 hg (Nat.le_refl _) hst.1 hst.2 _ _ _ _⟩
    · go_wp2_with fail
      refine (l1Num_any B g 100000 _ hd3 (by decide) (by decide)).mono ?_
      rintro e w4 ⟨x, rfl, hx, ho4, hd4⟩
      have hE4 := hE3.keeps ho4 (by omega)
      have hB4 := hB3.keeps ho4 (by omega)
      have hk04 := hk03.trans ho4
      clear hE3 hB3 hk03 ho4 hd3
      have c0 := hB4.cell 0; have c1 := hB4.cell 1; have c2 := hB4.cell 2; have c3 := hB4.cell 3
      have f0 := hB4.frozen 0; have f1 := hB4.frozen 1; have f2 := hB4.frozen 2; have f3 := hB4.frozen 3
      have e0 := hE4.cell 0; have e1 := hE4.cell 1; have e2 := hE4.cell 2; have e3 := hE4.cell 3
      have n0 := hE4.frozen 0; have n1 := hE4.frozen 1; have n2 := hE4.frozen 2; have n3 := hE4.frozen 3
      go_wp2_with fail
      refine bodyPost_ret (v := .agg #[.int .i64 o, .int .i64 s, .int .i64 a, .int .i64 x]) (by simp [results, Tryz.results41, go_sem, c0, c1, c2, c3]) rfl ?_
      have hst := stored1 (k := 3) hg (Nat.le_of_lt hlt1) hk04 hd4 (.int .i64 x)
      exact ⟨_, _, _, _, rfl, ho, hs, ha, hx, stored4 hg (Nat.le_refl _) hst.1 hst.2 _ _ _ _⟩
end Go.Proofs.YtoniahfdjhhalaaGreat
