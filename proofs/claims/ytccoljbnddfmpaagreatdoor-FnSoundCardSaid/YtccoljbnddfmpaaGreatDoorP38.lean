/- Texts of this claim, put together. -/
import Derived.Test.YtccoljbnddfmpaaGreatDoorP1
import Derived.Test.YtccoljbnddfmpaaGreatDoorP34
import Derived.Test.YtccoljbnddfmpaaGreatDoorP37

namespace Go.Proofs.YtccoljbnddfmpaaGreatDoor
open Go.RowKit
theorem withR_len {es : List Ent} {x : Ent} {r : List Ent} (h : withR es x = some r) : r.length ≤ 20 ∧ AllE r := by
  unfold withR at h
  split at h
  · rename_i hh
    cases h
    exact ⟨book_len hh.2.2, book_wf hh.2.2⟩
  · cases h
def EsDrawn (w : World) (e : Ending) (w' : World) : Prop := ∃ v es, e = .returned v ∧ OwnE w.heap.size w' v es ∧ AllE es ∧ es.length ≤ 21 ∧ Below w.heap.size w w'
def EsSaid (m : Nat) (B g : Nat) (w : World) (e : Ending) (w' : World) : Prop := ∃ v es, e = .returned v ∧ OwnE w.heap.size w' v es ∧ AllE es ∧ es.length ≤ m ∧ Keeps g w w' ∧ Dice B g w'
set_option maxHeartbeats 1000000 in
set_option maxRecDepth 100000 in
theorem l4Draw_any (B g : Nat) (w : World) (hd : Dice B g w) :
    Calls Tryz.prog 40 #[.pointer (some ⟨g, 0, none⟩)] w (EsSaid 20 B g w) := by
  have hg := hd.hg
  have hszE : (w.alloc (.cells #[] 47)).heap.size = w.heap.size + 1 := by simp
  go_enter Tryz.func40, Tryz.ntmps40
  go_wp2_with fail
  refine (l1Below_any B g 9 _ (hd.alloc _) ⟨by decide, by decide⟩).mono ?_
  rintro e w1 ⟨r, rfl, hr1, -, ho1, hd1⟩
  have hr2 : (r : Int) < 9 := hr1 (by omega)
  clear hr1
  have hk1 : Keeps g w w1 := (Keeps.alloc g w _).trans ho1.keeps
  have hown1 : OwnE w.heap.size w1 (.slice (some ⟨w.heap.size, 0, none⟩) 0 0) [] := (ownE_empty w).keeps ho1.keeps hg
  go_wp2_with fail
  go_loopw [3, 4] (fun sv sn wr => ∃ (m : Nat) (es : List Ent), sn = .int .i64 m ∧ m ≤ 9 ∧ OwnE w.heap.size wr sv es ∧ AllE es ∧ es.length ≤ 20 ∧ Keeps g w wr ∧ Dice B g wr) (fun _ sn _ => (intOf sn).toNat)
  case atStart => exact ⟨r, [], rfl, by omega, hown1, fun x hx => (by cases hx), by simp, hk1, hd1⟩
  case round =>
    obtain ⟨m, es, rfl, hm9, hown, hall, hle, hk, hdr⟩ := hrel
    by_cases hm : m = 0
    · subst hm
      go_wp2
      go_ret
      exact ⟨_, es, rfl, hown, hall, hle, hk, hdr⟩
    · have hm1 : 0 < m := by omega
      have hm2 : (0 : Int) < m := by omega
      obtain ⟨a0, c0, rfl, hi0, hz0⟩ := hown.ents hall
      have HZ := Lib.hid hz0; clear hz0 hi0
      go_wp2_with fail
      refine (l3Draw_any B g _ hdr).mono ?_
      rintro e w2 ⟨o, s, a, d, rfl, ho, hs, ha, hdd, hk2, hd2⟩
      have hown2 := hown.keeps hk2 hg
      obtain ⟨a2, c2, e2, hi2, hz2⟩ := hown2.ents hall
      simp only [Value.slice.injEq] at e2
      obtain ⟨rfl, -, rfl⟩ := e2
      have hwx : (⟨o, s, a, d⟩ : Ent).wf := ⟨ho, hs, ha, hdd⟩
      have hW := specWith_any w2.heap.size a0 es.length c0 es ⟨o, s, a, d⟩ w2 hi2 hz2 (Nat.le_refl _) hwx
      have hlen := fun r h => withR_len (es := es) (x := ⟨o, s, a, d⟩) (r := r) h
      generalize withR es ⟨o, s, a, d⟩ = q at hW hlen
      have hk02 := hk.trans hk2
      have hsz2 := hk02.size
      clear hk2 hdr hi2 hz2 hown
      go_wp2_with fail
      refine hW.mono ?_
      rintro e w3 ⟨v3, rfl, hown3, hb3⟩
      have hd3 := hd2.below hb3
      have hk3 := hk02.trans (Keeps.of_below hb3)
      rcases q with _ | es3
      · have hown23 := hown2.below hb3 (Nat.le_refl _)
        go_wp2
        go_roundw
        case rel => exact ⟨m - 1, es, by go_num, by omega, hown23, hall, hle, hk3, hd3⟩
        case measure => simp [intOf]; omega
      · have hl3 := hlen es3 rfl
        have hown3' := hown3.mono hsz2
        go_wp2
        go_roundw
        case rel => exact ⟨m - 1, es3, by go_num, by omega, hown3', hl3.2, hl3.1, hk3, hd3⟩
        case measure => simp [intOf]; omega
theorem keeps_set4 {g r k : Nat} {w w4 : World} (hr : w.heap.size ≤ r) (hk : Keeps g w w4) (hg : g < w.heap.size) {B : Nat} (hd : Dice B g w4) (x y z u : Value) :
    Keeps g w ((((w4.setCell ⟨r, k, none⟩ x).setCell ⟨r, k + 1, none⟩ y).setCell ⟨r, k + 2, none⟩ z).setCell ⟨r, k + 3, none⟩ u) ∧ Dice B g ((((w4.setCell ⟨r, k, none⟩ x).setCell ⟨r, k + 1, none⟩ y).setCell ⟨r, k + 2, none⟩ z).setCell ⟨r, k + 3, none⟩ u) := by
  have hb : Below w.heap.size w4 ((((w4.setCell ⟨r, k, none⟩ x).setCell ⟨r, k + 1, none⟩ y).setCell ⟨r, k + 2, none⟩ z).setCell ⟨r, k + 3, none⟩ u) :=
    ((((Below.refl _ _).setCell (by exact hr) _).setCell (by exact hr) _).setCell (by exact hr) _).setCell (by exact hr) _
  exact ⟨hk.then_below hb, hd.below' hb hg⟩
theorem OwnE.form {base : Nat} {w : World} {v : Value} {es : List Ent} (h : OwnE base w v es) (hn : 0 < es.length) : ∃ g cap, v = .slice (some ⟨g, 0, none⟩) es.length cap := by
  rcases h.2 with ⟨_, h0⟩ | ⟨g, cap, _, hv, _⟩
  · omega
  · exact ⟨g, cap, hv⟩
theorem allE_set {es : List Ent} {j : Nat} {e : Ent} (h : AllE es) (he : e.wf) : AllE (es.set j e) := by
  intro x hx
  rcases List.mem_or_eq_of_mem_set hx with h1 | h1
  · exact h x h1
  · rw [h1]; exact he
theorem allE_append {es : List Ent} {e : Ent} (h : AllE es) (he : e.wf) : AllE (es ++ [e]) := by
  intro x hx
  rcases List.mem_append.1 hx with h1 | h1
  · exact h x h1
  · simp at h1; rw [h1]; exact he
set_option maxHeartbeats 2000000 in
set_option maxRecDepth 100000 in
theorem l4DrawAny_any (B g : Nat) (w : World) (hd : Dice B g w) :
    Calls Tryz.prog 22 #[.pointer (some ⟨g, 0, none⟩)] w (EsSaid 21 B g w) := by
  have hg := hd.hg
  go_enter Tryz.func22, Tryz.ntmps22
  go_wp2_with fail
  refine (l4Draw_any B g _ hd).mono ?_
  rintro e w1 ⟨v1, es, rfl, hown1, hall, hle, hk1, hd1⟩
  go_wp2_with fail
  refine (l1Once_any B g 6 _ hd1 ⟨by decide, by decide⟩).mono ?_
  rintro e w2 ⟨b2, rfl, ho2, hd2⟩
  have hown2 := hown1.keeps ho2.keeps hg
  have hk2 := hk1.trans ho2.keeps
  clear hown1 hd1 hk1 ho2
  rcases b2 with _ | _
  · go_wp2
    go_ret
    exact ⟨_, es, rfl, hown2, hall, by omega, hk2, hd2⟩
  · go_wp2_with fail
    refine (l1Below_any B g 3 _ hd2 ⟨by decide, by decide⟩).mono ?_
    rintro e w3 ⟨r, rfl, hr, -, ho3, hd3⟩
    have hr : (r : Int) < 3 := hr (by omega)
    have hown3 := hown2.keeps ho3.keeps hg
    have hk3 := hk2.trans ho3.keeps
    clear hown2 hd2 hk2 ho3
    have hr' : r = 0 ∨ r = 1 ∨ r = 2 := by omega
    rcases hr' with rfl | rfl | rfl
    · go_wp2_with fail
      refine (l3DrawAny_any B g _ hd3).mono ?_
      rintro e w4 ⟨o, s, a, d, rfl, ho, hs, ha, hdd, hk4, hd4⟩
      have hown4 := hown3.keeps hk4 hg
      have hk04 := hk3.trans hk4
      have hsz := hk04.size
      clear hown3 hd3 hk3 hk4
      go_wp2_with (at_builtin; refine appendE_one ⟨o, s, a, d⟩ rfl _ _ rfl w.heap.size _ es rfl rfl hown4 hsz (by omega) ?_; intro vA wA hownA hbA)
      go_ret
      have hlen : (es ++ [(⟨o, s, a, d⟩ : Ent)]).length ≤ 21 := by simp; omega
      exact ⟨_, _, rfl, hownA, allE_append hall ⟨ho, hs, ha, hdd⟩, hlen, hk04.then_below hbA, hd4.below' hbA hg⟩
    · by_cases h0 : es.length = 0
      · have hnil : es = [] := List.eq_nil_of_length_eq_zero h0
        subst hnil
        obtain ⟨a3, c3, rfl, hi3, -⟩ := hown3.ents hall
        clear hi3
        go_wp2
        go_ret
        exact ⟨_, [], rfl, hown3, hall, by simp, hk3, hd3⟩
      · have hpos : 0 < es.length := by omega
        obtain ⟨g3, c3, hv3⟩ := OwnE.form hown3 hpos
        subst hv3
        obtain ⟨n, hn⟩ : ∃ n, es.length = n := ⟨_, rfl⟩
        unfold OwnE at hown3
        rw [hn] at hown3 hpos hle ⊢
        have HN := Lib.hid hn; clear hn h0
        have hposI : (0 : Int) < n := by omega
        have hg3 := World.ownsRow.lt hown3 g3 rfl
        go_wp2_with fail
        refine (l1Below_any B g n _ hd3 ⟨by omega, by omega⟩).mono ?_
        rintro e w4 ⟨j, rfl, hj, -, ho4, hd4⟩
        have hj : (j : Int) < n := hj hposI
        have hjn : j < n := by omega
        have hown4 := World.ownsRow.kept hown3 ho4.grown (.inr (fun e => by have h2 : g3 = g := Option.some.inj e; omega))
        have hk4 := hk3.trans ho4.keeps
        clear hown3 hd3 hk3 ho4
        go_wp2_with fail
        refine (l3DrawAny_any B g _ hd4).mono ?_
        rintro e w5 ⟨o, s, a, d, rfl, ho, hs, ha, hdd, hk5, hd5⟩
        have hown5 := World.ownsRow.kept hown4 hk5 (.inr (fun e => by have h2 : g3 = g := Option.some.inj e; omega))
        have hk05 := hk4.trans hk5
        obtain ⟨q0, q1, q2, q3⟩ := OwnE.ent4 hown5 HN.out j hjn
        have f0 := hown5.frozenAt (j * 4); have f1 := hown5.frozenAt (j * 4 + 1); have f2 := hown5.frozenAt (j * 4 + 2); have f3 := hown5.frozenAt (j * 4 + 3)
        have hst := OwnE.store hown5 HN.out j hjn ⟨o, s, a, d⟩
        have hsd := keeps_set4 (k := j * 4) hg3.1 hk05 hg hd5 (.int .i64 o) (.int .i64 s) (.int .i64 a) (.int .i64 d)
        have HST := Lib.hid hst; have HSD := Lib.hid hsd
        have i1 : (0 : Int) ≤ j := by omega
        clear hst hsd hown5 hown4 hd4 hk4 hk5
        go_wp2
        go_ret
        have hl := HN.out
        have hlen : (es.set j (⟨o, s, a, d⟩ : Ent)).length = n := by rw [List.length_set]; exact hl
        refine ⟨_, es.set j ⟨o, s, a, d⟩, rfl, ?_, allE_set hall ⟨ho, hs, ha, hdd⟩, by omega, HSD.out.1, HSD.out.2⟩
        unfold OwnE
        rw [hlen]
        exact HST.out
    · by_cases h0 : es.length ≤ 1
      · obtain ⟨a3, c3, rfl, hi3, -⟩ := hown3.ents hall
        clear hi3
        obtain ⟨n, hn⟩ : ∃ n, es.length = n := ⟨_, rfl⟩
        unfold OwnE at hown3
        rw [hn] at hown3 h0 hle ⊢
        have HN := Lib.hid hn; clear hn
        go_wp2
        go_ret
        have hl := HN.out
        exact ⟨_, es, rfl, by unfold OwnE; rw [hl]; exact hown3, hall, by omega, hk3, hd3⟩
      · have hpos : 0 < es.length := by omega
        obtain ⟨g3, c3, hv3⟩ := OwnE.form hown3 hpos
        subst hv3
        match es, h0 with
        | x :: y :: r, _ =>
          obtain ⟨n, hn⟩ : ∃ n, (x :: y :: r).length = n := ⟨_, rfl⟩
          unfold OwnE at hown3
          rw [hn] at hown3 hle ⊢
          have hn2 : 2 ≤ n := by simp at hn; omega
          have HN := Lib.hid hn; clear hn hpos
          have hg3 := World.ownsRow.lt hown3 g3 rfl
          have q1 := (OwnE.ent4 hown3 HN.out 1 (by omega)).h3
          have q0 := (OwnE.ent4 hown3 HN.out 0 (by omega)).h3
          have f3 := hown3.frozenAt 3
          have e1 : (E (x :: y :: r) 1).d = y.d := rfl
          rw [e1] at q1
          clear e1
          simp only [Nat.zero_mul, Nat.zero_add, Nat.one_mul] at q0 q1
          have hst := (hown3.stored 3 (.int .i64 y.d)).1
          have hset : (flatE (x :: y :: r)).set 3 (.int .i64 y.d) = flatE (⟨x.o, x.s, x.a, y.d⟩ :: y :: r) := rfl
          rw [hset] at hst
          have hb3 : Below w.heap.size w3 (w3.setCell ⟨g3, 3, none⟩ (.int .i64 y.d)) := (Below.refl _ _).setCell (by exact hg3.1) _
          have hkd := Lib.hid (⟨hk3.then_below hb3, hd3.below' hb3 hg⟩ : Keeps g w (w3.setCell ⟨g3, 3, none⟩ (.int .i64 y.d)) ∧ Dice B g (w3.setCell ⟨g3, 3, none⟩ (.int .i64 y.d)))
          have HST := Lib.hid hst
          have hw1 := Lib.hid (hall x (by simp)); have hw2 := Lib.hid (hall y (by simp))
          have HA := Lib.hid hall
          clear hst hset hown3 hk3 hd3 hb3 hall
          have i1 : (1 : Int) < n := by omega
          have i2 : (0 : Int) < n := by omega
          go_wp2
          go_ret
          have hl := HN.out
          refine ⟨_, ⟨x.o, x.s, x.a, y.d⟩ :: y :: r, rfl, by unfold OwnE; rw [show (⟨x.o, x.s, x.a, y.d⟩ :: y :: r : List Ent).length = n from hl]; exact HST.out, ?_, by rw [show (⟨x.o, x.s, x.a, y.d⟩ :: y :: r : List Ent).length = n from hl]; omega, hkd.out.1, hkd.out.2⟩
          intro z hz
          rcases List.mem_cons.1 hz with rfl | hz
          · exact ⟨hw1.out.1, hw1.out.2.1, hw1.out.2.2.1, hw2.out.2.2.2⟩
          · exact HA.out z (List.mem_cons_of_mem _ hz)
end Go.Proofs.YtccoljbnddfmpaaGreatDoor

namespace Go.Proofs.YtccoljbnddfmpaaGreatDoor
open Go.RowKit
theorem flatE_set1 (es : List Ent) (j k : Nat) (u : Value) (e : Ent) (hj : j < es.length) (hk : k < 4) (he : e.cells = (E es j).cells.set k u) : (flatE es).set (j * 4 + k) u = flatE (es.set j e) := by
  induction es generalizing j with
  | nil => simp at hj
  | cons x r ih =>
    have hc : ∀ y : Ent, ∀ l, flatE (y :: l) = y.cells ++ flatE l := fun y l => by simp [flatE]
    have hl : ∀ y : Ent, y.cells.length = 4 := fun y => rfl
    cases j with
    | zero =>
      have hx : E (x :: r) 0 = x := rfl
      rw [hx] at he
      rw [Nat.zero_mul, Nat.zero_add, List.set_cons_zero, hc, hc, he, List.set_append_left _ _ (by rw [hl]; exact hk)]
    | succ j =>
      have hx : E (x :: r) (j + 1) = E r j := rfl
      rw [hx] at he
      rw [List.set_cons_succ, hc, hc, List.set_append_right _ _ (by rw [hl]; omega), hl, show (j + 1) * 4 + k - 4 = j * 4 + k by omega, ih j (by simpa using hj) he]
theorem OwnE.store1 {base : Nat} {w : World} {g cap : Nat} {es : List Ent} (h : OwnE base w (.slice (some ⟨g, 0, none⟩) es.length cap) es) (j k : Nat) (u : Value) (e : Ent) (hj : j < es.length) (hk : k < 4) (he : e.cells = (E es j).cells.set k u) :
    OwnE base (w.setCell ⟨g, j * 4 + k, none⟩ u) (.slice (some ⟨g, 0, none⟩) es.length cap) (es.set j e) := by
  have h1 := (World.ownsRow.stored h (j * 4 + k) u).1
  rw [flatE_set1 es j k u e hj hk he] at h1
  unfold OwnE
  rw [List.length_set]
  exact h1
theorem OwnE.cellK {base g cap : Nat} {w : World} {es : List Ent} (h : OwnE base w (.slice (some ⟨g, 0, none⟩) es.length cap) es) (j k : Nat) (hj : j < es.length) (hk : k < 4) : w.cell? ⟨g, j * 4 + k, none⟩ = (E es j).cells[k]? ∧ w.frozen? ⟨g, j * 4 + k, none⟩ = false := by
  refine ⟨?_, World.ownsRow.frozenAt h _⟩
  rw [World.ownsRow.cellAt h (j * 4 + k) (by omega), flatE_get es j k hj hk]
theorem OwnNds.firstBook {base g n cap : Nat} {w : World} {nds : List Nd} (h : OwnNds base w (.slice (some ⟨g, 0, none⟩) n cap) nds) (h0 : 0 < nds.length) : ∃ bv, w.cell? ⟨g, 1, none⟩ = some bv ∧ OwnE base w bv (ND nds 0).book := by
  obtain ⟨vs, e0, h1, h2⟩ := h
  have hn : nds.length = n := by
    rcases h1.2 with ⟨h3, _⟩ | ⟨g', cap', cur, h3, _⟩
    · cases h3
    · cases h3; rfl
  subst hn
  obtain ⟨p, hp, he, _⟩ := h2 0 h0
  obtain ⟨_, f1, _⟩ := flatN_get nds vs e0 0 h0 p hp
  exact ⟨p.1, by rw [h1.cellAt 1 (by omega)]; exact f1, he⟩
theorem NetGood.book0 {nds : List Nd} {fl : List (List Int)} (h : NetGood nds fl) : AllE (ND nds 0).book ∧ (ND nds 0).book.length ≤ 20 ∧ soundE (ND nds 0).book = true := by
  have h1 := h.one
  obtain ⟨_, h2, _⟩ := node_parts.1 (h.nodes 0 (by omega)).1
  have h3 := (sound_parts h2).1
  exact ⟨book_wf h3, book_len h3, h2⟩
set_option maxHeartbeats 4000000 in
set_option maxRecDepth 100000 in
theorem drawSound_any (B : Nat) (ao : Option Addr) (n cap : Nat) (bs : List Int) (w : World) (hb : Bytes B w ao n cap bs) (hB : B ≤ w.heap.size) (hn : n ≤ 1099511627776) :
    Calls Tryz.prog 15 #[.slice ao n cap] w (EsDrawn w) := by
  go_enter Tryz.func15, Tryz.ntmps15
  go_wp2_with fail
  refine (l1New_any B _ _ _ bs _ hb hB hn).mono ?_
  rintro e w1 ⟨rfl, hd1, hb1⟩
  have hg := hd1.hg
  have hs1 := hb1.size
  go_wp2_with fail
  refine (l1Once_any _ _ 2 _ hd1 ⟨by decide, by decide⟩).mono ?_
  rintro e w2 ⟨b2, rfl, ho2, hd2⟩
  have hk2 := ho2.keeps
  have hg2 := hd2.hg
  rcases b2 with _ | _
  · go_wp2_with fail
    refine (l16Draw_any _ _ _ hd2).mono ?_
    rintro e w3 ⟨nds, fl, v, rfl, ⟨nv, fv, rfl, q1, q2⟩, hgood, hk3, hd3⟩
    obtain ⟨gd, cd, rfl, -, -⟩ := q1.ptr (by have := hgood.one; omega)
    obtain ⟨af, cf, rfl⟩ := q2.slice
    obtain ⟨bv, hbc, hbo⟩ := q1.firstBook (by have := hgood.one; omega)
    obtain ⟨hbw, hbl, -⟩ := hgood.book0
    have hn1 := hgood.one
    have i0 : (0 : Int) < nds.length := by omega
    clear hgood q2
    obtain ⟨gn, hgn0⟩ : ∃ x, x = w3.heap.size := ⟨_, rfl⟩
    obtain ⟨W4, hW4⟩ : ∃ x, x = w3.alloc (.cells #[.slice (some ⟨gd, 0, none⟩) nds.length cd, .slice af fl.length cf] 52) := ⟨_, rfl⟩
    have hN : Blk W4 gn 52 #[.slice (some ⟨gd, 0, none⟩) nds.length cd, .slice af fl.length cf] := by rw [hW4, hgn0]; exact Blk.new _ _ _
    have hb4 : Below w3.heap.size w3 W4 := by rw [hW4]; exact (Below.refl _ _).alloc (Nat.le_refl _) _
    have hbc4 := (hb4.cell (World.block_lt_of_cell? w3 _ hbc)).trans hbc
    have hbo4 := hbo.below hb4 (Nat.le_refl _)
    have hd4 := hd3.below hb4
    have hk4 := hk2.trans (hk3.then_below (hb4.mono hk3.size))
    have hws2 : w1.heap.size ≤ w2.heap.size := hk2.size
    generalize (ND nds 0).book = es at hbo4 hbw hbl hbo
    obtain ⟨ab, cb, rfl, -, -⟩ := hbo4.ents hbw
    go_upto_region 5 with fail
    rw [← hW4, ← hgn0]
    clear hW4 hgn0 hd3 hbo q1
    have d0 := hN.cell 0
    go_wp2_with fail
    refine (l1Once_any _ _ 3 _ hd4 ⟨by decide, by decide⟩).mono ?_
    rintro e w5 ⟨b5, rfl, ho5, hd5⟩
    have hk5 := hk4.trans ho5.keeps
    have hbo5 := (hbo4.mono hws2).keeps ho5.keeps (show w.heap.size < w1.heap.size from hg)
    clear d0 hbc4 hd4
    rcases b5 with _ | _
    · go_wp2
      go_ret
      exact ⟨_, es, rfl, hbo5.mono hs1, hbw, by omega, hb1.trans (hk5.below (Nat.le_refl _) hs1)⟩
    · by_cases hpos : 0 < es.length
      · obtain ⟨gb, cb', he⟩ := hbo5.form hpos
        cases he
        have i1 : (0 : Int) < es.length := by omega
        go_wp2_with fail
        refine (l1Below_any _ _ es.length _ hd5 ⟨by omega, by omega⟩).mono ?_
        rintro e w6 ⟨r6, rfl, hr6, -, ho6, hd6⟩
        have hr6 : (r6 : Int) < es.length := hr6 (by omega)
        go_wp2_with fail
        refine (l1Below_any _ _ 99 _ hd6 ⟨by decide, by decide⟩).mono ?_
        rintro e w7 ⟨r7, rfl, hr7, -, ho7, hd7⟩
        have hr7 : (r7 : Int) < 99 := hr7 (by omega)
        have hk7 := (hk5.trans ho6.keeps).trans ho7.keeps
        have hbo7 := (hbo5.keeps ho6.keeps (show w.heap.size < w1.heap.size from hg)).keeps ho7.keeps (show w.heap.size < w1.heap.size from hg)
        have hj : r6 < es.length := by omega
        have hst := hbo7.store1 r6 2 (.int .i64 (1 + r7)) ⟨(E es r6).o, (E es r6).s, 1 + r7, (E es r6).d⟩ hj (by omega) rfl
        obtain ⟨hc2, hf2⟩ := hbo7.cellK r6 2 hj (by omega)
        have hc2' : w7.cell? ⟨gb, r6 * 4 + 2, none⟩ = some (.int .i64 (E es r6).a) := hc2
        have hgb : w1.heap.size ≤ gb := (World.ownsRow.lt hbo7 gb rfl).1
        have hbel : Below w.heap.size w (w7.setCell ⟨gb, r6 * 4 + 2, none⟩ (.int .i64 (1 + r7))) := (hb1.trans (hk7.below (Nat.le_refl _) hs1)).setCell (p := ⟨gb, r6 * 4 + 2, none⟩) (by show w.heap.size ≤ gb; omega) _
        have hwf : AllE (es.set r6 ⟨(E es r6).o, (E es r6).s, 1 + r7, (E es r6).d⟩) := allE_set hbw ⟨(E_wf hbw r6).1, (E_wf hbw r6).2.1, show I64 (1 + (r7 : Int)) by unfold I64; omega, (E_wf hbw r6).2.2.2⟩
        have i2 : (0 : Int) ≤ r6 := by omega
        have HST := Lib.hid hst; have HB := Lib.hid hbel; have HW := Lib.hid hwf
        clear hst hbel hwf hc2 hbo7 hbo5 hbo4 hd6 hd5 hd7
        go_wp2_with fail
        go_ret
        exact ⟨_, _, rfl, HST.out.mono hs1, HW.out, by rw [List.length_set]; omega, HB.out⟩
      · have i1 : ¬ (0 : Int) < es.length := by omega
        go_wp2
        go_ret
        exact ⟨_, es, rfl, hbo5.mono hs1, hbw, by omega, hb1.trans (hk5.below (Nat.le_refl _) hs1)⟩
  · go_wp2_with fail
    refine (l4DrawAny_any _ _ _ hd2).mono ?_
    rintro e w3 ⟨v, es, rfl, hown, hall, hlen, hk, hd3⟩
    go_wp2_with fail
    go_ret
    exact ⟨v, es, rfl, hown.mono (show w.heap.size ≤ w2.heap.size by have := hk2.size; omega), hall, hlen, hb1.trans ((hk2.trans hk).below (Nat.le_refl _) hs1)⟩
end Go.Proofs.YtccoljbnddfmpaaGreatDoor

namespace Go.Proofs.YtccoljbnddfmpaaGreatDoor
open Go.RowKit
structure LDice (B g : Nat) (w : World) : Prop where
  hB : B ≤ g
  hg : g < w.heap.size
  dice : ∃ ao n cap bs, Bytes B w ao n cap bs ∧ w.cell? ⟨g, 0, none⟩ = some (.slice ao n cap) ∧ ∃ i : Nat, i ≤ n ∧ w.cell? ⟨g, 1, none⟩ = some (.int .i64 i) ∧ ∃ h : Int, 0 ≤ h ∧ h ≤ 18446744073709551615 ∧ w.cell? ⟨g, 2, none⟩ = some (.int .u64 h)
  free : ∀ o, w.frozen? ⟨g, o, none⟩ = false
theorem u64_and24 (n : Int) : bits .and .u64 n 16777215 = n % 16777216 := by
  have h127 : (BitVec.ofInt 64 16777215).toNat = 2 ^ 24 - 1 := by decide
  have key : (BitVec.ofInt 64 n &&& BitVec.ofInt 64 16777215).toNat = (n % ((2 ^ 64 : Nat) : Int)).toNat % 2 ^ 24 := by
    rw [BitVec.toNat_and, BitVec.toNat_ofInt, h127, Nat.and_two_pow_sub_one_eq_mod]
  show IntKind.u64.wrap ((BitVec.ofInt 64 n &&& BitVec.ofInt 64 16777215).toNat : Nat) = n % 16777216
  rw [key]
  show (((n % ((2 ^ 64 : Nat) : Int)).toNat % 2 ^ 24 : Nat) : Int) % (2 ^ 64 : Nat) = _
  omega
theorem wrap_u64_rng (n : Int) : 0 ≤ IntKind.u64.wrap n ∧ IntKind.u64.wrap n ≤ 18446744073709551615 := by
  show 0 ≤ n % ((2 ^ 64 : Nat) : Int) ∧ n % ((2 ^ 64 : Nat) : Int) ≤ 18446744073709551615
  omega
theorem wrap24 (n : Int) : 0 ≤ wrap64 (bits .and .u64 n 16777215) ∧ wrap64 (bits .and .u64 n 16777215) ≤ 16777215 := by
  rw [u64_and24]
  unfold wrap64
  omega
theorem LDice.moved {B g : Nat} {w : World} (hB : B ≤ g) (hg : g < w.heap.size) {ao : Option Addr} {n cap : Nat} {bs : List Int} (hb : Bytes B w ao n cap bs) (h0 : w.cell? ⟨g, 0, none⟩ = some (.slice ao n cap))
    {v2 : Value} (h2 : w.cell? ⟨g, 2, none⟩ = some v2) {v1 : Value} (h1 : w.cell? ⟨g, 1, none⟩ = some v1) (hf : ∀ o, w.frozen? ⟨g, o, none⟩ = false) (i : Nat) (hi : i ≤ n) (q : Int) (hq : 0 ≤ q ∧ q ≤ 18446744073709551615) (k : Nat) (p : Int) (hp : p = i) :
    Only g w (((w.setCell ⟨g, 2, none⟩ (.int .u64 q)).drewN k).setCell ⟨g, 1, none⟩ (.int .i64 p)) ∧ LDice B g (((w.setCell ⟨g, 2, none⟩ (.int .u64 q)).drewN k).setCell ⟨g, 1, none⟩ (.int .i64 p)) := by
  subst hp
  have ho : Only g w (((w.setCell ⟨g, 2, none⟩ (.int .u64 q)).drewN k).setCell ⟨g, 1, none⟩ (.int .i64 i)) := (((Only.refl g w).setCell 2 _).drewN _).setCell 1 _
  exact ⟨ho, hB, by rw [ho.size]; exact hg, ⟨ao, n, cap, bs, hb.grown ho.grown hB, by go_simp, i, hi, by go_simp, q, hq.1, hq.2, by go_simp⟩, fun o => by have := hf o; go_simp⟩
theorem LDice.rolled {B g : Nat} {w : World} (hB : B ≤ g) (hg : g < w.heap.size) {ao : Option Addr} {n cap : Nat} {bs : List Int} (hb : Bytes B w ao n cap bs) (h0 : w.cell? ⟨g, 0, none⟩ = some (.slice ao n cap))
    {v2 : Value} (h2 : w.cell? ⟨g, 2, none⟩ = some v2) {i : Nat} (h1 : w.cell? ⟨g, 1, none⟩ = some (.int .i64 i)) (hf : ∀ o, w.frozen? ⟨g, o, none⟩ = false) (hi : i ≤ n) (q : Int) (hq : 0 ≤ q ∧ q ≤ 18446744073709551615) (k : Nat) :
    Only g w ((w.setCell ⟨g, 2, none⟩ (.int .u64 q)).drewN k) ∧ LDice B g ((w.setCell ⟨g, 2, none⟩ (.int .u64 q)).drewN k) := by
  have ho : Only g w ((w.setCell ⟨g, 2, none⟩ (.int .u64 q)).drewN k) := ((Only.refl g w).setCell 2 _).drewN _
  exact ⟨ho, hB, by rw [ho.size]; exact hg, ⟨ao, n, cap, bs, hb.grown ho.grown hB, by go_simp, i, hi, by go_simp, q, hq.1, hq.2, by go_simp⟩, fun o => by have := hf o; go_simp⟩
theorem LDice.below {B g C : Nat} {w w' : World} (hd : LDice B g w) (hb : Below C w w') (hC : g < C) : LDice B g w' := by
  obtain ⟨hB, hg, ⟨ao, n, cap, bs, hby, h0, i, hi, h1, h, hh1, hh2, h2⟩, hf⟩ := hd
  exact ⟨hB, Nat.lt_of_lt_of_le hg hb.size, ⟨ao, n, cap, bs, hby.below hb (by omega) (Nat.le_refl _), (hb.cell (p := ⟨g, 0, none⟩) hC).trans h0, i, hi, (hb.cell (p := ⟨g, 1, none⟩) hC).trans h1, h, hh1, hh2, (hb.cell (p := ⟨g, 2, none⟩) hC).trans h2⟩,
    fun o => (hb.frozen (p := ⟨g, o, none⟩) hC).trans (hf o)⟩
def LLow (B g : Nat) (n : Int) (w : World) (e : Ending) (w' : World) : Prop := ∃ r : Nat, e = .returned (.int .i64 r) ∧ (r : Int) < n ∧ Only g w w' ∧ LDice B g w'
theorem LLow.mk {B g : Nat} {n r : Int} {w w' : World} (h0 : 0 ≤ r) (h1 : r < n) (ho : Only g w w') (hd : LDice B g w') : LLow B g n w (.returned (.int .i64 r)) w' := by
  obtain ⟨k, rfl⟩ := Int.eq_ofNat_of_zero_le h0
  exact ⟨k, rfl, h1, ho, hd⟩
set_option maxHeartbeats 400000 in
set_option maxRecDepth 100000 in
theorem ldBelow_any (B g : Nat) (n : Int) (w : World) (hd : LDice B g w) (hn : 0 < n) (hn2 : n ≤ 4611686018427387904) :
    Calls Tryz.prog 39 #[.pointer (some ⟨g, 0, none⟩), .int .i64 n] w (LLow B g n w) := by
  obtain ⟨hB, hg, ⟨ao, m, cap, bs, hb, h0, i, hi, h1, h, hh1, hh2, h2⟩, hf⟩ := hd
  have f1 := hf 1
  have f2 := hf 2
  have hb1 := hb.hcap; have hb2 := hb.hmax
  unfold maxLen at hb2
  have HF := Lib.hid hf; clear hf
  have hnz : ¬ n = 0 := by omega
  by_cases hlt : i < m
  · obtain ⟨b, off, rfl, hbB, hc, hr0, hr1⟩ := hb.at i hlt
    have hne : b ≠ g := by omega
    generalize bs.getD i 0 = y at hc hr0 hr1
    have i1 : (0 : Int) ≤ i := by omega
    have i2 : (i : Int) < m := by omega
    go_enter Tryz.func39, Tryz.ntmps39
    go_wp2
    have hz := wrap24 (IntKind.u64.wrap (IntKind.u64.wrap (h * 6364136223846793005) + 1442695040888963407) / 8589934592)
    have hq := wrap_u64_rng (IntKind.u64.wrap (h * 6364136223846793005) + 1442695040888963407)
    generalize wrap64 (bits BinOp.and IntKind.u64 (IntKind.u64.wrap (IntKind.u64.wrap (h * 6364136223846793005) + 1442695040888963407) / 8589934592) 16777215) = z at hz
    generalize IntKind.u64.wrap (IntKind.u64.wrap (h * 6364136223846793005) + 1442695040888963407) = q at hq
    obtain ⟨hz0, hz1⟩ := hz
    have HQ := Lib.hid hq; clear hq
    go_quiet (fail)
    go_wp2
    go_quiet (fail)
    go_wp2
    go_ret
    exact LLow.mk (Int.emod_nonneg _ hnz) (Int.emod_lt_of_pos _ hn) (LDice.moved hB hg hb h0 h2 h1 HF.out (i + 1) (by omega) q HQ.out _ _ (by omega)).1 (LDice.moved hB hg hb h0 h2 h1 HF.out (i + 1) (by omega) q HQ.out _ _ (by omega)).2
  · have hin : i = m := by omega
    have i4 : decide ((i : Int) < m) = false := decide_eq_false (by omega)
    go_enter Tryz.func39, Tryz.ntmps39
    go_wp2
    have hz := wrap24 (IntKind.u64.wrap (IntKind.u64.wrap (h * 6364136223846793005) + 1442695040888963407) / 8589934592)
    have hq := wrap_u64_rng (IntKind.u64.wrap (h * 6364136223846793005) + 1442695040888963407)
    generalize wrap64 (bits BinOp.and IntKind.u64 (IntKind.u64.wrap (IntKind.u64.wrap (h * 6364136223846793005) + 1442695040888963407) / 8589934592) 16777215) = z at hz
    generalize IntKind.u64.wrap (IntKind.u64.wrap (h * 6364136223846793005) + 1442695040888963407) = q at hq
    obtain ⟨hz0, hz1⟩ := hz
    have HQ := Lib.hid hq; clear hq
    go_quiet (fail)
    go_wp2
    go_ret
    exact LLow.mk (Int.emod_nonneg _ hnz) (Int.emod_lt_of_pos _ hn) (LDice.rolled hB hg hb h0 h2 h1 HF.out hi q HQ.out _).1 (LDice.rolled hB hg hb h0 h2 h1 HF.out hi q HQ.out _).2
def NewLDice (w : World) (e : Ending) (w' : World) : Prop := e = .returned (.pointer (some ⟨w.heap.size, 0, none⟩)) ∧ LDice w.heap.size w.heap.size w' ∧ Below w.heap.size w w'
theorem LDice.hashed {B g : Nat} {w : World} (hd : LDice B g w) (q : Int) (hq : 0 ≤ q ∧ q ≤ 18446744073709551615) (k : Nat) : LDice B g ((w.setCell ⟨g, 2, none⟩ (.int .u64 q)).drewN k) := by
  obtain ⟨hB, hg, ⟨ao, n, cap, bs, hb, h0, i, hi, h1, h, hh1, hh2, h2⟩, hf⟩ := hd
  exact (LDice.rolled hB hg hb h0 h2 h1 hf hi q hq k).2
set_option maxHeartbeats 400000 in
set_option maxRecDepth 100000 in
theorem roll_any (B : Nat) (ao : Option Addr) (n cap : Nat) (bs : List Int) (s : Int) (w : World) (hb : Bytes B w ao n cap bs) (hB : B ≤ w.heap.size) (hn : n ≤ 1099511627776) :
    Calls Tryz.prog 18 #[.slice ao n cap, .int .u64 s] w (NewLDice w) := by
  have hb1 := hb.hcap; have hb2 := hb.hmax
  unfold maxLen at hb2
  go_enter Tryz.func18, Tryz.ntmps18
  go_wp2
  have hq0 := wrap_u64_rng (IntKind.u64.wrap (s * 7919) + n)
  generalize IntKind.u64.wrap (IntKind.u64.wrap (s * 7919) + n) = q0 at hq0
  have hal : Below w.heap.size w (w.alloc (Obj.cells #[Value.slice ao n cap, Value.int IntKind.i64 0, Value.int IntKind.u64 q0] 74)) := (Below.refl _ _).alloc (Nat.le_refl _) _
  have hd0 : LDice w.heap.size w.heap.size (w.alloc (Obj.cells #[Value.slice ao n cap, Value.int IntKind.i64 0, Value.int IntKind.u64 q0] 74)) :=
    ⟨Nat.le_refl _, by simp, ⟨ao, n, cap, bs, hb.below hal hB hB, by go_simp, 0, Nat.zero_le _, by go_simp, q0, hq0.1, hq0.2, by go_simp⟩, fun o => by go_simp⟩
  go_loopw [6] (fun si wr => ∃ i : Nat, si = .int .i64 i ∧ i ≤ n ∧ LDice w.heap.size w.heap.size wr ∧ Below w.heap.size w wr) (fun si _ => n - (intOf si).toNat)
  case atStart => exact ⟨0, rfl, Nat.zero_le _, hd0, hal⟩
  case round =>
    obtain ⟨i, rfl, hi, hd, hbel⟩ := hrel
    clear hd0 hal
    have hb' := hb.below hbel hB (Nat.le_refl _)
    have hsz := hbel.size
    by_cases hlt : i < n
    · obtain ⟨b, off, rfl, hbB, hc, hr0, hr1⟩ := hb'.at i hlt
      have hne : b ≠ w.heap.size := by omega
      generalize bs.getD i 0 = y at hc hr0 hr1
      have HD := Lib.hid hd
      obtain ⟨-, hg, ⟨_, _, _, _, -, -, _, -, -, h, hh1, hh2, h2⟩, hf⟩ := hd
      have f2 := hf 2
      clear hf
      have i1 : (0 : Int) ≤ i := by omega
      have i2 : (i : Int) < n := by omega
      go_wp2
      go_region
      go_wp2
      go_roundw
      case rel => exact ⟨i + 1, by go_num, by omega, HD.out.hashed _ (wrap_u64_rng _) 1, (hbel.setCell (Nat.le_refl _) _).drew⟩
      case measure => simp [intOf]; omega
    · go_wp2
      go_ret
      exact ⟨rfl, hd, hbel⟩
end Go.Proofs.YtccoljbnddfmpaaGreatDoor
