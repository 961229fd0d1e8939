/- Texts of this claim, put together. -/
import Derived.Test.YtoniahfdjhhalaaGreatP1
import Derived.Test.YtoniahfdjhhalaaGreatP2
import Derived.Test.YtoniahfdjhhalaaGreatP23
import Derived.Test.YtoniahfdjhhalaaGreatP39

namespace Go.Proofs.YtoniahfdjhhalaaGreat
open Go.RowKit
theorem withR_len {es : List Ent} {x : Ent} {r : List Ent} (h : withR es x = some r) : r.length ≤ 20 ∧ AllE r := by
  unfold withR at h
  split at h
  · rename_i hh
    cases h
    exact ⟨book_len hh.2.2, book_wf hh.2.2⟩
  · cases h
def EsSaid (m : Nat) (B g : Nat) (w : World) (e : Ending) (w' : World) : Prop := ∃ v es, e = .returned v ∧ OwnE w.heap.size w' v es ∧ AllE es ∧ es.length ≤ m ∧ Keeps g w w' ∧ Dice B g w'
set_option maxHeartbeats 1000000 in
set_option maxRecDepth 100000 in
theorem l4Draw_any (B g : Nat) (w : World) (hd : Dice B g w) :
    Calls Tryz.prog 40 #[.pointer (some ⟨g, 0, none⟩)] w (EsSaid 20 B g w) := by
  have hg := hd.hg
  have hszE : (w.alloc (.cells #[] 47)).heap.size = w.heap.size + 1 := by simp
  go_enter Tryz.func40, Tryz.ntmps40
  go_wp2_with fail
  refine (l1Below_any B g 9 _ (hd.alloc _) ⟨by decide, by decide⟩).mono ?_
  rintro e w1 ⟨r, rfl, hr1, -, ho1, hd1⟩
  have hr2 : (r : Int) < 9 := hr1 (by omega)
  clear hr1
  have hk1 : Keeps g w w1 := (Keeps.alloc g w _).trans ho1.keeps
  have hown1 : OwnE w.heap.size w1 (.slice (some ⟨w.heap.size, 0, none⟩) 0 0) [] := (ownE_empty w).keeps ho1.keeps hg
  go_wp2_with fail
  go_loopw [3, 4] (fun sv sn wr => ∃ (m : Nat) (es : List Ent), sn = .int .i64 m ∧ m ≤ 9 ∧ OwnE w.heap.size wr sv es ∧ AllE es ∧ es.length ≤ 20 ∧ Keeps g w wr ∧ Dice B g wr) (fun _ sn _ => (intOf sn).toNat)
  case atStart => exact ⟨r, [], rfl, by omega, hown1, fun x hx => (by cases hx), by simp, hk1, hd1⟩
  case round =>
    obtain ⟨m, es, rfl, hm9, hown, hall, hle, hk, hdr⟩ := hrel
    by_cases hm : m = 0
    · subst hm
      go_wp2
      go_ret
      exact ⟨_, es, rfl, hown, hall, hle, hk, hdr⟩
    · have hm1 : 0 < m := by omega
      have hm2 : (0 : Int) < m := by omega
      obtain ⟨a0, c0, rfl, hi0, hz0⟩ := hown.ents hall
      have HZ := Lib.hid hz0; clear hz0 hi0
      go_wp2_with fail
      refine (l3Draw_any B g _ hdr).mono ?_
      rintro e w2 ⟨o, s, a, d, rfl, ho, hs, ha, hdd, hk2, hd2⟩
      have hown2 := hown.keeps hk2 hg
      obtain ⟨a2, c2, e2, hi2, hz2⟩ := hown2.ents hall
      simp only [Value.slice.injEq] at e2
      obtain ⟨rfl, -, rfl⟩ := e2
      have hwx : (⟨o, s, a, d⟩ : Ent).wf := ⟨ho, hs, ha, hdd⟩
      have hW := specWith_any w2.heap.size a0 es.length c0 es ⟨o, s, a, d⟩ w2 hi2 hz2 (Nat.le_refl _) hwx
      have hlen := fun r h => withR_len (es := es) (x := ⟨o, s, a, d⟩) (r := r) h
      generalize withR es ⟨o, s, a, d⟩ = q at hW hlen
      have hk02 := hk.trans hk2
      have hsz2 := hk02.size
      clear hk2 hdr hi2 hz2 hown
      go_wp2_with fail
      refine hW.mono ?_
      rintro e w3 ⟨v3, rfl, hown3, hb3⟩
      have hd3 := hd2.below hb3
      have hk3 := hk02.trans (Keeps.of_below hb3)
      rcases q with _ | es3
      · have hown23 := hown2.below hb3 (Nat.le_refl _)
        go_wp2
        go_roundw
        case rel => exact ⟨m - 1, es, by go_num, by omega, hown23, hall, hle, hk3, hd3⟩
        case measure => simp [intOf]; omega
      · have hl3 := hlen es3 rfl
        have hown3' := hown3.mono hsz2
        go_wp2
        go_roundw
        case rel => exact ⟨m - 1, es3, by go_num, by omega, hown3', hl3.2, hl3.1, hk3, hd3⟩
        case measure => simp [intOf]; omega
theorem keeps_set4 {g r k : Nat} {w w4 : World} (hr : w.heap.size ≤ r) (hk : Keeps g w w4) (hg : g < w.heap.size) {B : Nat} (hd : Dice B g w4) (x y z u : Value) :
    Keeps g w ((((w4.setCell ⟨r, k, none⟩ x).setCell ⟨r, k + 1, none⟩ y).setCell ⟨r, k + 2, none⟩ z).setCell ⟨r, k + 3, none⟩ u) ∧ Dice B g ((((w4.setCell ⟨r, k, none⟩ x).setCell ⟨r, k + 1, none⟩ y).setCell ⟨r, k + 2, none⟩ z).setCell ⟨r, k + 3, none⟩ u) := by
  have hb : Below w.heap.size w4 ((((w4.setCell ⟨r, k, none⟩ x).setCell ⟨r, k + 1, none⟩ y).setCell ⟨r, k + 2, none⟩ z).setCell ⟨r, k + 3, none⟩ u) :=
    ((((Below.refl _ _).setCell (by exact hr) _).setCell (by exact hr) _).setCell (by exact hr) _).setCell (by exact hr) _
  exact ⟨hk.then_below hb, hd.below' hb hg⟩
theorem OwnE.form {base : Nat} {w : World} {v : Value} {es : List Ent} (h : OwnE base w v es) (hn : 0 < es.length) : ∃ g cap, v = .slice (some ⟨g, 0, none⟩) es.length cap := by
  rcases h.2 with ⟨_, h0⟩ | ⟨g, cap, _, hv, _⟩
  · omega
  · exact ⟨g, cap, hv⟩
theorem allE_set {es : List Ent} {j : Nat} {e : Ent} (h : AllE es) (he : e.wf) : AllE (es.set j e) := by
  intro x hx
  rcases List.mem_or_eq_of_mem_set hx with h1 | h1
  · exact h x h1
  · rw [h1]; exact he
theorem allE_append {es : List Ent} {e : Ent} (h : AllE es) (he : e.wf) : AllE (es ++ [e]) := by
  intro x hx
  rcases List.mem_append.1 hx with h1 | h1
  · exact h x h1
  · simp at h1; rw [h1]; exact he
set_option maxHeartbeats 2000000 in
set_option maxRecDepth 100000 in
theorem l4DrawAny_any (B g : Nat) (w : World) (hd : Dice B g w) :
    Calls Tryz.prog 28 #[.pointer (some ⟨g, 0, none⟩)] w (EsSaid 21 B g w) := by
  have hg := hd.hg
  go_enter Tryz.func28, Tryz.ntmps28
  go_wp2_with fail
  refine (l4Draw_any B g _ hd).mono ?_
  rintro e w1 ⟨v1, es, rfl, hown1, hall, hle, hk1, hd1⟩
  go_wp2_with fail
  refine (l1Once_any B g 6 _ hd1 ⟨by decide, by decide⟩).mono ?_
  rintro e w2 ⟨b2, rfl, ho2, hd2⟩
  have hown2 := hown1.keeps ho2.keeps hg
  have hk2 := hk1.trans ho2.keeps
  clear hown1 hd1 hk1 ho2
  rcases b2 with _ | _
  · go_wp2
    go_ret
    exact ⟨_, es, rfl, hown2, hall, by omega, hk2, hd2⟩
  · go_wp2_with fail
    refine (l1Below_any B g 3 _ hd2 ⟨by decide, by decide⟩).mono ?_
    rintro e w3 ⟨r, rfl, hr, -, ho3, hd3⟩
    have hr : (r : Int) < 3 := hr (by omega)
    have hown3 := hown2.keeps ho3.keeps hg
    have hk3 := hk2.trans ho3.keeps
    clear hown2 hd2 hk2 ho3
    have hr' : r = 0 ∨ r = 1 ∨ r = 2 := by omega
    rcases hr' with rfl | rfl | rfl
    · go_wp2_with fail
      refine (l3DrawAny_any B g _ hd3).mono ?_
      rintro e w4 ⟨o, s, a, d, rfl, ho, hs, ha, hdd, hk4, hd4⟩
      have hown4 := hown3.keeps hk4 hg
      have hk04 := hk3.trans hk4
      have hsz := hk04.size
      clear hown3 hd3 hk3 hk4
      go_wp2_with (at_builtin; refine appendE_one ⟨o, s, a, d⟩ rfl _ _ rfl w.heap.size _ es rfl rfl hown4 hsz (by omega) ?_; intro vA wA hownA hbA)
      go_ret
      have hlen : (es ++ [(⟨o, s, a, d⟩ : Ent)]).length ≤ 21 := by simp; omega
      exact ⟨_, _, rfl, hownA, allE_append hall ⟨ho, hs, ha, hdd⟩, hlen, hk04.then_below hbA, hd4.below' hbA hg⟩
    · by_cases h0 : es.length = 0
      · have hnil : es = [] := List.eq_nil_of_length_eq_zero h0
        subst hnil
        obtain ⟨a3, c3, rfl, hi3, -⟩ := hown3.ents hall
        clear hi3
        go_wp2
        go_ret
        exact ⟨_, [], rfl, hown3, hall, by simp, hk3, hd3⟩
      · have hpos : 0 < es.length := by omega
        obtain ⟨g3, c3, hv3⟩ := OwnE.form hown3 hpos
        subst hv3
        obtain ⟨n, hn⟩ : ∃ n, es.length = n := ⟨_, rfl⟩
        unfold OwnE at hown3
        rw [hn] at hown3 hpos hle ⊢
        have HN := Lib.hid hn; clear hn h0
        have hposI : (0 : Int) < n := by omega
        have hg3 := World.ownsRow.lt hown3 g3 rfl
        go_wp2_with fail
        refine (l1Below_any B g n _ hd3 ⟨by omega, by omega⟩).mono ?_
        rintro e w4 ⟨j, rfl, hj, -, ho4, hd4⟩
        have hj : (j : Int) < n := hj hposI
        have hjn : j < n := by omega
        have hown4 := World.ownsRow.kept hown3 ho4.grown (.inr (fun e => by have h2 : g3 = g := Option.some.inj e; omega))
        have hk4 := hk3.trans ho4.keeps
        clear hown3 hd3 hk3 ho4
        go_wp2_with fail
        refine (l3DrawAny_any B g _ hd4).mono ?_
        rintro e w5 ⟨o, s, a, d, rfl, ho, hs, ha, hdd, hk5, hd5⟩
        have hown5 := World.ownsRow.kept hown4 hk5 (.inr (fun e => by have h2 : g3 = g := Option.some.inj e; omega))
        have hk05 := hk4.trans hk5
        obtain ⟨q0, q1, q2, q3⟩ := OwnE.ent4 hown5 HN.out j hjn
        have f0 := hown5.frozenAt (j * 4); have f1 := hown5.frozenAt (j * 4 + 1); have f2 := hown5.frozenAt (j * 4 + 2); have f3 := hown5.frozenAt (j * 4 + 3)
        have hst := OwnE.store hown5 HN.out j hjn ⟨o, s, a, d⟩
        have hsd := keeps_set4 (k := j * 4) hg3.1 hk05 hg hd5 (.int .i64 o) (.int .i64 s) (.int .i64 a) (.int .i64 d)
        have HST := Lib.hid hst; have HSD := Lib.hid hsd
        have i1 : (0 : Int) ≤ j := by omega
        clear hst hsd hown5 hown4 hd4 hk4 hk5
        go_wp2
        go_ret
        have hl := HN.out
        have hlen : (es.set j (⟨o, s, a, d⟩ : Ent)).length = n := by rw [List.length_set]; exact hl
        refine ⟨_, es.set j ⟨o, s, a, d⟩, rfl, ?_, allE_set hall ⟨ho, hs, ha, hdd⟩, by omega, HSD.out.1, HSD.out.2⟩
        unfold OwnE
        rw [hlen]
        exact HST.out
    · by_cases h0 : es.length ≤ 1
      · obtain ⟨a3, c3, rfl, hi3, -⟩ := hown3.ents hall
        clear hi3
        obtain ⟨n, hn⟩ : ∃ n, es.length = n := ⟨_, rfl⟩
        unfold OwnE at hown3
        rw [hn] at hown3 h0 hle ⊢
        have HN := Lib.hid hn; clear hn
        go_wp2
        go_ret
        have hl := HN.out
        exact ⟨_, es, rfl, by unfold OwnE; rw [hl]; exact hown3, hall, by omega, hk3, hd3⟩
      · have hpos : 0 < es.length := by omega
        obtain ⟨g3, c3, hv3⟩ := OwnE.form hown3 hpos
        subst hv3
        match es, h0 with
        | x :: y :: r, _ =>
          obtain ⟨n, hn⟩ : ∃ n, (x :: y :: r).length = n := ⟨_, rfl⟩
          unfold OwnE at hown3
          rw [hn] at hown3 hle ⊢
          have hn2 : 2 ≤ n := by simp at hn; omega
          have HN := Lib.hid hn; clear hn hpos
          have hg3 := World.ownsRow.lt hown3 g3 rfl
          have q1 := (OwnE.ent4 hown3 HN.out 1 (by omega)).h3
          have q0 := (OwnE.ent4 hown3 HN.out 0 (by omega)).h3
          have f3 := hown3.frozenAt 3
          have e1 : (E (x :: y :: r) 1).d = y.d := rfl
          rw [e1] at q1
          clear e1
          simp only [Nat.zero_mul, Nat.zero_add, Nat.one_mul] at q0 q1
          have hst := (hown3.stored 3 (.int .i64 y.d)).1
          have hset : (flatE (x :: y :: r)).set 3 (.int .i64 y.d) = flatE (⟨x.o, x.s, x.a, y.d⟩ :: y :: r) := rfl
          rw [hset] at hst
          have hb3 : Below w.heap.size w3 (w3.setCell ⟨g3, 3, none⟩ (.int .i64 y.d)) := (Below.refl _ _).setCell (by exact hg3.1) _
          have hkd := Lib.hid (⟨hk3.then_below hb3, hd3.below' hb3 hg⟩ : Keeps g w (w3.setCell ⟨g3, 3, none⟩ (.int .i64 y.d)) ∧ Dice B g (w3.setCell ⟨g3, 3, none⟩ (.int .i64 y.d)))
          have HST := Lib.hid hst
          have hw1 := Lib.hid (hall x (by simp)); have hw2 := Lib.hid (hall y (by simp))
          have HA := Lib.hid hall
          clear hst hset hown3 hk3 hd3 hb3 hall
          have i1 : (1 : Int) < n := by omega
          have i2 : (0 : Int) < n := by omega
          go_wp2
          go_ret
          have hl := HN.out
          refine ⟨_, ⟨x.o, x.s, x.a, y.d⟩ :: y :: r, rfl, by unfold OwnE; rw [show (⟨x.o, x.s, x.a, y.d⟩ :: y :: r : List Ent).length = n from hl]; exact HST.out, ?_, by rw [show (⟨x.o, x.s, x.a, y.d⟩ :: y :: r : List Ent).length = n from hl]; omega, hkd.out.1, hkd.out.2⟩
          intro z hz
          rcases List.mem_cons.1 hz with rfl | hz
          · exact ⟨hw1.out.1, hw1.out.2.1, hw1.out.2.2.1, hw2.out.2.2.2⟩
          · exact HA.out z (List.mem_cons_of_mem _ hz)
theorem OwnNds.bookAt {base g n cap : Nat} {w : World} {nds : List Nd} (h : OwnNds base w (.slice (some ⟨g, 0, none⟩) n cap) nds) {j : Nat} (hj : j < nds.length) : ∃ bv, w.cell? ⟨g, j * 3 + 1, none⟩ = some bv ∧ OwnE base w bv (ND nds j).book := by
  obtain ⟨vs, e0, h1, h2⟩ := h
  have hn : nds.length = n := by
    rcases h1.2 with ⟨h3, _⟩ | ⟨g', cap', cur, h3, _⟩
    · cases h3
    · cases h3; rfl
  subst hn
  obtain ⟨p, hp, he, _⟩ := h2 j hj
  obtain ⟨_, f1, _⟩ := flatN_get nds vs e0 j hj p hp
  exact ⟨p.1, by rw [h1.cellAt (j * 3 + 1) (by omega)]; exact f1, he⟩
theorem NetGood.bookJ {nds : List Nd} {fl : List (List Int)} (h : NetGood nds fl) {j : Nat} (hj : j < nds.length) : AllE (ND nds j).book ∧ (ND nds j).book.length ≤ 20 ∧ bookOk (ND nds j).book = true := by
  obtain ⟨_, h2, _⟩ := node_parts.1 (h.nodes j hj).1
  have h3 := (sound_parts h2).1
  exact ⟨book_wf h3, book_len h3, h3⟩
def TwoDrawn (B g : Nat) (w : World) (e : Ending) (w' : World) : Prop := ∃ v es u fs, e = .returned (.tuple #[v, u]) ∧ OwnE w.heap.size w' v es ∧ AllE es ∧ es.length ≤ 100 ∧ OwnE w.heap.size w' u fs ∧ AllE fs ∧ fs.length ≤ 100 ∧ Keeps g w w' ∧ Dice B g w'
def TwoEs (w : World) (e : Ending) (w' : World) : Prop := ∃ v es u fs, e = .returned (.tuple #[v, u]) ∧ OwnE w.heap.size w' v es ∧ AllE es ∧ es.length ≤ 100 ∧ OwnE w.heap.size w' u fs ∧ AllE fs ∧ fs.length ≤ 100 ∧ Below w.heap.size w w'
set_option linter.unusedSimpArgs false in
set_option maxHeartbeats 4000000 in
set_option maxRecDepth 100000 in
theorem l7Draw_any (B g : Nat) (w : World) (hd : Dice B g w) :
    Calls Tryz.prog 15 #[.pointer (some ⟨g, 0, none⟩)] w (TwoDrawn B g w) := by
  have hg := hd.hg
  go_enter Tryz.func15, Tryz.ntmps15
  go_wp2_with fail
  refine (l1Once_any _ _ 3 _ hd ⟨by decide, by decide⟩).mono ?_
  rintro e w2 ⟨b2, rfl, ho2, hd2⟩
  have hk2 := ho2.keeps
  have hws2 : w.heap.size ≤ w2.heap.size := hk2.size
  have hgw2 : g < w2.heap.size := hd2.hg
  rcases b2 with _ | _
  · go_wp2_with fail
    refine (l16Draw_any _ _ _ hd2).mono ?_
    rintro e w3 ⟨nds, fl, v, rfl, ⟨nv, fv, rfl, q1, q2⟩, hgood, hk3, hd3⟩
    obtain ⟨gd, cd, rfl, hgd, -⟩ := q1.ptr (by have := hgood.one; omega)
    obtain ⟨af, cf, rfl⟩ := q2.slice
    have hn1 := hgood.one
    have hn4 := hgood.four
    have i0 : (0 : Int) < nds.length := by omega
    have i0n : 0 < nds.length := by omega
    have hbk : ∀ j, j < nds.length → AllE (ND nds j).book ∧ (ND nds j).book.length ≤ 20 := fun j hj => ⟨(hgood.bookJ hj).1, (hgood.bookJ hj).2.1⟩
    have hbooks := Lib.hid hbk
    clear hgood q2 hbk
    obtain ⟨gn, hgn0⟩ : ∃ x, x = w3.heap.size := ⟨_, rfl⟩
    obtain ⟨W4, hW4⟩ : ∃ x, x = w3.alloc (.cells #[.slice (some ⟨gd, 0, none⟩) nds.length cd, .slice af fl.length cf] 33) := ⟨_, rfl⟩
    have hN : Blk W4 gn 33 #[.slice (some ⟨gd, 0, none⟩) nds.length cd, .slice af fl.length cf] := by rw [hW4, hgn0]; exact Blk.new _ _ _
    have hb4 : Below w3.heap.size w3 W4 := by rw [hW4]; exact (Below.refl _ _).alloc (Nat.le_refl _) _
    have hgng : gn ≠ g := by have := hd3.hg; omega
    have hd4 := hd3.below hb4
    have hk4 := hk2.trans (hk3.then_below (hb4.mono hk3.size))
    have hq4 := q1.below hb4 (Nat.le_refl _)
    obtain ⟨bv, hbc4, hbo4⟩ := hq4.bookAt (j := 0) (by omega)
    have hbc4 : W4.cell? ⟨gd, 1, none⟩ = some bv := hbc4
    obtain ⟨hw0, hl0⟩ := hbooks.out 0 (by omega)
    obtain ⟨es, hes⟩ : ∃ es, (ND nds 0).book = es := ⟨_, rfl⟩
    rw [hes] at hbo4 hw0 hl0
    have HES := Lib.hid hes; have HW0 := Lib.hid hw0; have HL0 := Lib.hid (show es.length ≤ 100 by omega)
    clear hes hl0
    obtain ⟨ab, cb, rfl, -, -⟩ := hbo4.ents hw0
    have hgdg : gd ≠ g := by omega
    clear hbo4 hb4 hw0 q1 hd3 hk3
    go_upto_region 4 with fail
    rw [← hW4, ← hgn0]
    clear hW4 hgn0
    refine wp_region_held_drew (S := (fun w' => w'.cell? ⟨gn, 0, none⟩ = some (.slice (some ⟨gd, 0, none⟩) nds.length cd) ∧ w'.cell? ⟨gd, 1, none⟩ = some (.slice ab es.length cb))) (by kernel_rfl) ⟨(hN.drewN 1).cell 0, hbc4⟩ (fun hHeld => ?_)
    obtain ⟨W0, hW0⟩ : ∃ x, x = W4.drew := ⟨_, rfl⟩
    have hbW : Below W4.heap.size W4 W0 := by rw [hW0]; exact (Below.refl _ _).drew
    rw [← hW0] at hHeld ⊢
    clear hW0
    have hN0 := hN.below hbW hN.lt
    have hbc0 := (hbW.cell (World.block_lt_of_cell? _ _ hbc4)).trans hbc4
    have hd0 := hd4.below hbW
    have hk0 := hk4.then_below (hbW.mono hk4.size)
    have hq0 := hq4.below hbW (Nat.le_refl _)
    clear hN hd4 hk4 hq4 hbW hbc4
    refine tk (i := 0) (v := ?va0) rfl (by kernel_rfl) (fun _ _ _ h => h) (Or.inl ⟨by rfl, ?hya0⟩) (by assumption) ?ra0
    case hya0 => (intro w hSw; (try dsimp only at hSw); go_simp; try with_reducible rfl)
    try simp only [Act.put, qGa, qGb, qGc, qSa, qSb, qSc]
    refine tk (i := 1) (v := ?va1) rfl (by kernel_rfl) (fun _ _ _ h => h) (Or.inl ⟨by rfl, ?hya1⟩) (by assumption) ?ra1
    case hya1 => (intro w hSw; (try dsimp only at hSw); go_simp; try with_reducible rfl)
    try simp only [Act.put, qGa, qGb, qGc, qSa, qSb, qSc]
    refine tk (i := 2) (v := ?va2) rfl (by kernel_rfl) (fun _ _ _ h => h) (Or.inl ⟨by rfl, ?hya2⟩) (by assumption) ?ra2
    case hya2 => (intro w hSw; (try dsimp only at hSw); go_simp; try with_reducible rfl)
    try simp only [Act.put, qGa, qGb, qGc, qSa, qSb, qSc]
    refine tk (i := 3) (v := ?va3) rfl (by kernel_rfl) (fun _ _ _ h => h) (Or.inl ⟨by rfl, ?hya3⟩) (by assumption) ?ra3
    case hya3 => (intro w hSw; (try dsimp only at hSw); go_simp; try with_reducible rfl)
    try simp only [Act.put, qGa, qGb, qGc, qSa, qSb, qSc]
    refine tk (i := 4) (v := ?va4) rfl (by kernel_rfl) (fun _ _ _ h => h) (Or.inl ⟨by rfl, ?hya4⟩) (by assumption) ?ra4
    case hya4 => (intro w hSw; (try dsimp only at hSw); go_simp; try with_reducible rfl)
    try simp only [Act.put, qGa, qGb, qGc, qSa, qSb, qSc]
    refine tk (i := 5) (v := ?va5) rfl (by kernel_rfl) (fun _ _ _ h => h) (Or.inl ⟨by rfl, ?hya5⟩) (by assumption) ?ra5
    case hya5 => (intro w hSw; (try dsimp only at hSw); go_simp; try with_reducible rfl)
    try simp only [Act.put, qGa, qGb, qGc, qSa, qSb, qSc]
    refine tk (i := 6) (v := ?va6) rfl (by kernel_rfl) (fun _ _ _ h => h) (Or.inl ⟨by rfl, ?hya6⟩) (by assumption) ?ra6
    case hya6 => (intro w hSw; (try dsimp only at hSw); go_simp; try with_reducible rfl)
    try simp only [Act.put, qGa, qGb, qGc, qSa, qSb, qSc]
    refine tk (i := 7) (v := ?va7) rfl (by kernel_rfl) (fun _ _ _ h => h) (Or.inl ⟨by rfl, ?hya7⟩) (by assumption) ?ra7
    case hya7 => (intro w hSw; (try dsimp only at hSw); go_simp; try with_reducible rfl)
    try simp only [Act.put, qGa, qGb, qGc, qSa, qSb, qSc]
    refine tk (i := 8) (v := ?va8) rfl (by kernel_rfl) (fun _ _ _ h => h) (Or.inl ⟨by rfl, ?hya8⟩) (by assumption) ?ra8
    case hya8 => (intro w hSw; (try dsimp only at hSw); go_simp; try with_reducible rfl)
    try simp only [Act.put, qGa, qGb, qGc, qSa, qSb, qSc]
    refine tk (i := 9) (v := ?va9) rfl (by kernel_rfl) (fun _ _ _ h => h) (Or.inl ⟨by rfl, ?hya9⟩) (by assumption) ?ra9
    case hya9 => (intro w hSw; (try dsimp only at hSw); go_simp; try with_reducible rfl)
    try simp only [Act.put, qGa, qGb, qGc, qSa, qSb, qSc]
    refine tk (i := 10) (v := ?va10) rfl (by kernel_rfl) (fun _ _ _ h => h) (Or.inl ⟨by rfl, ?hya10⟩) (by assumption) ?ra10
    case hya10 => (intro w hSw; (try dsimp only at hSw); go_simp; try with_reducible rfl)
    try simp only [Act.put, qGa, qGb, qGc, qSa, qSb, qSc]
    refine wpAnyH_ready (rs := [11]) (by kernel_rfl) (by simp) ?_
    refine AllReadyH.cons rfl (fun K1 hK1 => ?_) AllReadyH.nil
    go_simp
    refine (l1Below_any _ _ nds.length _ hd0 ⟨by omega, by omega⟩).mono ?_
    rintro e w5 ⟨r5, rfl, hr5, -, ho5, hd5⟩
    have hr5 : (r5 : Int) < nds.length := hr5 (by omega)
    have hk5 := hk0.trans ho5.keeps
    have hN5 := hN0.keeps ho5.keeps hgng
    have hq5 := hq0.keeps ho5.keeps hgw2
    obtain ⟨bv, hbc5, hbo5⟩ := hq5.bookAt (j := 0) (by omega)
    obtain ⟨cv, hcc5, hco5⟩ := hq5.bookAt (j := r5) (by omega)
    obtain ⟨hw5, hl5⟩ := hbooks.out r5 (by omega)
    obtain ⟨hw0, hl0⟩ := hbooks.out 0 (by omega)
    have hbc5 : w5.cell? ⟨gd, 1, none⟩ = some bv := hbc5
    have hsame : bv = .slice ab es.length cb := by have h1 := ho5.cell hbc0 hgdg; rw [hbc5] at h1; exact Option.some.inj h1
    subst hsame
    rw [HES.out] at hbo5
    generalize (ND nds r5).book = fs at hco5 hw5 hl5
    obtain ⟨ac, cc, rfl, -, -⟩ := hco5.ents hw5
    go_wp2_with fail
    refine hK1.out _ _ ⟨hN5.cell 0, hbc5⟩ (fun hHeld => ?_)
    clear hK1 K1
    try simp only [Act.put, qGa, qGb, qGc, qSa, qSb, qSc]
    have i1 : (0 : Int) ≤ r5 := by omega
    have i2 : r5 < nds.length := by omega
    refine tk (i := 12) (v := ?vb12) rfl (by kernel_rfl) (fun _ _ _ h => h) (Or.inl ⟨by rfl, ?hyb12⟩) (by assumption) ?rb12
    case hyb12 => (intro w hSw; (try dsimp only at hSw); go_simp; try with_reducible rfl)
    try simp only [Act.put, qGa, qGb, qGc, qSa, qSb, qSc]
    refine tk (i := 13) (v := ?vb13) rfl (by kernel_rfl) (fun _ _ _ h => h) (Or.inl ⟨by rfl, ?hyb13⟩) (by assumption) ?rb13
    case hyb13 => (intro w hSw; (try dsimp only at hSw); go_simp; try with_reducible rfl)
    try simp only [Act.put, qGa, qGb, qGc, qSa, qSb, qSc]
    refine tk (i := 15) (v := ?vb15) rfl (by kernel_rfl) (fun _ _ _ h => h) (Or.inl ⟨by rfl, ?hyb15⟩) (by assumption) ?rb15
    case hyb15 => (intro w hSw; (try dsimp only at hSw); go_simp; try with_reducible rfl)
    try simp only [Act.put, qGa, qGb, qGc, qSa, qSb, qSc]
    refine wpAnyH_ready (rs := [14]) (by kernel_rfl) (by simp) ?_
    refine AllReadyH.cons rfl (fun K2 hK2 => ?_) AllReadyH.nil
    go_simp
    refine hK2.out _ _ ⟨hN5.cell 0, hbc5⟩ (fun hHeld => ?_)
    clear hK2 K2
    try simp only [Act.put, qGa, qGb, qGc, qSa, qSb, qSc]
    refine tk (i := 16) (v := ?vc16) rfl (by kernel_rfl) (fun _ _ _ h => h) (Or.inl ⟨by rfl, ?hyc16⟩) (by assumption) ?rc16
    case hyc16 => (intro w hSw; (try dsimp only at hSw); go_simp; try with_reducible rfl)
    try simp only [Act.put, qGa, qGb, qGc, qSa, qSb, qSc]
    refine wpAnyH_done (by kernel_rfl) ?_ _
    go_wp2_with fail
    go_ret2
    exact ⟨_, es, _, fs, rfl, hbo5.mono hws2, HW0.out, HL0.out, hco5.mono hws2, hw5, by omega, hk5, hd5⟩
  · go_wp2_with fail
    refine (l4DrawAny_any _ _ _ hd2).mono ?_
    rintro e w3 ⟨v, es, rfl, hown, hall, hlen, hk3, hd3⟩
    go_wp2_with fail
    refine (l4DrawAny_any _ _ _ hd3).mono ?_
    rintro e w4 ⟨u, fs, rfl, howu, hallu, hlenu, hk4, hd4⟩
    have hs3 := hk3.size
    go_wp2_with fail
    go_ret2
    exact ⟨v, es, u, fs, rfl, (hown.keeps hk4 hgw2).mono hws2, hall, by omega, howu.mono (by omega), hallu, by omega, (hk2.trans hk3).trans hk4, hd4⟩
set_option maxHeartbeats 1000000 in
theorem drawJoined_any (B : Nat) (ao : Option Addr) (n cap : Nat) (bs : List Int) (w : World) (hb : Bytes B w ao n cap bs) (hB : B ≤ w.heap.size) (hn : n ≤ 1099511627776) :
    Calls Tryz.prog 5 #[.slice ao n cap] w (TwoEs w) := by
  go_enter Tryz.func5, Tryz.ntmps5
  go_wp2_with fail
  refine (l1New_any B _ _ _ bs _ hb hB hn).mono ?_
  rintro e w1 ⟨rfl, hd1, hb1⟩
  have hs1 := hb1.size
  go_wp2_with fail
  refine (l7Draw_any _ _ _ hd1).mono ?_
  rintro e w2 ⟨v, es, u, fs, rfl, h1, h2, h3, h4, h5, h6, hk, hd2⟩
  go_wp2_with fail
  go_ret2
  exact ⟨v, es, u, fs, rfl, h1.mono hs1, h2, h3, h4.mono hs1, h5, h6, hb1.trans (hk.below (Nat.le_refl _) hs1)⟩
set_option maxHeartbeats 2000000 in
set_option maxRecDepth 100000 in
theorem drawWithin_any (B : Nat) (ao : Option Addr) (n cap : Nat) (bs : List Int) (w : World) (hb : Bytes B w ao n cap bs) (hB : B ≤ w.heap.size) (hn : n ≤ 1099511627776) :
    Calls Tryz.prog 8 #[.slice ao n cap] w (TwoEs w) := by
  go_enter Tryz.func8, Tryz.ntmps8
  go_wp2_with fail
  refine (l1New_any B _ _ _ bs _ hb hB hn).mono ?_
  rintro e w1 ⟨rfl, hd1, hb1⟩
  have hs1 := hb1.size
  have hg := hd1.hg
  go_wp2_with fail
  refine (l7Draw_any _ _ _ hd1).mono ?_
  rintro e w2 ⟨v, es, u, fs, rfl, h1, h2, h3, h4, h5, h6, hk, hd2⟩
  go_wp2_with fail
  refine (l1Once_any _ _ 2 _ hd2 ⟨by decide, by decide⟩).mono ?_
  rintro e w3 ⟨b3, rfl, ho3, hd3⟩
  have h13 := h1.keeps ho3.keeps hg
  have h43 := h4.keeps ho3.keeps hg
  have hk3 := hk.trans ho3.keeps
  have hb3 := hb1.trans (hk3.below (Nat.le_refl _) hs1)
  have hs3 := hb3.size
  clear h1 h4 hk hd1 hd2 hd3 ho3 hk3
  obtain ⟨a1, c1, rfl, hx1, -⟩ := h13.ents h2
  obtain ⟨a2, c2, rfl, hx2, -⟩ := h43.ents h5
  rcases b3 with _ | _
  · go_wp2_with fail
    go_ret2
    exact ⟨_, es, _, fs, rfl, h13.mono hs1, h2, h3, h43.mono hs1, h5, h6, hb3⟩
  · have hJ := specJoined_any _ _ _ _ _ _ _ _ _ w3 hx1 hx2 (Nat.le_refl _)
    have hjw : AllE ((joinR es fs).getD []) ∧ ((joinR es fs).getD []).length ≤ 20 := joinR_getD
    unfold MaybeEs at hJ
    generalize joinR es fs = r at hJ hjw
    have HJW := Lib.hid hjw
    clear hx1 hx2 hjw
    go_wp2_with fail
    refine hJ.mono ?_
    rintro e w4 ⟨v4, rfl, hown4, hb4⟩
    have hb14 := hb3.trans (hb4.mono hs3)
    have h14 := h13.below hb4 (Nat.le_refl _)
    have h44 := h43.below hb4 (Nat.le_refl _)
    cases r with
    | none =>
      go_wp2_with fail
      go_ret2
      exact ⟨_, es, _, fs, rfl, h14.mono hs1, h2, h3, h44.mono hs1, h5, h6, hb14⟩
    | some x =>
      go_wp2_with fail
      go_ret2
      exact ⟨_, es, _, x, rfl, h14.mono hs1, h2, h3, hown4.mono hs3, HJW.out.1, by have := HJW.out.2; simp at this; omega, hb14⟩
set_option linter.unusedSimpArgs false in
set_option maxHeartbeats 4000000 in
set_option maxRecDepth 100000 in
theorem specMoved_any (an : Option Addr) (cn : Nat) (nds : List Nd) (af : Option Addr) (cf : Nat) (fl : List (List Int)) (s : Stp) (w : World) (hx : Nds w.heap.size w an nds.length cn nds) (hy : Rws w.heap.size w af fl.length cf fl) (hg : NetGood nds fl) :
    Calls Tryz.prog 26 #[.agg #[.slice an nds.length cn, .slice af fl.length cf], .agg #[.int .i64 s.k, .int .i64 s.dk, .int .i64 s.dn, .int .i64 s.dt, .int .i64 s.dm, .int .i64 s.a, .int .i64 s.b, .int .i64 s.c]] w
      (NetSaid w.heap.size w.heap.size (moved nds fl s).1.1 (moved nds fl s).1.2 (moved nds fl s).2 w) := by
  have hmv := fun W (h : Below w.heap.size w W) => l16Moved_any w.heap.size an cn nds af cf fl s W (hx.below h (Nat.le_refl _) (Nat.le_refl _)) (hy.below h (Nat.le_refl _) (Nat.le_refl _)) h.size hg
  have hok := fun W (h : Below w.heap.size w W) => specNetOk_any w.heap.size an nds.length cn nds af fl.length cf fl W (hx.below h (Nat.le_refl _) (Nat.le_refl _)) (hy.below h (Nat.le_refl _) (Nat.le_refl _)) h.size
  rw [netOk_good.2 hg] at hok
  obtain ⟨k, dk, dn, dt, dm, a, b, c⟩ := s
  dsimp only at hmv ⊢
  obtain ⟨r, hr⟩ : ∃ r, moved nds fl ⟨k, dk, dn, dt, dm, a, b, c⟩ = r := ⟨_, rfl⟩
  rw [hr] at hmv ⊢
  obtain ⟨⟨nds2, fl2⟩, is2⟩ := r
  dsimp only at hmv ⊢
  clear hr
  have HMV := Lib.hid hmv; have HOK := Lib.hid hok; clear hmv hok hx hy hg
  generalize nds.length = nn at HMV HOK ⊢
  generalize fl.length = fn at HMV HOK ⊢
  obtain ⟨w0, hw0⟩ : ∃ x, x = w.alloc (.cells #[.slice an nn cn, .slice af fn cf] 33) := ⟨_, rfl⟩
  obtain ⟨w00, hw00⟩ : ∃ x, x = w0.alloc (.cells #[.int .i64 k, .int .i64 dk, .int .i64 dn, .int .i64 dt, .int .i64 dm, .int .i64 a, .int .i64 b, .int .i64 c] 62) := ⟨_, rfl⟩
  obtain ⟨wb, hwb⟩ : ∃ wb, wb = ((w.alloc (.cells #[.slice an nn cn, .slice af fn cf] 33)).alloc (.cells #[.int .i64 k, .int .i64 dk, .int .i64 dn, .int .i64 dt, .int .i64 dm, .int .i64 a, .int .i64 b, .int .i64 c] 62)).alloc (.cells #[.slice none 0 0, .slice none 0 0] 33) := ⟨_, rfl⟩
  obtain ⟨gn, hgn0⟩ : ∃ g, g = w.heap.size := ⟨_, rfl⟩
  obtain ⟨gs, hgs0⟩ : ∃ g, g = w.heap.size + 1 := ⟨_, rfl⟩
  obtain ⟨gr, hgr0⟩ : ∃ gr, gr = w.heap.size + 1 + 1 := ⟨_, rfl⟩
  have hnet : Blk wb gn 33 #[.slice an nn cn, .slice af fn cf] := by rw [hwb, hgn0]; exact ((Blk.new _ _ _).alloc _).alloc _
  have hstp : Blk wb gs 62 #[.int .i64 k, .int .i64 dk, .int .i64 dn, .int .i64 dt, .int .i64 dm, .int .i64 a, .int .i64 b, .int .i64 c] := by
    have h := Blk.new w0 62 #[.int .i64 k, .int .i64 dk, .int .i64 dn, .int .i64 dt, .int .i64 dm, .int .i64 a, .int .i64 b, .int .i64 c]
    have h1 : w0.heap.size = w.heap.size + 1 := by rw [hw0]; simp
    rw [h1] at h
    rw [hwb, hgs0, ← hw0]
    exact h.alloc _
  have hres : Blk wb gr 33 #[.slice none 0 0, .slice none 0 0] := by
    have h := Blk.new w00 33 #[.slice none 0 0, .slice none 0 0]
    have h1 : w00.heap.size = w.heap.size + 1 + 1 := by rw [hw00, hw0]; simp
    rw [h1] at h
    rw [hwb, hgr0, ← hw0, ← hw00]
    exact h
  have hb0 : Below w.heap.size w wb := by rw [hwb]; exact (((Below.refl _ _).alloc (Nat.le_refl _) _).alloc (by simp) _).alloc (by simp; omega) _
  have hgrb : w.heap.size ≤ gr := by omega
  clear hw0 hw00
  have d0 := hnet.cell 0; have d1 := hnet.cell 1
  go_enter Tryz.func26, Tryz.ntmps26
  go_upto_region 1 with fail
  rw [← hwb, ← hgr0, ← hgs0, ← hgn0]
  clear hwb hgr0 hgs0 hgn0
  go_wp2_with fail
  refine (HOK.out _ hb0).mono ?_
  rintro e w1 ⟨rfl, hb1⟩
  have hb01 := hb0.trans (hb1.mono hb0.size)
  have hn1 := hnet.below hb1 hnet.lt
  have hs1 := hstp.below hb1 hstp.lt
  have hr1 := hres.below hb1 hres.lt
  clear d0 d1 hnet hstp hres hb0 hb1
  have d0 := hn1.cell 0; have d1 := hn1.cell 1
  have s0 := hs1.cell 0; have s1 := hs1.cell 1; have s2 := hs1.cell 2; have s3 := hs1.cell 3
  have s4 := hs1.cell 4; have s5 := hs1.cell 5; have s6 := hs1.cell 6; have s7 := hs1.cell 7
  go_wp2_with fail
  refine (HMV.out _ hb01).mono ?_
  rintro e w2 ⟨v, rfl, ⟨nv, fv, rfl, q1, q2⟩, hb2, hkn2⟩
  obtain ⟨a3, c3, rfl⟩ := q1.slice
  obtain ⟨b3, e3, rfl⟩ := q2.slice
  have hr2 := hkn2.net hr1
  have hb02 := hb01.trans (hb2.mono hb01.size)
  clear d0 d1 s0 s1 s2 s3 s4 s5 s6 s7 hn1 hs1 hr1
  have hkn : KeepNet w w2 := KeepNet.of_below hb02
  have q1 := q1.mono hb01.size
  have q2 := q2.mono hb01.size
  have z0 := hr2.cell 0; have z1 := hr2.cell 1
  have y0 := hr2.frozen 0; have y1 := hr2.frozen 1
  have hZ := Blk.set2 hr2 (.slice a3 nds2.length c3) (.slice b3 fl2.length e3)
  have hBZ := hb02.set2 hgrb (.slice a3 nds2.length c3) (.slice b3 fl2.length e3)
  have hOZ := Only.set2 gr w2 (.slice a3 nds2.length c3) (.slice b3 fl2.length e3)
  have p0 := hZ.cell 0; have p1 := hZ.cell 1
  have HQ1 := Lib.hid (OwnNds.off q1 hr2 hOZ.keeps (by decide) (by decide) (by decide) (by decide))
  have HQ2 := Lib.hid (OwnRows.off q2 hr2 hOZ.keeps (by decide) (by decide))
  have HBZ := Lib.hid hBZ
  have HKN := Lib.hid ((hkn.set_ (p := ⟨gr, 0, none⟩) (by show w.heap.size ≤ gr; omega) (.slice a3 nds2.length c3)).set_ (p := ⟨gr, 1, none⟩) (by show w.heap.size ≤ gr; omega) (.slice b3 fl2.length e3))
  clear hBZ hZ hOZ q1 q2
  go_wp2_with fail
  refine bodyPost_ret (v := .tuple #[.agg #[.slice a3 nds2.length c3, .slice b3 fl2.length e3], .bool is2]) (by simp [results, Tryz.results26, go_sem, p0, p1]) rfl ?_
  exact ⟨_, rfl, ⟨_, _, rfl, HQ1.out, HQ2.out⟩, HBZ.out, HKN.out⟩
end Go.Proofs.YtoniahfdjhhalaaGreat
