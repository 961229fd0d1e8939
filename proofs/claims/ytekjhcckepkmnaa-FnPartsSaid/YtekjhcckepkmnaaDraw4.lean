/-
  Books by the dice: spec.l4Draw, spec.l4DrawAny.
-/
import Derived.Test.YtekjhcckepkmnaaDrawE
import Derived.Test.YtekjhcckepkmnaaWithR
import Derived.Test.YtekjhcckepkmnaaEntsSet
namespace Go.Proofs.Ytekjhcckepkmnaa
open Go.RowKit

theorem withR_len {es : List Ent} {x : Ent} {r : List Ent} (h : withR es x = some r) : r.length ≤ 20 ∧ AllE r := by
  unfold withR at h
  split at h
  · rename_i hh
    cases h
    exact ⟨book_len hh.2.2, book_wf hh.2.2⟩
  · cases h

/-- A drawn row of entries. -/
def EsDrawn (w : World) (e : Ending) (w' : World) : Prop := ∃ v es, e = .returned v ∧ OwnE w.heap.size w' v es ∧ AllE es ∧ es.length ≤ 21 ∧ Below w.heap.size w w'

/-- A new row of entries, at most m. -/
def EsSaid (m : Nat) (B g : Nat) (w : World) (e : Ending) (w' : World) : Prop := ∃ v es, e = .returned v ∧ OwnE w.heap.size w' v es ∧ AllE es ∧ es.length ≤ m ∧ Keeps g w w' ∧ Dice B g w'

set_option maxHeartbeats 1000000 in
set_option maxRecDepth 100000 in
theorem l4Draw_any (B g : Nat) (w : World) (hd : Dice B g w) :
    Calls Try.prog 37 #[.pointer (some ⟨g, 0, none⟩)] w (EsSaid 20 B g w) := by
  have hg := hd.hg
  have hszE : (w.alloc (.cells #[] 33)).heap.size = w.heap.size + 1 := by simp
  go_enter Try.func37, Try.ntmps37
  go_wp2_with fail
  refine (l1Below_any B g 9 _ (hd.alloc _) ⟨by decide, by decide⟩).mono ?_
  rintro e w1 ⟨r, rfl, hr1, -, ho1, hd1⟩
  have hr2 : (r : Int) < 9 := hr1 (by omega)
  clear hr1
  have hk1 : Keeps g w w1 := (Keeps.alloc g w _).trans ho1.keeps
  have hown1 : OwnE w.heap.size w1 (.slice (some ⟨w.heap.size, 0, none⟩) 0 0) [] := (ownE_empty w).keeps ho1.keeps hg
  go_wp2_with fail
  go_loopw [3, 4] (fun sv sn wr => ∃ (m : Nat) (es : List Ent), sn = .int .i64 m ∧ m ≤ 9 ∧ OwnE w.heap.size wr sv es ∧ AllE es ∧ es.length ≤ 20 ∧ Keeps g w wr ∧ Dice B g wr) (fun _ sn _ => (intOf sn).toNat)
  case atStart => exact ⟨r, [], rfl, by omega, hown1, fun x hx => (by cases hx), by simp, hk1, hd1⟩
  case round =>
    obtain ⟨m, es, rfl, hm9, hown, hall, hle, hk, hdr⟩ := hrel
    by_cases hm : m = 0
    · subst hm
      go_wp2
      go_ret
      exact ⟨_, es, rfl, hown, hall, hle, hk, hdr⟩
    · have hm1 : 0 < m := by omega
      have hm2 : (0 : Int) < m := by omega
      obtain ⟨a0, c0, rfl, hi0, hz0⟩ := hown.ents hall
      have HZ := Lib.hid hz0; clear hz0 hi0
      go_wp2_with fail
      refine (l3Draw_any B g _ hdr).mono ?_
      rintro e w2 ⟨o, s, a, d, rfl, ho, hs, ha, hdd, hk2, hd2⟩
      have hown2 := hown.keeps hk2 hg
      obtain ⟨a2, c2, e2, hi2, hz2⟩ := hown2.ents hall
      simp only [Value.slice.injEq] at e2
      obtain ⟨rfl, -, rfl⟩ := e2
      have hwx : (⟨o, s, a, d⟩ : Ent).wf := ⟨ho, hs, ha, hdd⟩
      have hW := specWith_any w2.heap.size a0 es.length c0 es ⟨o, s, a, d⟩ w2 hi2 hz2 (Nat.le_refl _) hwx
      have hlen := fun r h => withR_len (es := es) (x := ⟨o, s, a, d⟩) (r := r) h
      generalize withR es ⟨o, s, a, d⟩ = q at hW hlen
      have hk02 := hk.trans hk2
      have hsz2 := hk02.size
      clear hk2 hdr hi2 hz2 hown
      go_wp2_with fail
      refine hW.mono ?_
      rintro e w3 ⟨v3, rfl, hown3, hb3⟩
      have hd3 := hd2.below hb3
      have hk3 := hk02.trans (Keeps.of_below hb3)
      rcases q with _ | es3
      · have hown23 := hown2.below hb3 (Nat.le_refl _)
        go_wp2
        go_roundw
        case rel => exact ⟨m - 1, es, by go_num, by omega, hown23, hall, hle, hk3, hd3⟩
        case measure => simp [intOf]; omega
      · have hl3 := hlen es3 rfl
        have hown3' := hown3.mono hsz2
        go_wp2
        go_roundw
        case rel => exact ⟨m - 1, es3, by go_num, by omega, hown3', hl3.2, hl3.1, hk3, hd3⟩
        case measure => simp [intOf]; omega

theorem keeps_set4 {g r k : Nat} {w w4 : World} (hr : w.heap.size ≤ r) (hk : Keeps g w w4) (hg : g < w.heap.size) {B : Nat} (hd : Dice B g w4) (x y z u : Value) :
    Keeps g w ((((w4.setCell ⟨r, k, none⟩ x).setCell ⟨r, k + 1, none⟩ y).setCell ⟨r, k + 2, none⟩ z).setCell ⟨r, k + 3, none⟩ u) ∧ Dice B g ((((w4.setCell ⟨r, k, none⟩ x).setCell ⟨r, k + 1, none⟩ y).setCell ⟨r, k + 2, none⟩ z).setCell ⟨r, k + 3, none⟩ u) := by
  have hb : Below w.heap.size w4 ((((w4.setCell ⟨r, k, none⟩ x).setCell ⟨r, k + 1, none⟩ y).setCell ⟨r, k + 2, none⟩ z).setCell ⟨r, k + 3, none⟩ u) :=
    ((((Below.refl _ _).setCell (by exact hr) _).setCell (by exact hr) _).setCell (by exact hr) _).setCell (by exact hr) _
  exact ⟨hk.then_below hb, hd.below' hb hg⟩

theorem OwnE.form {base : Nat} {w : World} {v : Value} {es : List Ent} (h : OwnE base w v es) (hn : 0 < es.length) : ∃ g cap, v = .slice (some ⟨g, 0, none⟩) es.length cap := by
  rcases h.2 with ⟨_, h0⟩ | ⟨g, cap, _, hv, _⟩
  · omega
  · exact ⟨g, cap, hv⟩

theorem allE_set {es : List Ent} {j : Nat} {e : Ent} (h : AllE es) (he : e.wf) : AllE (es.set j e) := by
  intro x hx
  rcases List.mem_or_eq_of_mem_set hx with h1 | h1
  · exact h x h1
  · rw [h1]; exact he
theorem allE_append {es : List Ent} {e : Ent} (h : AllE es) (he : e.wf) : AllE (es ++ [e]) := by
  intro x hx
  rcases List.mem_append.1 hx with h1 | h1
  · exact h x h1
  · simp at h1; rw [h1]; exact he

set_option maxHeartbeats 2000000 in
set_option maxRecDepth 100000 in
theorem l4DrawAny_any (B g : Nat) (w : World) (hd : Dice B g w) :
    Calls Try.prog 23 #[.pointer (some ⟨g, 0, none⟩)] w (EsSaid 21 B g w) := by
  have hg := hd.hg
  go_enter Try.func23, Try.ntmps23
  go_wp2_with fail
  refine (l4Draw_any B g _ hd).mono ?_
  rintro e w1 ⟨v1, es, rfl, hown1, hall, hle, hk1, hd1⟩
  go_wp2_with fail
  refine (l1Once_any B g 6 _ hd1 ⟨by decide, by decide⟩).mono ?_
  rintro e w2 ⟨b2, rfl, ho2, hd2⟩
  have hown2 := hown1.keeps ho2.keeps hg
  have hk2 := hk1.trans ho2.keeps
  clear hown1 hd1 hk1 ho2
  rcases b2 with _ | _
  · go_wp2
    go_ret
    exact ⟨_, es, rfl, hown2, hall, by omega, hk2, hd2⟩
  · go_wp2_with fail
    refine (l1Below_any B g 3 _ hd2 ⟨by decide, by decide⟩).mono ?_
    rintro e w3 ⟨r, rfl, hr, -, ho3, hd3⟩
    have hr : (r : Int) < 3 := hr (by omega)
    have hown3 := hown2.keeps ho3.keeps hg
    have hk3 := hk2.trans ho3.keeps
    clear hown2 hd2 hk2 ho3
    have hr' : r = 0 ∨ r = 1 ∨ r = 2 := by omega
    rcases hr' with rfl | rfl | rfl
    · go_wp2_with fail
      refine (l3DrawAny_any B g _ hd3).mono ?_
      rintro e w4 ⟨o, s, a, d, rfl, ho, hs, ha, hdd, hk4, hd4⟩
      have hown4 := hown3.keeps hk4 hg
      have hk04 := hk3.trans hk4
      have hsz := hk04.size
      clear hown3 hd3 hk3 hk4
      go_wp2_with (at_builtin; refine appendE_one ⟨o, s, a, d⟩ rfl _ _ rfl w.heap.size _ es rfl rfl hown4 hsz (by omega) ?_; intro vA wA hownA hbA)
      go_ret
      have hlen : (es ++ [(⟨o, s, a, d⟩ : Ent)]).length ≤ 21 := by simp; omega
      exact ⟨_, _, rfl, hownA, allE_append hall ⟨ho, hs, ha, hdd⟩, hlen, hk04.then_below hbA, hd4.below' hbA hg⟩
    · by_cases h0 : es.length = 0
      · have hnil : es = [] := List.eq_nil_of_length_eq_zero h0
        subst hnil
        obtain ⟨a3, c3, rfl, hi3, -⟩ := hown3.ents hall
        clear hi3
        go_wp2
        go_ret
        exact ⟨_, [], rfl, hown3, hall, by simp, hk3, hd3⟩
      · have hpos : 0 < es.length := by omega
        obtain ⟨g3, c3, hv3⟩ := OwnE.form hown3 hpos
        subst hv3
        obtain ⟨n, hn⟩ : ∃ n, es.length = n := ⟨_, rfl⟩
        unfold OwnE at hown3
        rw [hn] at hown3 hpos hle ⊢
        have HN := Lib.hid hn; clear hn h0
        have hposI : (0 : Int) < n := by omega
        have hg3 := World.ownsRow.lt hown3 g3 rfl
        go_wp2_with fail
        refine (l1Below_any B g n _ hd3 ⟨by omega, by omega⟩).mono ?_
        rintro e w4 ⟨j, rfl, hj, -, ho4, hd4⟩
        have hj : (j : Int) < n := hj hposI
        have hjn : j < n := by omega
        have hown4 := World.ownsRow.kept hown3 ho4.grown (.inr (fun e => by have h2 : g3 = g := Option.some.inj e; omega))
        have hk4 := hk3.trans ho4.keeps
        clear hown3 hd3 hk3 ho4
        go_wp2_with fail
        refine (l3DrawAny_any B g _ hd4).mono ?_
        rintro e w5 ⟨o, s, a, d, rfl, ho, hs, ha, hdd, hk5, hd5⟩
        have hown5 := World.ownsRow.kept hown4 hk5 (.inr (fun e => by have h2 : g3 = g := Option.some.inj e; omega))
        have hk05 := hk4.trans hk5
        obtain ⟨q0, q1, q2, q3⟩ := OwnE.ent4 hown5 HN.out j hjn
        have f0 := hown5.frozenAt (j * 4); have f1 := hown5.frozenAt (j * 4 + 1); have f2 := hown5.frozenAt (j * 4 + 2); have f3 := hown5.frozenAt (j * 4 + 3)
        have hst := OwnE.store hown5 HN.out j hjn ⟨o, s, a, d⟩
        have hsd := keeps_set4 (k := j * 4) hg3.1 hk05 hg hd5 (.int .i64 o) (.int .i64 s) (.int .i64 a) (.int .i64 d)
        have HST := Lib.hid hst; have HSD := Lib.hid hsd
        have i1 : (0 : Int) ≤ j := by omega
        clear hst hsd hown5 hown4 hd4 hk4 hk5
        go_wp2
        go_ret
        have hl := HN.out
        have hlen : (es.set j (⟨o, s, a, d⟩ : Ent)).length = n := by rw [List.length_set]; exact hl
        refine ⟨_, es.set j ⟨o, s, a, d⟩, rfl, ?_, allE_set hall ⟨ho, hs, ha, hdd⟩, by omega, HSD.out.1, HSD.out.2⟩
        unfold OwnE
        rw [hlen]
        exact HST.out
    · by_cases h0 : es.length ≤ 1
      · obtain ⟨a3, c3, rfl, hi3, -⟩ := hown3.ents hall
        clear hi3
        obtain ⟨n, hn⟩ : ∃ n, es.length = n := ⟨_, rfl⟩
        unfold OwnE at hown3
        rw [hn] at hown3 h0 hle ⊢
        have HN := Lib.hid hn; clear hn
        go_wp2
        go_ret
        have hl := HN.out
        exact ⟨_, es, rfl, by unfold OwnE; rw [hl]; exact hown3, hall, by omega, hk3, hd3⟩
      · have hpos : 0 < es.length := by omega
        obtain ⟨g3, c3, hv3⟩ := OwnE.form hown3 hpos
        subst hv3
        match es, h0 with
        | x :: y :: r, _ =>
          obtain ⟨n, hn⟩ : ∃ n, (x :: y :: r).length = n := ⟨_, rfl⟩
          unfold OwnE at hown3
          rw [hn] at hown3 hle ⊢
          have hn2 : 2 ≤ n := by simp at hn; omega
          have HN := Lib.hid hn; clear hn hpos
          have hg3 := World.ownsRow.lt hown3 g3 rfl
          have q1 := (OwnE.ent4 hown3 HN.out 1 (by omega)).h3
          have q0 := (OwnE.ent4 hown3 HN.out 0 (by omega)).h3
          have f3 := hown3.frozenAt 3
          have e1 : (E (x :: y :: r) 1).d = y.d := rfl
          rw [e1] at q1
          clear e1
          simp only [Nat.zero_mul, Nat.zero_add, Nat.one_mul] at q0 q1
          have hst := (hown3.stored 3 (.int .i64 y.d)).1
          have hset : (flatE (x :: y :: r)).set 3 (.int .i64 y.d) = flatE (⟨x.o, x.s, x.a, y.d⟩ :: y :: r) := rfl
          rw [hset] at hst
          have hb3 : Below w.heap.size w3 (w3.setCell ⟨g3, 3, none⟩ (.int .i64 y.d)) := (Below.refl _ _).setCell (by exact hg3.1) _
          have hkd := Lib.hid (⟨hk3.then_below hb3, hd3.below' hb3 hg⟩ : Keeps g w (w3.setCell ⟨g3, 3, none⟩ (.int .i64 y.d)) ∧ Dice B g (w3.setCell ⟨g3, 3, none⟩ (.int .i64 y.d)))
          have HST := Lib.hid hst
          have hw1 := Lib.hid (hall x (by simp)); have hw2 := Lib.hid (hall y (by simp))
          have HA := Lib.hid hall
          clear hst hset hown3 hk3 hd3 hb3 hall
          have i1 : (1 : Int) < n := by omega
          have i2 : (0 : Int) < n := by omega
          go_wp2
          go_ret
          have hl := HN.out
          refine ⟨_, ⟨x.o, x.s, x.a, y.d⟩ :: y :: r, rfl, by unfold OwnE; rw [show (⟨x.o, x.s, x.a, y.d⟩ :: y :: r : List Ent).length = n from hl]; exact HST.out, ?_, by rw [show (⟨x.o, x.s, x.a, y.d⟩ :: y :: r : List Ent).length = n from hl]; omega, hkd.out.1, hkd.out.2⟩
          intro z hz
          rcases List.mem_cons.1 hz with rfl | hz
          · exact ⟨hw1.out.1, hw1.out.2.1, hw1.out.2.2.1, hw2.out.2.2.2⟩
          · exact HA.out z (List.mem_cons_of_mem _ hz)

end Go.Proofs.Ytekjhcckepkmnaa
