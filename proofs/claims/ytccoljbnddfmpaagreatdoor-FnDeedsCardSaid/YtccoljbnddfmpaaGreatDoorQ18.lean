/- Texts of this claim, put together. -/
import Derived.Test.YtccoljbnddfmpaaGreatDoorQ1
import Derived.Test.YtccoljbnddfmpaaGreatDoorQ6
import Derived.Test.YtccoljbnddfmpaaGreatDoorQ7
import Derived.Test.YtccoljbnddfmpaaGreatDoorQ8
import Derived.Test.YtccoljbnddfmpaaGreatDoorQ9
import Derived.Test.YtccoljbnddfmpaaGreatDoorQ16
import Derived.Test.YtccoljbnddfmpaaGreatDoorQ17

namespace Go.Proofs.YtccoljbnddfmpaaGreatDoor
open Go.RowKit
def TriedR (a0 a1 : Addr) (c : Int) (k nd t m : Int) (out : List Ent) (w : World) (e : Ending) (w' : World) : Prop :=
  ∃ (v err : Value), e = .returned (.tuple #[v, err]) ∧ Below w.heap.size w w' ∧
    ((c = 0 ∧ err = .nilIface ∧ OwnE w.heap.size w' v out) ∨ (v = .slice none 0 0 ∧ ∃ why, Why a0 a1 c why ∧ err = .iface 90 (.agg #[.int .i64 k, .int .i64 nd, .int .i64 t, .int .i64 m, why])))
theorem wf_of_ok {x : Ent} (h : x.ok = true) : x.wf := by
  have := Ent.ok_all h
  refine ⟨?_, ?_, ?_, ?_⟩ <;> (unfold I64; omega)
theorem code_zero {es : List Ent} {k nd t m : Int} (h : doneCode es k nd t m = 0) : bookOk es = true ∧ (deedEnt es k nd t m).ok = true ∧ deedOk k nd t m = true ∧ doneR es k nd t m = (putE es (deedEnt es k nd t m), 0) := by
  unfold doneCode at h
  split at h
  · rename_i hh
    unfold doneR at h ⊢
    split at h
    · cases h
    · rename_i h1
      rw [if_neg h1]
      split at h
      · rename_i h2
        rw [if_pos h2]
        exact ⟨hh.1, h2, hh.2, rfl⟩
      · cases h
  · cases h
set_option maxHeartbeats 4000000 in
set_option maxRecDepth 100000 in
theorem tried_any (B : Nat) (ao : Option Addr) (n cap : Nat) (es : List Ent) (k nd t m : Int) (a0 a1 : Addr) (w : World) (hx : Ents B w ao n cap es) (hz : ao = none → cap = 0) (hB : B ≤ w.heap.size) (hE : Errs w a0 a1) :
    Calls Tryz.prog 26 #[.slice ao n cap, .agg #[.int .i64 k, .int .i64 nd, .int .i64 t, .int .i64 m]] w (TriedR a0 a1 (doneCode es k nd t m) k nd t m (putE es (deedEnt es k nd t m)) w) := by
  obtain ⟨wb, hwb⟩ : ∃ wb, wb = w.alloc (.cells #[.int .i64 k, .int .i64 nd, .int .i64 t, .int .i64 m] 26) := ⟨_, rfl⟩
  have hb0 : Below w.heap.size w wb := by rw [hwb]; exact (Below.refl _ _).alloc (Nat.le_refl _) _
  have hs0 := hb0.size
  have hk0 : Blk wb w.heap.size 26 #[.int .i64 k, .int .i64 nd, .int .i64 t, .int .i64 m] := by rw [hwb]; exact Blk.new _ _ _
  have h1 := changedBy_any B ao n cap es k nd t m a0 a1 wb (hx.below hb0 hB (Nat.le_refl B)) (by omega) (hE.below hb0 (Nat.le_refl _))
  have hcz : doneCode es k nd t m = 0 → bookOk es = true ∧ (deedEnt es k nd t m).ok = true := fun h => ⟨(code_zero h).1, (code_zero h).2.1⟩
  generalize deedEnt es k nd t m = x at h1 hcz
  generalize doneCode es k nd t m = c at h1 hcz
  have hxm : ∀ w', Below w.heap.size w w' → Ents B w' ao n cap es ∧ B ≤ w'.heap.size := fun w' hb => ⟨hx.below hb hB (Nat.le_refl B), by have := hb.size; omega⟩
  have HX := Lib.hid hxm; clear hxm hx hE
  have d0 := hk0.cell 0; have d1 := hk0.cell 1; have d2 := hk0.cell 2; have d3 := hk0.cell 3
  go_enter Tryz.func26, Tryz.ntmps26
  go_upto_region 1 with fail
  rw [← hwb]
  clear hwb
  go_wp2_with fail
  refine h1.mono ?_
  rintro e w1 ⟨y, why, rfl, hb1, hcase⟩
  have hk1 := hk0.below hb1 hk0.lt
  have hB1 := hb0.trans (hb1.mono hs0)
  have hs1 := hB1.size
  clear d0 d1 d2 d3 h1
  rcases hcase with ⟨hc, rfl, rfl⟩ | hwhy
  · obtain ⟨hbk, hyk⟩ := hcz hc
    have hxw := wf_of_ok hyk
    have hpw := put_wf (book_wf hbk) hxw
    clear hcz hk0 hk1
    obtain ⟨wy, hwy⟩ : ∃ wy, wy = w1.alloc (.cells #[.int .i64 y.o, .int .i64 y.s, .int .i64 y.a, .int .i64 y.d] 47) := ⟨_, rfl⟩
    have hky : Blk wy w1.heap.size 47 #[.int .i64 y.o, .int .i64 y.s, .int .i64 y.a, .int .i64 y.d] := by
      rw [hwy]
      exact Blk.new _ _ _
    have hby : Below w1.heap.size w1 wy := by
      rw [hwy]
      exact (Below.refl _ _).alloc (Nat.le_refl _) _
    have hlt := hky.lt
    have hBy := hB1.trans (hby.mono hs1)
    have hsy := hBy.size
    have HD : Hid (∀ w', Below wy.heap.size wy w' → Blk w' w1.heap.size 47 #[.int .i64 y.o, .int .i64 y.s, .int .i64 y.a, .int .i64 y.d]) := Lib.hid (fun w' h => hky.below h hlt)
    have hkw := fun wA (h : Below wy.heap.size wy wA) => keyedWith_any B ao n cap es y wA (HX.out _ (hBy.trans (h.mono hsy))).1 hz (HX.out _ (hBy.trans (h.mono hsy))).2 hbk hxw
    obtain ⟨pe, hpe⟩ : ∃ pe, putE es y = pe := ⟨_, rfl⟩
    rw [hpe] at hkw hpw
    have HW := Lib.hid hkw; clear hkw
    have HPE := Lib.hid hpe; clear hpe
    go_upto_region 2 with fail
    rw [← hwy]
    clear hwy
    have p0 := hky.cell 0; have p1 := hky.cell 1; have p2 := hky.cell 2; have p3 := hky.cell 3
    go_wp2_with fail
    go_region_held3 (fun w' => w'.cell? ⟨w1.heap.size, 0, none⟩ = some (.int .i64 y.o) ∧ w'.cell? ⟨w1.heap.size, 1, none⟩ = some (.int .i64 y.s) ∧ w'.cell? ⟨w1.heap.size, 2, none⟩ = some (.int .i64 y.a) ∧ w'.cell? ⟨w1.heap.size, 3, none⟩ = some (.int .i64 y.d))
      (first | exact ⟨(HD.out _ HBB).cell 0, (HD.out _ HBB).cell 1, (HD.out _ HBB).cell 2, (HD.out _ HBB).cell 3⟩ | exact ⟨(HD.out _ HBA).cell 0, (HD.out _ HBA).cell 1, (HD.out _ HBA).cell 2, (HD.out _ HBA).cell 3⟩ | exact ⟨p0, p1, p2, p3⟩)
      (first
        | (go_at_call 50; refine (entriesByKey_any _ _ _ _).mono ?_; rintro e wA ⟨rfl, hbA⟩; have HBA := (Below.refl wy.heap.size wy).drew.trans hbA)
        | (go_at_call 51; refine (HW.out _ HBA).mono ?_; rintro e wC ⟨v, rfl, hown, hbC⟩; have HBB := HBA.trans (hbC.mono HBA.size); have hownS := hown))
    have hsA := HBA.size
    clear p0 p1 p2 p3
    go_wp2_with fail
    go_ret2
    exact ⟨_, _, rfl, hBy.trans (HBB.mono hsy), .inl ⟨hc, rfl, by rw [HPE.out]; exact hownS.mono (by omega)⟩⟩
  · obtain ⟨wy, hwy⟩ : ∃ wy, wy = w1.alloc (.cells #[.int .i64 y.o, .int .i64 y.s, .int .i64 y.a, .int .i64 y.d] 47) := ⟨_, rfl⟩
    have hby : Below w1.heap.size w1 wy := by
      rw [hwy]
      exact (Below.refl _ _).alloc (Nat.le_refl _) _
    have hky := hk1.below hby hk1.lt
    have hBy := hB1.trans (hby.mono hs1)
    have p0 := hky.cell 0; have p1 := hky.cell 1; have p2 := hky.cell 2; have p3 := hky.cell 3
    clear hcz hk0 hk1
    obtain ⟨why0, hwe⟩ : ∃ x, x = why := ⟨_, rfl⟩
    have hwhy0 : Why a0 a1 c why0 := by rw [hwe]; exact hwhy
    have HWE := Lib.hid hwe; clear hwe
    rcases hwhy with ⟨-, rfl⟩ | ⟨-, p, q, rfl⟩ | ⟨-, rfl⟩
    all_goals
      go_upto_region 2 with fail
      rw [← hwy]
      clear hwy
      go_wp2_with fail
      go_region
      go_wp2_with fail
      go_ret2
      exact ⟨_, _, rfl, hBy.drew, .inr ⟨rfl, why0, hwhy0, by rw [HWE.out]; rfl⟩⟩
set_option maxHeartbeats 1000000 in
set_option maxRecDepth 100000 in
theorem codeOf_nil (w : World) : Calls Tryz.prog 27 #[.nilIface] w (Says (.int .i64 0) w) := by
  go_enter Tryz.func27, Tryz.ntmps27
  go_wp2_with fail
  go_ret
  exact ⟨rfl, (Below.refl _ _).alloc (Nat.le_refl _) _⟩
set_option maxHeartbeats 2000000 in
set_option maxRecDepth 100000 in
theorem codeOf_why (a0 a1 : Addr) (k nd t m : Int) (c : Int) (why : Value) (w : World) (hE : Errs w a0 a1) (hw : Why a0 a1 c why) :
    Calls Tryz.prog 27 #[.iface 90 (.agg #[.int .i64 k, .int .i64 nd, .int .i64 t, .int .i64 m, why])] w (Says (.int .i64 c) w) := by
  obtain ⟨wb, hwb⟩ : ∃ wb, wb = w.alloc (.cells #[.int .i64 0, .int .i64 0] 97) := ⟨_, rfl⟩
  have hb0 : Below w.heap.size w wb := by rw [hwb]; exact (Below.refl _ _).alloc (Nat.le_refl _) _
  have hs0 : wb.heap.size = w.heap.size + 1 := by rw [hwb]; simp
  have hk0 : Blk wb w.heap.size 97 #[.int .i64 0, .int .i64 0] := by rw [hwb]; exact Blk.new _ _ _
  have hE0 := hE.below hb0 (Nat.le_refl _)
  have g0 := hE0.short
  have hp0 : ¬ w.heap.size = 0 := by have := cell_lt hE.short; omega
  clear hE
  rcases hw with ⟨rfl, rfl⟩ | ⟨rfl, p, q, rfl⟩ | ⟨rfl, rfl⟩
  · have h1 := fun w => is_same k nd t m a0 w
    go_enter Tryz.func27, Tryz.ntmps27
    go_upto_region 2 with fail
    rw [← hwb]
    clear hwb
    go_wp2_with fail
    refine (h1 _).mono ?_
    rintro e w1 ⟨rfl, rfl⟩
    go_wp2_with fail
    go_ret
    exact ⟨rfl, hb0.alloc (by omega) _⟩
  · have h1 := fun w => is_limit k nd t m p q a0 w
    obtain ⟨w1, hw1⟩ : ∃ w1, w1 = wb.alloc (.cells #[.int .i64 k, .int .i64 nd, .int .i64 t, .int .i64 m, .iface 97 (.agg #[.int .i64 p, .int .i64 q])] 90) := ⟨_, rfl⟩
    have hbw : Below wb.heap.size wb w1 := by rw [hw1]; exact (Below.refl _ _).alloc (Nat.le_refl _) _
    have hk1 := hk0.below hbw hk0.lt
    have hE1 := hE0.below hbw (Nat.le_refl _)
    have hs1 := hbw.size
    have h2 := as_limit w.heap.size w.heap.size _ _ k nd t m p q w1 hE1.type hk1 (Nat.le_refl _)
    go_enter Tryz.func27, Tryz.ntmps27
    go_upto_region 2 with fail
    rw [← hwb]
    clear hwb
    go_wp2_with fail
    refine (h1 _).mono ?_
    rintro e w' ⟨rfl, rfl⟩
    rw [← hw1]
    clear hw1
    go_wp2_with fail
    refine h2.mono ?_
    rintro e w2 ⟨rfl, hb2⟩
    go_wp2_with fail
    go_ret
    exact ⟨rfl, (hb0.trans (hbw.mono (by omega))).trans hb2⟩
  · obtain ⟨c0, t0, r0⟩ := hE0.row0
    obtain ⟨c1, t1, r1⟩ := hE0.row1
    have h1 := is_other k nd t m a1 a0 c1 c0 t1 t0 wb (fun e => hE0.ne e.symm) r1 r0
    obtain ⟨w1, hw1⟩ : ∃ w1, w1 = wb.alloc (.cells #[.int .i64 k, .int .i64 nd, .int .i64 t, .int .i64 m, .iface 195 (.pointer (some a1))] 90) := ⟨_, rfl⟩
    have hbw : Below wb.heap.size wb w1 := by rw [hw1]; exact (Below.refl _ _).alloc (Nat.le_refl _) _
    have hk1 := hk0.below hbw hk0.lt
    have hE1 := hE0.below hbw (Nat.le_refl _)
    have hs1 := hbw.size
    have h2 := as_other w.heap.size w.heap.size _ _ k nd t m a1 w1 hE1.type hk1 (Nat.le_refl _)
    clear r0 r1
    go_enter Tryz.func27, Tryz.ntmps27
    go_upto_region 2 with fail
    rw [← hwb]
    clear hwb
    go_wp2_with fail
    refine h1.mono ?_
    rintro e w' ⟨rfl, rfl⟩
    rw [← hw1]
    clear hw1
    go_wp2_with fail
    refine h2.mono ?_
    rintro e w2 ⟨rfl, hb2⟩
    go_wp2_with fail
    go_ret
    exact ⟨rfl, (hb0.trans (hbw.mono (by omega))).trans hb2⟩
set_option maxHeartbeats 1000000 in
set_option maxRecDepth 100000 in
theorem cloneE_any (B : Nat) (ao : Option Addr) (n cap : Nat) (es : List Ent) (w : World) (hx : Ents B w ao n cap es) (hz : ao = none → cap = 0) (hB : B ≤ w.heap.size) (hn : n ≤ 1099511627776) :
    Calls Tryz.prog 28 #[.slice ao n cap] w (NewEs es w) := by
  rcases ao with _ | a
  · have hc := hz rfl
    have h1 := hx.hcap
    have h2 := hx.hlen
    subst hc
    have hn0 : n = 0 := by omega
    subst hn0
    have he : es = [] := List.eq_nil_of_length_eq_zero h2
    subst he
    have hN : ∀ w : World, (binOp .eql 24 (.slice none 0 0) (.slice none 0 0)).run Tryz.prog w = .ok (.bool true) w := fun _ => by kernel_rfl
    go_enter Tryz.func28, Tryz.ntmps28
    go_wp2_with fail
    go_ret
    exact ⟨_, rfl, ownE_nil _ _, Below.refl _ _⟩
  · have hN : ∀ w : World, (binOp .eql 24 (.slice (some a) n cap) (.slice none 0 0)).run Tryz.prog w = .ok (.bool false) w := fun _ => by kernel_rfl
    have hb0 : Below w.heap.size w (w.alloc (.cells #[] 47)) := (Below.refl _ _).alloc (Nat.le_refl _) _
    have hx1 := hx.below hb0 hB (Nat.le_refl B)
    have hs0 := hb0.size
    have ho0 := ownE_empty w
    go_enter Tryz.func28, Tryz.ntmps28
    go_wp2_with (at_builtin; refine appendE_all rfl _ _ rfl w.heap.size B _ [] es (some a) n cap rfl rfl hx1 hz ho0 hs0 (by simpa using hn) ?_; intro v1 w1 hown1 hb1)
    go_ret
    exact ⟨_, rfl, by simpa using hown1, hb0.trans hb1⟩
def doneF (es : List Ent) (k nd t m : Int) : List Ent × Int := if bookOk es = true ∧ deedOk k nd t m = true then doneR es k nd t m else ([], 3)
theorem doneF_bad {es : List Ent} {k nd t m : Int} (h : bookOk es = false ∨ deedOk k nd t m = false) : doneF es k nd t m = ([], 3) := by
  rw [doneF, if_neg]
  rintro ⟨h1, h2⟩
  rcases h with h | h
  · rw [h] at h1; cases h1
  · rw [h] at h2; cases h2
theorem doneF_good {es : List Ent} {k nd t m : Int} (h1 : bookOk es = true) (h2 : deedOk k nd t m = true) : doneF es k nd t m = doneR es k nd t m := by rw [doneF, if_pos ⟨h1, h2⟩]
theorem doneF_code {es : List Ent} {k nd t m : Int} :
    (doneCode es k nd t m = 0 → doneF es k nd t m = (putE es (deedEnt es k nd t m), 0)) ∧ (doneCode es k nd t m = 1 ∨ doneCode es k nd t m = 2 → doneF es k nd t m = (es, doneCode es k nd t m) ∧ bookOk es = true) ∧ (doneCode es k nd t m = 3 → doneF es k nd t m = ([], 3)) := by
  refine ⟨fun h => ?_, fun h => ?_, fun h => ?_⟩
  · obtain ⟨h1, -, h2, h3⟩ := code_zero h
    rw [doneF_good h1 h2, h3]
  · cases hb : bookOk es with
    | false => rw [code_bad (.inl hb)] at h; omega
    | true =>
      cases hd : deedOk k nd t m with
      | false => rw [code_bad (.inr hd)] at h; omega
      | true =>
        refine ⟨?_, rfl⟩
        rw [code_good hb hd] at h ⊢
        rw [doneF_good hb hd]
        unfold doneR at h ⊢
        split
        · rfl
        · rename_i h1
          rw [if_neg h1] at h
          split
          · rename_i h2
            rw [if_pos h2] at h
            simp at h
          · rfl
  · cases hb : bookOk es with
    | false => exact doneF_bad (.inl hb)
    | true =>
      cases hd : deedOk k nd t m with
      | false => exact doneF_bad (.inr hd)
      | true =>
        exfalso
        rw [code_good hb hd] at h
        unfold doneR at h
        split at h
        · simp at h
        · split at h <;> simp at h
set_option maxHeartbeats 2000000 in
set_option maxRecDepth 100000 in
theorem implDone_any (B : Nat) (ao : Option Addr) (n cap : Nat) (es : List Ent) (k nd t m : Int) (a0 a1 : Addr) (w : World) (hx : Ents B w ao n cap es) (hz : ao = none → cap = 0) (hB : B ≤ w.heap.size) (hE : Errs w a0 a1) :
    Calls Tryz.prog 7 #[.slice ao n cap, .agg #[.int .i64 k, .int .i64 nd, .int .i64 t, .int .i64 m]] w (NewEsN (doneF es k nd t m) w) := by
  obtain ⟨wb, hwb⟩ : ∃ wb, wb = w.alloc (.cells #[.int .i64 k, .int .i64 nd, .int .i64 t, .int .i64 m] 26) := ⟨_, rfl⟩
  have hb0 : Below w.heap.size w wb := by rw [hwb]; exact (Below.refl _ _).alloc (Nat.le_refl _) _
  have hs0 := hb0.size
  have hk0 : Blk wb w.heap.size 26 #[.int .i64 k, .int .i64 nd, .int .i64 t, .int .i64 m] := by rw [hwb]; exact Blk.new _ _ _
  have h1 := tried_any B ao n cap es k nd t m a0 a1 wb (hx.below hb0 hB (Nat.le_refl B)) hz (by omega) (hE.below hb0 (Nat.le_refl _))
  obtain ⟨hc0, hc12, hc3⟩ := doneF_code (es := es) (k := k) (nd := nd) (t := t) (m := m)
  obtain ⟨r, hr⟩ : ∃ r, doneF es k nd t m = r := ⟨_, rfl⟩
  rw [hr] at hc0 hc12 hc3
  obtain ⟨c, hc⟩ : ∃ c, doneCode es k nd t m = c := ⟨_, rfl⟩
  rw [hc] at hc0 hc12 hc3 h1
  rw [hr]
  clear hr hc
  have HC0 := Lib.hid hc0; have HC12 := Lib.hid hc12; have HC3 := Lib.hid hc3; clear hc0 hc12 hc3
  generalize putE es (deedEnt es k nd t m) = pe at h1 HC0
  have d0 := hk0.cell 0; have d1 := hk0.cell 1; have d2 := hk0.cell 2; have d3 := hk0.cell 3
  go_enter Tryz.func7, Tryz.ntmps7
  go_upto_region 1 with fail
  rw [← hwb]
  clear hwb hk0
  go_wp2_with fail
  refine h1.mono ?_
  rintro e w1 ⟨v, err, rfl, hb1, hcase⟩
  have hB1 := hb0.trans (hb1.mono hs0)
  have hs1 := hB1.size
  have hE1 := hE.below hB1 (Nat.le_refl _)
  clear d0 d1 d2 d3 h1
  rcases hcase with ⟨rfl, rfl, hown⟩ | ⟨rfl, why, hwhy, rfl⟩
  · have hr := Lib.hid (HC0.out rfl)
    have h2 := codeOf_nil w1
    go_wp2_with fail
    refine h2.mono ?_
    rintro e w2 ⟨rfl, hb2⟩
    go_wp2_with fail
    go_ret2
    rw [hr.out]
    exact ⟨_, rfl, (hown.below hb2 (Nat.le_refl _)).mono (by omega), hB1.trans (hb2.mono hs1)⟩
  · have h2 := codeOf_why a0 a1 k nd t m c why w1 hE1 hwhy
    have hcc : c = 1 ∨ c = 2 ∨ c = 3 := by
      rcases hwhy with ⟨h, -⟩ | ⟨h, -⟩ | ⟨h, -⟩ <;> omega
    clear hwhy hE1
    have hcl := fun w' (hb : Below w.heap.size w w') (hn : n ≤ 1099511627776) => cloneE_any B ao n cap es w' (hx.below hb hB (Nat.le_refl B)) hz (by have := hb.size; omega) hn
    have HCL := Lib.hid hcl; clear hcl
    have hlen := hx.hlen
    rcases hcc with rfl | rfl | rfl
    · obtain ⟨hr, hbk⟩ := HC12.out (.inl rfl)
      have hn20 : n ≤ 20 := by have := book_len hbk; omega
      have HR := Lib.hid hr; clear hr hbk hlen
      go_wp2_with fail
      refine h2.mono ?_
      rintro e w2 ⟨rfl, hb2⟩
      have hB2 := hB1.trans (hb2.mono hs1)
      go_wp2_with fail
      refine (HCL.out _ hB2 (by omega)).mono ?_
      rintro e w3 ⟨v3, rfl, hown, hb3⟩
      go_wp2_with fail
      go_ret2
      rw [HR.out]
      exact ⟨_, rfl, hown.mono hB2.size, hB2.trans (hb3.mono hB2.size)⟩
    · obtain ⟨hr, hbk⟩ := HC12.out (.inr rfl)
      have hn20 : n ≤ 20 := by have := book_len hbk; omega
      have HR := Lib.hid hr; clear hr hbk hlen
      go_wp2_with fail
      refine h2.mono ?_
      rintro e w2 ⟨rfl, hb2⟩
      have hB2 := hB1.trans (hb2.mono hs1)
      go_wp2_with fail
      refine (HCL.out _ hB2 (by omega)).mono ?_
      rintro e w3 ⟨v3, rfl, hown, hb3⟩
      go_wp2_with fail
      go_ret2
      rw [HR.out]
      exact ⟨_, rfl, hown.mono hB2.size, hB2.trans (hb3.mono hB2.size)⟩
    · have HR := Lib.hid (HC3.out rfl)
      go_wp2_with fail
      refine h2.mono ?_
      rintro e w2 ⟨rfl, hb2⟩
      have hB2 := hB1.trans (hb2.mono hs1)
      go_wp2_with fail
      go_ret2
      rw [HR.out]
      exact ⟨_, rfl, ownE_nil _ _, hB2⟩
set_option maxHeartbeats 2000000 in
set_option maxRecDepth 100000 in
theorem specDone_any (B : Nat) (ao : Option Addr) (n cap : Nat) (es : List Ent) (k nd t m : Int) (w : World) (hx : Ents B w ao n cap es) (hz : ao = none → cap = 0) (hB : B ≤ w.heap.size) :
    Calls Tryz.prog 8 #[.slice ao n cap, .agg #[.int .i64 k, .int .i64 nd, .int .i64 t, .int .i64 m]] w (NewEsN (doneF es k nd t m) w) := by
  obtain ⟨wb, hwb⟩ : ∃ wb, wb = w.alloc (.cells #[.int .i64 k, .int .i64 nd, .int .i64 t, .int .i64 m] 26) := ⟨_, rfl⟩
  have hb0 : Below w.heap.size w wb := by rw [hwb]; exact (Below.refl _ _).alloc (Nat.le_refl _) _
  have hs0 := hb0.size
  have hk0 : Blk wb w.heap.size 26 #[.int .i64 k, .int .i64 nd, .int .i64 t, .int .i64 m] := by rw [hwb]; exact Blk.new _ _ _
  have hlt0 := hk0.lt
  have h1 := specBookOk_any B ao n cap es wb (hx.below hb0 hB (Nat.le_refl B)) (by omega)
  have h2 := fun w => specDeedOk_any k nd t m w
  have h3 := fun w' (hb : Below w.heap.size w w') => l8Done_any B ao n cap es k nd t m w' (hx.below hb hB (Nat.le_refl B)) hz (by have := hb.size; omega)
  have hbad : bookOk es = false ∨ deedOk k nd t m = false → doneF es k nd t m = ([], 3) := doneF_bad
  have hgood : bookOk es = true → deedOk k nd t m = true → doneF es k nd t m = doneR es k nd t m := doneF_good
  generalize doneF es k nd t m = r at hbad hgood
  generalize doneR es k nd t m = rr at hgood h3
  generalize bookOk es = b1 at h1 h3 hbad hgood
  generalize deedOk k nd t m = b2 at h2 h3 hbad hgood
  have HBAD := Lib.hid hbad; have HGOOD := Lib.hid hgood; have H3 := Lib.hid h3; clear hbad hgood h3
  have d0 := hk0.cell 0; have d1 := hk0.cell 1; have d2 := hk0.cell 2; have d3 := hk0.cell 3
  go_enter Tryz.func8, Tryz.ntmps8
  go_upto_region 1 with fail
  rw [← hwb]
  clear hwb
  rcases b1 with _ | _
  · have hr := Lib.hid (HBAD.out (.inl rfl))
    go_wp2_with fail
    refine h1.mono ?_
    rintro e w1 ⟨rfl, hb1⟩
    go_wp2_with fail
    go_ret2
    rw [hr.out]
    exact ⟨_, rfl, (ownE_empty _).mono (hb0.trans (hb1.mono hs0)).size, (hb0.trans (hb1.mono hs0)).alloc (hb0.trans (hb1.mono hs0)).size _⟩
  · go_wp2_with fail
    refine h1.mono ?_
    rintro e w1 ⟨rfl, hb1⟩
    have hB1 := hb0.trans (hb1.mono hs0)
    have hs1 := hB1.size
    have hk1 := hk0.below hb1 hlt0
    clear d0 d1 d2 d3 h1
    have d0 := hk1.cell 0; have d1 := hk1.cell 1; have d2 := hk1.cell 2; have d3 := hk1.cell 3
    go_wp2_with fail
    refine (h2 _).mono ?_
    rintro e w2 ⟨rfl, hb2⟩
    have hB2 := hB1.trans (hb2.mono hs1)
    have hs2 := hB2.size
    rcases b2 with _ | _
    · have hr := Lib.hid (HBAD.out (.inr rfl))
      clear H3
      go_wp2_with fail
      go_ret2
      rw [hr.out]
      exact ⟨_, rfl, (ownE_empty _).mono hs2, hB2.alloc hs2 _⟩
    · have hr := Lib.hid (HGOOD.out (by first | rfl | trivial) (by first | rfl | trivial))
      have hk2 := hk1.below hb2 hk1.lt
      clear d0 d1 d2 d3 h2
      have d0 := hk2.cell 0; have d1 := hk2.cell 1; have d2 := hk2.cell 2; have d3 := hk2.cell 3
      go_wp2_with fail
      refine (H3.out _ hB2 (by first | rfl | trivial) (by first | rfl | trivial)).mono ?_
      rintro e w3 ⟨v, rfl, hown, hb3⟩
      go_wp2_with fail
      go_ret2
      rw [hr.out]
      exact ⟨_, rfl, hown.mono hs2, hB2.trans (hb3.mono hs2)⟩
end Go.Proofs.YtccoljbnddfmpaaGreatDoor
