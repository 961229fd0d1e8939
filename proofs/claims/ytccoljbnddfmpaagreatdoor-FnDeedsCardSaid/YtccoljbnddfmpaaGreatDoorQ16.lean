/- Texts of this claim, put together. -/
import Derived.Test.YtccoljbnddfmpaaGreatDoorQ1
import Derived.Test.YtccoljbnddfmpaaGreatDoorQ6
import Derived.Test.YtccoljbnddfmpaaGreatDoorQ12
import Derived.Test.YtccoljbnddfmpaaGreatDoorQ13
import Derived.Test.YtccoljbnddfmpaaGreatDoorQ14
import Derived.Test.YtccoljbnddfmpaaGreatDoorQ15

namespace Go.Proofs.YtccoljbnddfmpaaGreatDoor
open Go.RowKit
def doneCode (es : List Ent) (k nd t m : Int) : Int := if bookOk es = true ∧ deedOk k nd t m = true then (doneR es k nd t m).2 else 3
theorem code_bad {es : List Ent} {k nd t m : Int} (h : bookOk es = false ∨ deedOk k nd t m = false) : doneCode es k nd t m = 3 := by
  rw [doneCode, if_neg]
  rintro ⟨h1, h2⟩
  rcases h with h | h
  · rw [h] at h1; cases h1
  · rw [h] at h2; cases h2
theorem code_good {es : List Ent} {k nd t m : Int} (h1 : bookOk es = true) (h2 : deedOk k nd t m = true) : doneCode es k nd t m = (doneR es k nd t m).2 := by rw [doneCode, if_pos ⟨h1, h2⟩]
def Why (a0 a1 : Addr) (c : Int) (why : Value) : Prop :=
  (c = 1 ∧ why = .iface 195 (.pointer (some a0))) ∨ (c = 2 ∧ ∃ p q : Int, why = .iface 97 (.agg #[.int .i64 p, .int .i64 q])) ∨ (c = 3 ∧ why = .iface 195 (.pointer (some a1)))
def ChangedR (a0 a1 : Addr) (c : Int) (x : Ent) (w : World) (e : Ending) (w' : World) : Prop :=
  ∃ (y : Ent) (why : Value), e = .returned (.tuple #[.agg #[.int .i64 y.o, .int .i64 y.s, .int .i64 y.a, .int .i64 y.d], why]) ∧ Below w.heap.size w w' ∧ ((c = 0 ∧ why = .nilIface ∧ y = x) ∨ Why a0 a1 c why)
theorem amountAt_good {es : List Ent} {o s : Int} (hb : bookOk es = true) (ho : 0 ≤ o ∧ o ≤ 3) (hs : 0 ≤ s ∧ s ≤ 4) : amountAt es o s = amount es o s := by
  simp [amountAt, hb, ho, hs]
theorem slot_range {k n t m : Int} (h : deedOk k n t m = true) : 0 ≤ slotOf k n t ∧ slotOf k n t ≤ 4 := by
  simp only [deedOk, inB, Bool.and_eq_true, decide_eq_true_eq] at h
  unfold slotOf
  split
  · omega
  · split
    · rename_i h1 h2
      subst h2
      simp at h
      omega
    · omega
set_option maxHeartbeats 4000000 in
set_option maxRecDepth 100000 in
theorem changedBy_any (B : Nat) (ao : Option Addr) (n cap : Nat) (es : List Ent) (k nd t m : Int) (a0 a1 : Addr) (w : World) (hx : Ents B w ao n cap es) (hB : B ≤ w.heap.size) (hE : Errs w a0 a1) :
    Calls Tryz.prog 49 #[.slice ao n cap, .agg #[.int .i64 k, .int .i64 nd, .int .i64 t, .int .i64 m]] w (ChangedR a0 a1 (doneCode es k nd t m) (deedEnt es k nd t m) w) := by
  have hcb : bookOk es = false ∨ deedOk k nd t m = false → doneCode es k nd t m = 3 := code_bad
  have hcg : bookOk es = true → deedOk k nd t m = true → doneCode es k nd t m = (doneR es k nd t m).2 := code_good
  obtain ⟨wb, hwb⟩ : ∃ wb, wb = (w.alloc (.cells #[.int .i64 k, .int .i64 nd, .int .i64 t, .int .i64 m] 26)).alloc (.cells #[.int .i64 0, .int .i64 0, .int .i64 0, .int .i64 0] 47) := ⟨_, rfl⟩
  have hb0 : Below w.heap.size w wb := by rw [hwb]; exact ((Below.refl _ _).alloc (Nat.le_refl _) _).alloc (by simp) _
  have hDD : ∀ w', Below wb.heap.size wb w' → Blk w' w.heap.size 26 #[.int .i64 k, .int .i64 nd, .int .i64 t, .int .i64 m] ∧ Blk w' (w.heap.size + 1) 47 #[.int .i64 0, .int .i64 0, .int .i64 0, .int .i64 0] ∧ Errs w' a0 a1 := fun w' h => by
    have e1 : Blk wb w.heap.size 26 #[.int .i64 k, .int .i64 nd, .int .i64 t, .int .i64 m] := by rw [hwb]; exact (Blk.new _ _ _).alloc _
    have e2 : Blk wb (w.heap.size + 1) 47 #[.int .i64 0, .int .i64 0, .int .i64 0, .int .i64 0] := by
      rw [hwb]
      have := Blk.new (w.alloc (.cells #[.int .i64 k, .int .i64 nd, .int .i64 t, .int .i64 m] 26)) 47 #[.int .i64 0, .int .i64 0, .int .i64 0, .int .i64 0]
      simpa using this
    exact ⟨e1.below h e1.lt, e2.below h e2.lt, (hE.below hb0 (Nat.le_refl _)).below h (Nat.le_refl _)⟩
  have hsz : wb.heap.size = w.heap.size + 2 := by rw [hwb]; simp
  have HD := Lib.hid hDD; clear hDD
  have hs0 := hb0.size
  have hdt := fun w => implDeedOk_any k nd t m w
  have hbt := fun w' (hb : Below w.heap.size w w') => implBookOk_any B ao n cap es w' (hx.below hb hB (Nat.le_refl B)) (by have := hb.size; omega)
  have hp0 : ¬ w.heap.size = 0 := by have := cell_lt hE.short; omega
  have hxm : ∀ w', Below w.heap.size w w' → Ents B w' ao n cap es ∧ B ≤ w'.heap.size := fun w' hb => ⟨hx.below hb hB (Nat.le_refl B), by have := hb.size; omega⟩
  have HX := Lib.hid hxm; clear hxm hx hE
  have hk0 := HD.out wb (Below.refl _ _)
  obtain ⟨hkd, hkz, hke⟩ := hk0
  have d0 := hkd.cell 0; have d1 := hkd.cell 1; have d2 := hkd.cell 2; have d3 := hkd.cell 3
  obtain ⟨bd, hbd⟩ : ∃ b, deedOk k nd t m = b := ⟨_, rfl⟩
  obtain ⟨bb, hbb⟩ : ∃ b, bookOk es = b := ⟨_, rfl⟩
  have hcb' : bb = false ∨ bd = false → doneCode es k nd t m = 3 := fun h => hcb (by rw [hbb, hbd]; exact h)
  rw [hbd] at hdt
  rw [hbb] at hbt
  have HBT := Lib.hid hbt; have HCB := Lib.hid hcb'; clear hbt hcb' hcb
  rcases bd with _ | _
  · have hc := HCB.out (.inr rfl)
    rw [hc]
    clear hcg hbb hbd HCB HBT hkd hkz hke hc HX
    generalize deedEnt es k nd t m = xx
    go_enter Tryz.func49, Tryz.ntmps49
    go_upto_region 1 with fail
    rw [← hwb]
    clear hwb
    go_wp2_with fail
    refine (hdt _).mono ?_
    rintro e w1 ⟨rfl, hb1⟩
    have hB1 := hb0.trans (hb1.mono hs0)
    obtain ⟨hkd, hkz, hke⟩ := HD.out _ hb1
    have z0 := hkz.cell 0; have z1 := hkz.cell 1; have z2 := hkz.cell 2; have z3 := hkz.cell 3
    have f0 := hkz.frozen 0; have f1 := hkz.frozen 1; have f2 := hkz.frozen 2; have f3 := hkz.frozen 3
    have g0 := hke.bad
    have hset := hkz.set4 (.int .i64 0) (.int .i64 0) (.int .i64 0) (.int .i64 0)
    have y0 := hset.cell 0; have y1 := hset.cell 1; have y2 := hset.cell 2; have y3 := hset.cell 3
    clear d0 d1 d2 d3
    go_wp2_with fail
    go_region
    repeat (first | go_values | go_skip | go_guarded | go_step | go_upon)
    refine bodyPost_ret (v := .tuple #[.agg #[.int .i64 0, .int .i64 0, .int .i64 0, .int .i64 0], .iface 195 (.pointer (some a1))]) (by simp [results, Tryz.results49, go_sem, y0, y1, y2, y3]) rfl ?_
    exact ⟨⟨0, 0, 0, 0⟩, _, rfl, hB1.trans ((((((Below.refl _ _).setCell (p := ⟨w.heap.size + 1, 0, none⟩) (by simp) _).setCell (p := ⟨w.heap.size + 1, 1, none⟩) (by simp) _).setCell (p := ⟨w.heap.size + 1, 2, none⟩) (by simp) _).setCell (p := ⟨w.heap.size + 1, 3, none⟩) (by simp) _).drew), .inr (.inr (.inr ⟨rfl, rfl⟩))⟩
  rcases bb with _ | _
  · have hc := HCB.out (.inl rfl)
    rw [hc]
    clear hcg hbb hbd HCB hkd hkz hke hc HX
    generalize deedEnt es k nd t m = xx
    go_enter Tryz.func49, Tryz.ntmps49
    go_upto_region 1 with fail
    rw [← hwb]
    clear hwb
    go_wp2_with fail
    refine (hdt _).mono ?_
    rintro e w1 ⟨rfl, hb1⟩
    have hB1 := hb0.trans (hb1.mono hs0)
    clear d0 d1 d2 d3
    go_wp2_with fail
    refine (HBT.out _ hB1).mono ?_
    rintro e w2 ⟨rfl, hb2⟩
    have hB2 := hB1.trans (hb2.mono hB1.size)
    have hbw2 := hb1.trans (hb2.mono hb1.size)
    obtain ⟨hkd, hkz, hke⟩ := HD.out _ hbw2
    have z0 := hkz.cell 0; have z1 := hkz.cell 1; have z2 := hkz.cell 2; have z3 := hkz.cell 3
    have f0 := hkz.frozen 0; have f1 := hkz.frozen 1; have f2 := hkz.frozen 2; have f3 := hkz.frozen 3
    have g0 := hke.bad
    have hset := hkz.set4 (.int .i64 0) (.int .i64 0) (.int .i64 0) (.int .i64 0)
    have y0 := hset.cell 0; have y1 := hset.cell 1; have y2 := hset.cell 2; have y3 := hset.cell 3
    go_wp2_with fail
    go_region
    repeat (first | go_values | go_skip | go_guarded | go_step | go_upon)
    refine bodyPost_ret (v := .tuple #[.agg #[.int .i64 0, .int .i64 0, .int .i64 0, .int .i64 0], .iface 195 (.pointer (some a1))]) (by simp [results, Tryz.results49, go_sem, y0, y1, y2, y3]) rfl ?_
    exact ⟨⟨0, 0, 0, 0⟩, _, rfl, hB2.trans ((((((Below.refl _ _).setCell (p := ⟨w.heap.size + 1, 0, none⟩) (by simp) _).setCell (p := ⟨w.heap.size + 1, 1, none⟩) (by simp) _).setCell (p := ⟨w.heap.size + 1, 2, none⟩) (by simp) _).setCell (p := ⟨w.heap.size + 1, 3, none⟩) (by simp) _).drew), .inr (.inr (.inr ⟨rfl, rfl⟩))⟩
  have hnm : (0 ≤ nd ∧ nd ≤ 3) ∧ 1 ≤ m ∧ m ≤ 1000000 := by
    have := hbd
    simp only [deedOk, inB, Bool.and_eq_true, decide_eq_true_eq] at this
    omega
  have hnd : inB nd 0 3 = true := by simp [inB, hnm.1]
  have hsr := slot_range hbd
  have hkind := deed_kind hbd
  have hall : ∀ e ∈ es, e.ok = true := fun e he => by
    obtain ⟨i, hi, rfl⟩ := List.mem_iff_getElem.1 he
    have := (book_right hbb i hi).1
    rwa [E_get hi] at this
  have hamt := amount_rangeD hall nd (slotOf k nd t)
  have hmx := mx_range hall nd
  have hcg' : doneCode es k nd t m = (doneR es k nd t m).2 := hcg hbb hbd
  have hshort : ¬ k = 1 → held es nd < m → doneCode es k nd t m = 1 := fun h1 h2 => by rw [hcg', done_short h1 h2]
  have hok : (deedEnt es k nd t m).ok = true ↔ (amount es nd (slotOf k nd t) + m ≤ 1000000 ∧ mx es nd + 1 ≤ 100000) := by
    constructor
    · intro h
      have := Ent.ok_all h
      simp only [deedEnt] at this
      omega
    · intro h
      show decide _ = true
      refine decide_eq_true ?_
      simp only [deedEnt]
      omega
  have hgood : (k = 1 ∨ ¬ held es nd < m) → amount es nd (slotOf k nd t) + m ≤ 1000000 → mx es nd + 1 ≤ 100000 → doneCode es k nd t m = 0 := fun h1 h2 h3 => by
    rw [hcg', done_ok h1 (hok.2 ⟨h2, h3⟩)]
  have hlim : (k = 1 ∨ ¬ held es nd < m) → ¬ (amount es nd (slotOf k nd t) + m ≤ 1000000 ∧ mx es nd + 1 ≤ 100000) → doneCode es k nd t m = 2 := fun h1 h2 => by
    rw [hcg', done_limit h1 (Bool.eq_false_iff.2 fun h => h2 (hok.1 h))]
  have hht := fun w' (hb : Below w.heap.size w w') => implHeldBy_any B ao n cap es nd w' (HX.out _ hb).1 (HX.out _ hb).2
  rw [heldBy_yes hbb hnd] at hht
  have hat := fun w' (hb : Below w.heap.size w w') => implAmountAt_any B ao n cap es nd (slotOf k nd t) w' (HX.out _ hb).1 (HX.out _ hb).2
  rw [amountAt_good hbb hnm.1 hsr] at hat
  have hvt := fun w' (hb : Below w.heap.size w w') => implVecOf_any B ao n cap es w' (HX.out _ hb).1 (HX.out _ hb).2
  have hvo : vecOf es = vec es := by simp [vecOf, hbb]
  rw [hvo] at hvt
  have hst := fun w => implSlotOf_any k nd t m w hkind
  have hde : deedEnt es k nd t m = ⟨nd, slotOf k nd t, amount es nd (slotOf k nd t) + m, mx es nd + 1⟩ := rfl
  obtain ⟨j, hj⟩ : ∃ j : Nat, nd = j := ⟨nd.toNat, by omega⟩
  subst hj
  have hj4 : j < 4 := by omega
  have hvec0 := vec_get0 es j hj4
  have hvw : AllI64 (vec es) := vec_i64 hall
  have hvl : (vec es).length = 4 := rfl
  generalize doneCode es k j t m = c at hshort hgood hlim
  generalize deedEnt es k j t m = x at hde
  clear hcg hcg' hok hall hkind hsr hvo hbd hbb hkd hkz hke HCB
  generalize slotOf k j t = sl at hamt hgood hlim hde hat hst
  generalize amount es j sl = am at hamt hgood hlim hde hat
  rw [← hvec0] at hmx hgood hlim hde
  generalize held es j = hh at hshort hgood hlim hht
  generalize vec es = vs at hvt hmx hde hgood hlim hvl hvw hvec0
  obtain ⟨md, hmd⟩ : ∃ md, vs.getD j 0 = md := ⟨_, rfl⟩
  rw [hmd] at hmx hde hgood hlim
  clear hvec0
  have HSH := Lib.hid hshort; have HGO := Lib.hid hgood; have HLI := Lib.hid hlim; have HDE := Lib.hid hde
  have HHT := Lib.hid hht; have HAT := Lib.hid hat; have HVT := Lib.hid hvt; have HVW := Lib.hid hvw; have HMD := Lib.hid hmd
  clear hshort hgood hlim hde hht hat hvt hvw hmd
  go_enter Tryz.func49, Tryz.ntmps49
  go_upto_region 1 with fail
  rw [← hwb]
  clear hwb
  go_wp2_with fail
  refine (hdt _).mono ?_
  rintro e w1 ⟨rfl, hb1⟩
  have hB1 := hb0.trans (hb1.mono hs0)
  clear d0 d1 d2 d3
  go_wp2_with fail
  refine (HBT.out _ hB1).mono ?_
  rintro e w2 ⟨rfl, hb2⟩
  have hB2 := hB1.trans (hb2.mono hB1.size)
  have hbw2 := hb1.trans (hb2.mono hb1.size)
  have hs2 := hB2.size
  have HD2 : Hid (∀ w', Below w2.heap.size w2 w' → Blk w' w.heap.size 26 #[.int .i64 k, .int .i64 j, .int .i64 t, .int .i64 m] ∧ Blk w' (w.heap.size + 1) 47 #[.int .i64 0, .int .i64 0, .int .i64 0, .int .i64 0] ∧ Errs w' a0 a1) := Lib.hid (fun w' h => HD.out w' (hbw2.trans (h.mono hbw2.size)))
  have HA2 : Hid (∀ w', Below w2.heap.size w2 w' → Below w.heap.size w w') := Lib.hid (fun w' h => hB2.trans (h.mono hs2))
  clear HD HBT hdt
  obtain ⟨hkd, -, -⟩ := HD2.out _ (Below.refl _ _)
  have d0 := hkd.cell 0; have d1 := hkd.cell 1; have d2 := hkd.cell 2; have d3 := hkd.cell 3
  go_upto_region 3 with fail
  go_cut [30] (fun sq wx => ∃ q : Bool, sq = .bool q ∧ Hid (q = true → c = 1) ∧ Hid (q = false → k = 1 ∨ ¬ hh < m) ∧ Below w2.heap.size w2 wx)
  case first =>
    by_cases k1 : k = 1
    · have k1' : (k != 1) = false := by simpa using k1
      have K1 := Lib.hid k1; clear k1
      go_wp2_with fail
      go_quiet (fail)
      go_wp2_with fail
      go_meet
      exact ⟨false, rfl, Lib.hid (fun h => by cases h), Lib.hid (fun _ => .inl K1.out), below_drewN (Below.refl _ _) _⟩
    · have k1' : (k != 1) = true := by simpa using k1
      go_wp2_with fail
      go_region_held3 (fun w' => w'.cell? ⟨w.heap.size, 0, none⟩ = some (.int .i64 k) ∧ w'.cell? ⟨w.heap.size, 1, none⟩ = some (.int .i64 j) ∧ w'.cell? ⟨w.heap.size, 2, none⟩ = some (.int .i64 t) ∧ w'.cell? ⟨w.heap.size, 3, none⟩ = some (.int .i64 m))
        (first | exact ⟨(HD2.out _ HBA).1.cell 0, (HD2.out _ HBA).1.cell 1, (HD2.out _ HBA).1.cell 2, (HD2.out _ HBA).1.cell 3⟩ | exact ⟨d0, d1, d2, d3⟩)
        (first
          | (go_at_call 14; refine (HHT.out _ (HA2.out _ (Below.refl w2.heap.size w2).drew)).mono ?_; rintro e wA ⟨rfl, hbA⟩; have HBA := (Below.refl w2.heap.size w2).drew.trans hbA))
      go_wp2_with fail
      go_meet
      refine ⟨_, rfl, ?_, ?_, HBA⟩
      · exact Lib.hid (fun h => HSH.out k1 (by simpa using h))
      · exact Lib.hid (fun h => .inr (by simpa using h))
  case rest =>
    obtain ⟨q, rfl, hq1, hq2, hbx⟩ := hcut
    rcases q with _ | _
    · have HQ := Lib.hid (hq2.out rfl); clear hq1 hq2
      obtain ⟨hkd3, -, -⟩ := HD2.out _ hbx
      clear d0 d1 d2 d3
      have d0 := hkd3.cell 0; have d1 := hkd3.cell 1; have d2 := hkd3.cell 2; have d3 := hkd3.cell 3
      go_wp2_with fail
      refine (hst _).mono ?_
      rintro e w4 ⟨rfl, hb4⟩
      have hbw4 := hbx.trans (hb4.mono hbx.size)
      obtain ⟨hkd4, -, -⟩ := HD2.out _ hbw4
      clear d0 d1 d2 d3 hkd hkd3
      have d0 := hkd4.cell 0; have d1 := hkd4.cell 1; have d2 := hkd4.cell 2; have d3 := hkd4.cell 3
      have hs4 := hbw4.size
      have w1' : IntKind.i64.wrap (am + m) = am + m := by rw [IntKind.wrap_i64]; omega
      have w2' : IntKind.i64.wrap (md + 1) = md + 1 := by rw [IntKind.wrap_i64]; omega
      go_upto_region 6 with fail
      go_cut [7] (fun sq wx => sq = .int .i64 (am + m) ∧ Below w4.heap.size w4 wx)
      case first =>
        go_region_held3 (fun w' => w'.cell? ⟨w.heap.size, 0, none⟩ = some (.int .i64 k) ∧ w'.cell? ⟨w.heap.size, 1, none⟩ = some (.int .i64 j) ∧ w'.cell? ⟨w.heap.size, 2, none⟩ = some (.int .i64 t) ∧ w'.cell? ⟨w.heap.size, 3, none⟩ = some (.int .i64 m))
          (first | exact ⟨(HD2.out _ (hbw4.trans (HBA.mono hs4))).1.cell 0, (HD2.out _ (hbw4.trans (HBA.mono hs4))).1.cell 1, (HD2.out _ (hbw4.trans (HBA.mono hs4))).1.cell 2, (HD2.out _ (hbw4.trans (HBA.mono hs4))).1.cell 3⟩ | exact ⟨d0, d1, d2, d3⟩)
          (first
            | (go_at_call 83; refine (HAT.out _ (HA2.out _ (hbw4.trans ((Below.refl w4.heap.size w4).drew.mono hs4)))).mono ?_; rintro e wA ⟨rfl, hbA⟩; have HBA := (Below.refl w4.heap.size w4).drew.trans hbA))
        go_wp2_with fail
        go_meet
        exact ⟨rfl, HBA⟩
      case rest =>
        obtain ⟨rfl, hbx5⟩ := hcut
        have hbw5 := hbw4.trans (hbx5.mono hs4)
        clear d0 d1 d2 d3 hkd4
        by_cases hA : 1000000 < am + m
        · have hc := HLI.out HQ.out (fun h => by omega)
          subst hc
          obtain ⟨hkd, hkz, hke⟩ := HD2.out _ hbw5
          have z0 := hkz.cell 0; have z1 := hkz.cell 1; have z2 := hkz.cell 2; have z3 := hkz.cell 3
          have f0 := hkz.frozen 0; have f1 := hkz.frozen 1; have f2 := hkz.frozen 2; have f3 := hkz.frozen 3
          have hset := hkz.set4 (.int .i64 0) (.int .i64 0) (.int .i64 0) (.int .i64 0)
          have y0 := hset.cell 0; have y1 := hset.cell 1; have y2 := hset.cell 2; have y3 := hset.cell 3
          repeat (first | go_values | go_skip | go_guarded | go_step | go_upon)
          refine bodyPost_ret (v := .tuple #[.agg #[.int .i64 0, .int .i64 0, .int .i64 0, .int .i64 0], .iface 97 (.agg #[.int .i64 (am + m), .int .i64 1000000])]) (by simp [results, Tryz.results49, go_sem, y0, y1, y2, y3]) rfl ?_
          exact ⟨⟨0, 0, 0, 0⟩, _, rfl, (HA2.out _ hbw5).trans (((((Below.refl _ _).setCell (p := ⟨w.heap.size + 1, 0, none⟩) (by simp) _).setCell (p := ⟨w.heap.size + 1, 1, none⟩) (by simp) _).setCell (p := ⟨w.heap.size + 1, 2, none⟩) (by simp) _).setCell (p := ⟨w.heap.size + 1, 3, none⟩) (by simp) _), .inr (.inr (.inl ⟨rfl, _, _, rfl⟩))⟩
        · obtain ⟨hkd5, -, -⟩ := HD2.out _ hbw5
          have d0 := hkd5.cell 0; have d1 := hkd5.cell 1; have d2 := hkd5.cell 2; have d3 := hkd5.cell 3
          have hs5 := hbw5.size
          have j0 : (0 : Int) ≤ j := by omega
          have j1 : (j : Int) < 4 := by omega
          have jn : ((j : Int)).toNat = j := by omega
          go_upto_region 9 with fail
          go_cut [8] (fun sq wx => sq = .int .i64 (md + 1) ∧ Below wc.heap.size wc wx)
          case first =>
            go_region_with (first
              | (go_at_call 84; refine (HVT.out _ (HA2.out _ (hbw5.trans ((Below.refl wc.heap.size wc).drew.mono hs5)))).mono ?_; rintro e wA ⟨v, rfl, hownA, hbA⟩; have HBA := (Below.refl wc.heap.size wc).drew.trans hbA; obtain ⟨va, vc, rfl, hvi⟩ := hownA.ints HVW.out; obtain ⟨vb, vo, rfl, -, hcv⟩ := hvi.at j (by omega); have q1 := hcv j (by omega); rw [HMD.out] at q1; clear hcv hownA hvi; obtain ⟨hkdA, -, -⟩ := HD2.out _ (hbw5.trans (HBA.mono hs5)); have q0 := hkdA.cell 1))
            all_goals go_wp2_with fail
            all_goals go_meet
            all_goals exact ⟨rfl, HBA⟩
          case rest =>
            obtain ⟨rfl, hbx6⟩ := hcut
            have hbw6 := hbw5.trans (hbx6.mono hs5)
            clear d0 d1 d2 d3 hkd5
            by_cases hD : 100000 < md + 1
            · have hc := HLI.out HQ.out (fun h => by omega)
              subst hc
              obtain ⟨hkd, hkz, hke⟩ := HD2.out _ hbw6
              have z0 := hkz.cell 0; have z1 := hkz.cell 1; have z2 := hkz.cell 2; have z3 := hkz.cell 3
              have f0 := hkz.frozen 0; have f1 := hkz.frozen 1; have f2 := hkz.frozen 2; have f3 := hkz.frozen 3
              have hset := hkz.set4 (.int .i64 0) (.int .i64 0) (.int .i64 0) (.int .i64 0)
              have y0 := hset.cell 0; have y1 := hset.cell 1; have y2 := hset.cell 2; have y3 := hset.cell 3
              repeat (first | go_values | go_skip | go_guarded | go_step | go_upon)
              refine bodyPost_ret (v := .tuple #[.agg #[.int .i64 0, .int .i64 0, .int .i64 0, .int .i64 0], .iface 97 (.agg #[.int .i64 (md + 1), .int .i64 100000])]) (by simp [results, Tryz.results49, go_sem, y0, y1, y2, y3]) rfl ?_
              exact ⟨⟨0, 0, 0, 0⟩, _, rfl, (HA2.out _ hbw6).trans (((((Below.refl _ _).setCell (p := ⟨w.heap.size + 1, 0, none⟩) (by simp) _).setCell (p := ⟨w.heap.size + 1, 1, none⟩) (by simp) _).setCell (p := ⟨w.heap.size + 1, 2, none⟩) (by simp) _).setCell (p := ⟨w.heap.size + 1, 3, none⟩) (by simp) _), .inr (.inr (.inl ⟨rfl, _, _, rfl⟩))⟩
            · have hc := HGO.out HQ.out (by omega) (by omega)
              subst hc
              have hxx := HDE.out
              subst hxx
              obtain ⟨hkd, hkz, hke⟩ := HD2.out _ hbw6
              have z0 := hkz.cell 0; have z1 := hkz.cell 1; have z2 := hkz.cell 2; have z3 := hkz.cell 3
              have f0 := hkz.frozen 0; have f1 := hkz.frozen 1; have f2 := hkz.frozen 2; have f3 := hkz.frozen 3
              have hset := hkz.set4 (.int .i64 j) (.int .i64 sl) (.int .i64 (am + m)) (.int .i64 (md + 1))
              have y0 := hset.cell 0; have y1 := hset.cell 1; have y2 := hset.cell 2; have y3 := hset.cell 3
              have d1 := hkd.cell 1
              repeat (first | go_values | go_skip | go_guarded | go_step | go_upon)
              refine bodyPost_ret (v := .tuple #[.agg #[.int .i64 j, .int .i64 sl, .int .i64 (am + m), .int .i64 (md + 1)], .nilIface]) (by simp [results, Tryz.results49, go_sem, y0, y1, y2, y3]) rfl ?_
              exact ⟨⟨j, sl, am + m, md + 1⟩, _, rfl, (HA2.out _ hbw6).trans (((((Below.refl _ _).setCell (p := ⟨w.heap.size + 1, 0, none⟩) (by simp) _).setCell (p := ⟨w.heap.size + 1, 1, none⟩) (by simp) _).setCell (p := ⟨w.heap.size + 1, 2, none⟩) (by simp) _).setCell (p := ⟨w.heap.size + 1, 3, none⟩) (by simp) _), .inl ⟨rfl, rfl, rfl⟩⟩
    · have hc := hq1.out rfl
      subst hc
      clear hq1 hq2 d0 d1 d2 d3 hkd
      obtain ⟨hkd, hkz, hke⟩ := HD2.out _ hbx
      have z0 := hkz.cell 0; have z1 := hkz.cell 1; have z2 := hkz.cell 2; have z3 := hkz.cell 3
      have f0 := hkz.frozen 0; have f1 := hkz.frozen 1; have f2 := hkz.frozen 2; have f3 := hkz.frozen 3
      have g0 := hke.short
      have hset := hkz.set4 (.int .i64 0) (.int .i64 0) (.int .i64 0) (.int .i64 0)
      have y0 := hset.cell 0; have y1 := hset.cell 1; have y2 := hset.cell 2; have y3 := hset.cell 3
      go_wp2_with fail
      go_region
      repeat (first | go_values | go_skip | go_guarded | go_step | go_upon)
      refine bodyPost_ret (v := .tuple #[.agg #[.int .i64 0, .int .i64 0, .int .i64 0, .int .i64 0], .iface 195 (.pointer (some a0))]) (by simp [results, Tryz.results49, go_sem, y0, y1, y2, y3]) rfl ?_
      exact ⟨⟨0, 0, 0, 0⟩, _, rfl, (HA2.out _ hbx).trans ((((((Below.refl _ _).setCell (p := ⟨w.heap.size + 1, 0, none⟩) (by simp) _).setCell (p := ⟨w.heap.size + 1, 1, none⟩) (by simp) _).setCell (p := ⟨w.heap.size + 1, 2, none⟩) (by simp) _).setCell (p := ⟨w.heap.size + 1, 3, none⟩) (by simp) _).drew), .inr (.inl ⟨rfl, rfl⟩)⟩
end Go.Proofs.YtccoljbnddfmpaaGreatDoor
