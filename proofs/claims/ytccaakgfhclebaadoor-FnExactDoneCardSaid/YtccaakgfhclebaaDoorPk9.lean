/- Texts of this claim, put together: ChangedBy, ConcatE. -/
import Derived.Test.YtccaakgfhclebaaDoorPk2
import Derived.Test.YtccaakgfhclebaaDoorPk4
import Derived.Test.YtccaakgfhclebaaDoorPk6
import Derived.Test.YtccaakgfhclebaaDoorPk7
import Derived.Test.YtccaakgfhclebaaDoorPk8
import Derived.BigRegion

/-
  impl.changedBy.
-/
namespace Go.Proofs.YtccaakgfhclebaaDoor
open Go.RowKit

/-- What the code of a deed is, of any book and any deed. -/
def doneCode (es : List Ent) (k nd t m : Int) : Int := if bookOk es = true ∧ deedOk k nd t m = true then (doneR es k nd t m).2 else 3
theorem code_bad {es : List Ent} {k nd t m : Int} (h : bookOk es = false ∨ deedOk k nd t m = false) : doneCode es k nd t m = 3 := by
  rw [doneCode, if_neg]
  rintro ⟨h1, h2⟩
  rcases h with h | h
  · rw [h] at h1; cases h1
  · rw [h] at h2; cases h2
theorem code_good {es : List Ent} {k nd t m : Int} (h1 : bookOk es = true) (h2 : deedOk k nd t m = true) : doneCode es k nd t m = (doneR es k nd t m).2 := by rw [doneCode, if_pos ⟨h1, h2⟩]

/-- Why a deed with code c can't be done. -/
def Why (a0 a1 : Addr) (c : Int) (why : Value) : Prop :=
  (c = 1 ∧ why = .iface 124 (.pointer (some a0))) ∨ (c = 2 ∧ ∃ p q : Int, why = .iface 67 (.agg #[.int .i64 p, .int .i64 q])) ∨ (c = 3 ∧ why = .iface 124 (.pointer (some a1)))

/-- An entry and no error, or the zero entry and why. -/
def ChangedR (a0 a1 : Addr) (c : Int) (x : Ent) (w : World) (e : Ending) (w' : World) : Prop :=
  ∃ (y : Ent) (why : Value), e = .returned (.tuple #[.agg #[.int .i64 y.o, .int .i64 y.s, .int .i64 y.a, .int .i64 y.d], why]) ∧ Below w.heap.size w w' ∧ ((c = 0 ∧ why = .nilIface ∧ y = x) ∨ Why a0 a1 c why)

theorem amountAt_good {es : List Ent} {o s : Int} (hb : bookOk es = true) (ho : 0 ≤ o ∧ o ≤ 3) (hs : 0 ≤ s ∧ s ≤ 4) : amountAt es o s = amount es o s := by
  simp [amountAt, hb, ho, hs]
theorem slot_range {k n t m : Int} (h : deedOk k n t m = true) : 0 ≤ slotOf k n t ∧ slotOf k n t ≤ 4 := by
  simp only [deedOk, inB, Bool.and_eq_true, decide_eq_true_eq] at h
  unfold slotOf
  split
  · omega
  · split
    · rename_i h1 h2
      subst h2
      simp at h
      omega
    · omega

set_option maxHeartbeats 4000000 in
set_option maxRecDepth 100000 in
theorem changedBy_any (B : Nat) (ao : Option Addr) (n cap : Nat) (es : List Ent) (k nd t m : Int) (a0 a1 : Addr) (w : World) (hx : Ents B w ao n cap es) (hB : B ≤ w.heap.size) (hE : Errs w a0 a1) :
    Calls Tryd.prog 30 #[.slice ao n cap, .agg #[.int .i64 k, .int .i64 nd, .int .i64 t, .int .i64 m]] w (ChangedR a0 a1 (doneCode es k nd t m) (deedEnt es k nd t m) w) := by
  have hcb : bookOk es = false ∨ deedOk k nd t m = false → doneCode es k nd t m = 3 := code_bad
  have hcg : bookOk es = true → deedOk k nd t m = true → doneCode es k nd t m = (doneR es k nd t m).2 := code_good
  obtain ⟨wb, hwb⟩ : ∃ wb, wb = (w.alloc (.cells #[.int .i64 k, .int .i64 nd, .int .i64 t, .int .i64 m] 30)).alloc (.cells #[.int .i64 0, .int .i64 0, .int .i64 0, .int .i64 0] 38) := ⟨_, rfl⟩
  have hb0 : Below w.heap.size w wb := by rw [hwb]; exact ((Below.refl _ _).alloc (Nat.le_refl _) _).alloc (by simp) _
  have hDD : ∀ w', Below wb.heap.size wb w' → Blk w' w.heap.size 30 #[.int .i64 k, .int .i64 nd, .int .i64 t, .int .i64 m] ∧ Blk w' (w.heap.size + 1) 38 #[.int .i64 0, .int .i64 0, .int .i64 0, .int .i64 0] ∧ Errs w' a0 a1 := fun w' h => by
    have e1 : Blk wb w.heap.size 30 #[.int .i64 k, .int .i64 nd, .int .i64 t, .int .i64 m] := by rw [hwb]; exact (Blk.new _ _ _).alloc _
    have e2 : Blk wb (w.heap.size + 1) 38 #[.int .i64 0, .int .i64 0, .int .i64 0, .int .i64 0] := by
      rw [hwb]
      have := Blk.new (w.alloc (.cells #[.int .i64 k, .int .i64 nd, .int .i64 t, .int .i64 m] 30)) 38 #[.int .i64 0, .int .i64 0, .int .i64 0, .int .i64 0]
      simpa using this
    exact ⟨e1.below h e1.lt, e2.below h e2.lt, (hE.below hb0 (Nat.le_refl _)).below h (Nat.le_refl _)⟩
  have hsz : wb.heap.size = w.heap.size + 2 := by rw [hwb]; simp
  have HD := Lib.hid hDD; clear hDD
  have hs0 := hb0.size
  have hdt := fun w => implDeedOk_any k nd t m w
  have hbt := fun w' (hb : Below w.heap.size w w') => implBookOk_any B ao n cap es w' (hx.below hb hB (Nat.le_refl B)) (by have := hb.size; omega)
  have hp0 : ¬ w.heap.size = 0 := by have := cell_lt hE.short; omega
  have hxm : ∀ w', Below w.heap.size w w' → Ents B w' ao n cap es ∧ B ≤ w'.heap.size := fun w' hb => ⟨hx.below hb hB (Nat.le_refl B), by have := hb.size; omega⟩
  have HX := Lib.hid hxm; clear hxm hx hE
  have hk0 := HD.out wb (Below.refl _ _)
  obtain ⟨hkd, hkz, hke⟩ := hk0
  have d0 := hkd.cell 0; have d1 := hkd.cell 1; have d2 := hkd.cell 2; have d3 := hkd.cell 3
  obtain ⟨bd, hbd⟩ : ∃ b, deedOk k nd t m = b := ⟨_, rfl⟩
  obtain ⟨bb, hbb⟩ : ∃ b, bookOk es = b := ⟨_, rfl⟩
  have hcb' : bb = false ∨ bd = false → doneCode es k nd t m = 3 := fun h => hcb (by rw [hbb, hbd]; exact h)
  rw [hbd] at hdt
  rw [hbb] at hbt
  have HBT := Lib.hid hbt; have HCB := Lib.hid hcb'; clear hbt hcb' hcb
  rcases bd with _ | _
  · have hc := HCB.out (.inr rfl)
    rw [hc]
    clear hcg hbb hbd HCB HBT hkd hkz hke hc HX
    generalize deedEnt es k nd t m = xx
    go_enter Tryd.func30, Tryd.ntmps30
    go_upto_region 1 with fail
    rw [← hwb]
    clear hwb
    go_wp2_with fail
    refine (hdt _).mono ?_
    rintro e w1 ⟨rfl, hb1⟩
    have hB1 := hb0.trans (hb1.mono hs0)
    obtain ⟨hkd, hkz, hke⟩ := HD.out _ hb1
    have z0 := hkz.cell 0; have z1 := hkz.cell 1; have z2 := hkz.cell 2; have z3 := hkz.cell 3
    have f0 := hkz.frozen 0; have f1 := hkz.frozen 1; have f2 := hkz.frozen 2; have f3 := hkz.frozen 3
    have g0 := hke.bad
    have hset := hkz.set4 (.int .i64 0) (.int .i64 0) (.int .i64 0) (.int .i64 0)
    have y0 := hset.cell 0; have y1 := hset.cell 1; have y2 := hset.cell 2; have y3 := hset.cell 3
    clear d0 d1 d2 d3
    go_wp2_with fail
    go_region
    repeat (first | go_values | go_skip | go_guarded | go_step | go_upon)
    refine bodyPost_ret (v := .tuple #[.agg #[.int .i64 0, .int .i64 0, .int .i64 0, .int .i64 0], .iface 124 (.pointer (some a1))]) (by simp [results, Tryd.results30, go_sem, y0, y1, y2, y3]) rfl ?_
    exact ⟨⟨0, 0, 0, 0⟩, _, rfl, hB1.trans ((((((Below.refl _ _).setCell (p := ⟨w.heap.size + 1, 0, none⟩) (by simp) _).setCell (p := ⟨w.heap.size + 1, 1, none⟩) (by simp) _).setCell (p := ⟨w.heap.size + 1, 2, none⟩) (by simp) _).setCell (p := ⟨w.heap.size + 1, 3, none⟩) (by simp) _).drew), .inr (.inr (.inr ⟨rfl, rfl⟩))⟩
  rcases bb with _ | _
  · have hc := HCB.out (.inl rfl)
    rw [hc]
    clear hcg hbb hbd HCB hkd hkz hke hc HX
    generalize deedEnt es k nd t m = xx
    go_enter Tryd.func30, Tryd.ntmps30
    go_upto_region 1 with fail
    rw [← hwb]
    clear hwb
    go_wp2_with fail
    refine (hdt _).mono ?_
    rintro e w1 ⟨rfl, hb1⟩
    have hB1 := hb0.trans (hb1.mono hs0)
    clear d0 d1 d2 d3
    go_wp2_with fail
    refine (HBT.out _ hB1).mono ?_
    rintro e w2 ⟨rfl, hb2⟩
    have hB2 := hB1.trans (hb2.mono hB1.size)
    have hbw2 := hb1.trans (hb2.mono hb1.size)
    obtain ⟨hkd, hkz, hke⟩ := HD.out _ hbw2
    have z0 := hkz.cell 0; have z1 := hkz.cell 1; have z2 := hkz.cell 2; have z3 := hkz.cell 3
    have f0 := hkz.frozen 0; have f1 := hkz.frozen 1; have f2 := hkz.frozen 2; have f3 := hkz.frozen 3
    have g0 := hke.bad
    have hset := hkz.set4 (.int .i64 0) (.int .i64 0) (.int .i64 0) (.int .i64 0)
    have y0 := hset.cell 0; have y1 := hset.cell 1; have y2 := hset.cell 2; have y3 := hset.cell 3
    go_wp2_with fail
    go_region
    repeat (first | go_values | go_skip | go_guarded | go_step | go_upon)
    refine bodyPost_ret (v := .tuple #[.agg #[.int .i64 0, .int .i64 0, .int .i64 0, .int .i64 0], .iface 124 (.pointer (some a1))]) (by simp [results, Tryd.results30, go_sem, y0, y1, y2, y3]) rfl ?_
    exact ⟨⟨0, 0, 0, 0⟩, _, rfl, hB2.trans ((((((Below.refl _ _).setCell (p := ⟨w.heap.size + 1, 0, none⟩) (by simp) _).setCell (p := ⟨w.heap.size + 1, 1, none⟩) (by simp) _).setCell (p := ⟨w.heap.size + 1, 2, none⟩) (by simp) _).setCell (p := ⟨w.heap.size + 1, 3, none⟩) (by simp) _).drew), .inr (.inr (.inr ⟨rfl, rfl⟩))⟩
  have hnm : (0 ≤ nd ∧ nd ≤ 3) ∧ 1 ≤ m ∧ m ≤ 1000000 := by
    have := hbd
    simp only [deedOk, inB, Bool.and_eq_true, decide_eq_true_eq] at this
    omega
  have hnd : inB nd 0 3 = true := by simp [inB, hnm.1]
  have hsr := slot_range hbd
  have hkind := deed_kind hbd
  have hall : ∀ e ∈ es, e.ok = true := fun e he => by
    obtain ⟨i, hi, rfl⟩ := List.mem_iff_getElem.1 he
    have := (book_right hbb i hi).1
    rwa [E_get hi] at this
  have hamt := amount_rangeD hall nd (slotOf k nd t)
  have hmx := mx_range hall nd
  have hcg' : doneCode es k nd t m = (doneR es k nd t m).2 := hcg hbb hbd
  have hshort : ¬ k = 1 → held es nd < m → doneCode es k nd t m = 1 := fun h1 h2 => by rw [hcg', done_short h1 h2]
  have hok : (deedEnt es k nd t m).ok = true ↔ (amount es nd (slotOf k nd t) + m ≤ 1000000 ∧ mx es nd + 1 ≤ 100000) := by
    constructor
    · intro h
      have := Ent.ok_all h
      simp only [deedEnt] at this
      omega
    · intro h
      show decide _ = true
      refine decide_eq_true ?_
      simp only [deedEnt]
      omega
  have hgood : (k = 1 ∨ ¬ held es nd < m) → amount es nd (slotOf k nd t) + m ≤ 1000000 → mx es nd + 1 ≤ 100000 → doneCode es k nd t m = 0 := fun h1 h2 h3 => by
    rw [hcg', done_ok h1 (hok.2 ⟨h2, h3⟩)]
  have hlim : (k = 1 ∨ ¬ held es nd < m) → ¬ (amount es nd (slotOf k nd t) + m ≤ 1000000 ∧ mx es nd + 1 ≤ 100000) → doneCode es k nd t m = 2 := fun h1 h2 => by
    rw [hcg', done_limit h1 (Bool.eq_false_iff.2 fun h => h2 (hok.1 h))]
  have hht := fun w' (hb : Below w.heap.size w w') => implHeldBy_any B ao n cap es nd w' (HX.out _ hb).1 (HX.out _ hb).2
  rw [heldBy_yes hbb hnd] at hht
  have hat := fun w' (hb : Below w.heap.size w w') => implAmountAt_any B ao n cap es nd (slotOf k nd t) w' (HX.out _ hb).1 (HX.out _ hb).2
  rw [amountAt_good hbb hnm.1 hsr] at hat
  have hvt := fun w' (hb : Below w.heap.size w w') => implVecOf_any B ao n cap es w' (HX.out _ hb).1 (HX.out _ hb).2
  have hvo : vecOf es = vec es := by simp [vecOf, hbb]
  rw [hvo] at hvt
  have hst := fun w => implSlotOf_any k nd t m w hkind
  have hde : deedEnt es k nd t m = ⟨nd, slotOf k nd t, amount es nd (slotOf k nd t) + m, mx es nd + 1⟩ := rfl
  obtain ⟨j, hj⟩ : ∃ j : Nat, nd = j := ⟨nd.toNat, by omega⟩
  subst hj
  have hj4 : j < 4 := by omega
  have hvec0 := vec_get0 es j hj4
  have hvw : AllI64 (vec es) := vec_i64 hall
  have hvl : (vec es).length = 4 := rfl
  generalize doneCode es k j t m = c at hshort hgood hlim
  generalize deedEnt es k j t m = x at hde
  clear hcg hcg' hok hall hkind hsr hvo hbd hbb hkd hkz hke HCB
  generalize slotOf k j t = sl at hamt hgood hlim hde hat hst
  generalize amount es j sl = am at hamt hgood hlim hde hat
  rw [← hvec0] at hmx hgood hlim hde
  generalize held es j = hh at hshort hgood hlim hht
  generalize vec es = vs at hvt hmx hde hgood hlim hvl hvw hvec0
  obtain ⟨md, hmd⟩ : ∃ md, vs.getD j 0 = md := ⟨_, rfl⟩
  rw [hmd] at hmx hde hgood hlim
  clear hvec0
  have HSH := Lib.hid hshort; have HGO := Lib.hid hgood; have HLI := Lib.hid hlim; have HDE := Lib.hid hde
  have HHT := Lib.hid hht; have HAT := Lib.hid hat; have HVT := Lib.hid hvt; have HVW := Lib.hid hvw; have HMD := Lib.hid hmd
  clear hshort hgood hlim hde hht hat hvt hvw hmd
  go_enter Tryd.func30, Tryd.ntmps30
  go_upto_region 1 with fail
  rw [← hwb]
  clear hwb
  go_wp2_with fail
  refine (hdt _).mono ?_
  rintro e w1 ⟨rfl, hb1⟩
  have hB1 := hb0.trans (hb1.mono hs0)
  clear d0 d1 d2 d3
  go_wp2_with fail
  refine (HBT.out _ hB1).mono ?_
  rintro e w2 ⟨rfl, hb2⟩
  have hB2 := hB1.trans (hb2.mono hB1.size)
  have hbw2 := hb1.trans (hb2.mono hb1.size)
  have hs2 := hB2.size
  have HD2 : Hid (∀ w', Below w2.heap.size w2 w' → Blk w' w.heap.size 30 #[.int .i64 k, .int .i64 j, .int .i64 t, .int .i64 m] ∧ Blk w' (w.heap.size + 1) 38 #[.int .i64 0, .int .i64 0, .int .i64 0, .int .i64 0] ∧ Errs w' a0 a1) := Lib.hid (fun w' h => HD.out w' (hbw2.trans (h.mono hbw2.size)))
  have HA2 : Hid (∀ w', Below w2.heap.size w2 w' → Below w.heap.size w w') := Lib.hid (fun w' h => hB2.trans (h.mono hs2))
  clear HD HBT hdt
  obtain ⟨hkd, -, -⟩ := HD2.out _ (Below.refl _ _)
  have d0 := hkd.cell 0; have d1 := hkd.cell 1; have d2 := hkd.cell 2; have d3 := hkd.cell 3
  go_upto_region 3 with fail
  go_cut [30] (fun sq wx => ∃ q : Bool, sq = .bool q ∧ Hid (q = true → c = 1) ∧ Hid (q = false → k = 1 ∨ ¬ hh < m) ∧ Below w2.heap.size w2 wx)
  case first =>
    by_cases k1 : k = 1
    · have k1' : (k != 1) = false := by simpa using k1
      have K1 := Lib.hid k1; clear k1
      go_wp2_with fail
      go_quiet (fail)
      go_wp2_with fail
      go_meet
      exact ⟨false, rfl, Lib.hid (fun h => by cases h), Lib.hid (fun _ => .inl K1.out), below_drewN (Below.refl _ _) _⟩
    · have k1' : (k != 1) = true := by simpa using k1
      go_wp2_with fail
      go_region_held3 (fun w' => w'.cell? ⟨w.heap.size, 0, none⟩ = some (.int .i64 k) ∧ w'.cell? ⟨w.heap.size, 1, none⟩ = some (.int .i64 j) ∧ w'.cell? ⟨w.heap.size, 2, none⟩ = some (.int .i64 t) ∧ w'.cell? ⟨w.heap.size, 3, none⟩ = some (.int .i64 m))
        (first | exact ⟨(HD2.out _ HBA).1.cell 0, (HD2.out _ HBA).1.cell 1, (HD2.out _ HBA).1.cell 2, (HD2.out _ HBA).1.cell 3⟩ | exact ⟨d0, d1, d2, d3⟩)
        (first
          | (go_at_call 40; refine (HHT.out _ (HA2.out _ (Below.refl w2.heap.size w2).drew)).mono ?_; rintro e wA ⟨rfl, hbA⟩; have HBA := (Below.refl w2.heap.size w2).drew.trans hbA))
      go_wp2_with fail
      go_meet
      refine ⟨_, rfl, ?_, ?_, HBA⟩
      · exact Lib.hid (fun h => HSH.out k1 (by simpa using h))
      · exact Lib.hid (fun h => .inr (by simpa using h))
  case rest =>
    obtain ⟨q, rfl, hq1, hq2, hbx⟩ := hcut
    rcases q with _ | _
    · have HQ := Lib.hid (hq2.out rfl); clear hq1 hq2
      obtain ⟨hkd3, -, -⟩ := HD2.out _ hbx
      clear d0 d1 d2 d3
      have d0 := hkd3.cell 0; have d1 := hkd3.cell 1; have d2 := hkd3.cell 2; have d3 := hkd3.cell 3
      go_wp2_with fail
      refine (hst _).mono ?_
      rintro e w4 ⟨rfl, hb4⟩
      have hbw4 := hbx.trans (hb4.mono hbx.size)
      obtain ⟨hkd4, -, -⟩ := HD2.out _ hbw4
      clear d0 d1 d2 d3 hkd hkd3
      have d0 := hkd4.cell 0; have d1 := hkd4.cell 1; have d2 := hkd4.cell 2; have d3 := hkd4.cell 3
      have hs4 := hbw4.size
      have w1' : IntKind.i64.wrap (am + m) = am + m := by rw [IntKind.wrap_i64]; omega
      have w2' : IntKind.i64.wrap (md + 1) = md + 1 := by rw [IntKind.wrap_i64]; omega
      go_upto_region 6 with fail
      go_cut [7] (fun sq wx => sq = .int .i64 (am + m) ∧ Below w4.heap.size w4 wx)
      case first =>
        go_region_held3 (fun w' => w'.cell? ⟨w.heap.size, 0, none⟩ = some (.int .i64 k) ∧ w'.cell? ⟨w.heap.size, 1, none⟩ = some (.int .i64 j) ∧ w'.cell? ⟨w.heap.size, 2, none⟩ = some (.int .i64 t) ∧ w'.cell? ⟨w.heap.size, 3, none⟩ = some (.int .i64 m))
          (first | exact ⟨(HD2.out _ (hbw4.trans (HBA.mono hs4))).1.cell 0, (HD2.out _ (hbw4.trans (HBA.mono hs4))).1.cell 1, (HD2.out _ (hbw4.trans (HBA.mono hs4))).1.cell 2, (HD2.out _ (hbw4.trans (HBA.mono hs4))).1.cell 3⟩ | exact ⟨d0, d1, d2, d3⟩)
          (first
            | (go_at_call 42; refine (HAT.out _ (HA2.out _ (hbw4.trans ((Below.refl w4.heap.size w4).drew.mono hs4)))).mono ?_; rintro e wA ⟨rfl, hbA⟩; have HBA := (Below.refl w4.heap.size w4).drew.trans hbA))
        go_wp2_with fail
        go_meet
        exact ⟨rfl, HBA⟩
      case rest =>
        obtain ⟨rfl, hbx5⟩ := hcut
        have hbw5 := hbw4.trans (hbx5.mono hs4)
        clear d0 d1 d2 d3 hkd4
        by_cases hA : 1000000 < am + m
        · have hc := HLI.out HQ.out (fun h => by omega)
          subst hc
          obtain ⟨hkd, hkz, hke⟩ := HD2.out _ hbw5
          have z0 := hkz.cell 0; have z1 := hkz.cell 1; have z2 := hkz.cell 2; have z3 := hkz.cell 3
          have f0 := hkz.frozen 0; have f1 := hkz.frozen 1; have f2 := hkz.frozen 2; have f3 := hkz.frozen 3
          have hset := hkz.set4 (.int .i64 0) (.int .i64 0) (.int .i64 0) (.int .i64 0)
          have y0 := hset.cell 0; have y1 := hset.cell 1; have y2 := hset.cell 2; have y3 := hset.cell 3
          repeat (first | go_values | go_skip | go_guarded | go_step | go_upon)
          refine bodyPost_ret (v := .tuple #[.agg #[.int .i64 0, .int .i64 0, .int .i64 0, .int .i64 0], .iface 67 (.agg #[.int .i64 (am + m), .int .i64 1000000])]) (by simp [results, Tryd.results30, go_sem, y0, y1, y2, y3]) rfl ?_
          exact ⟨⟨0, 0, 0, 0⟩, _, rfl, (HA2.out _ hbw5).trans (((((Below.refl _ _).setCell (p := ⟨w.heap.size + 1, 0, none⟩) (by simp) _).setCell (p := ⟨w.heap.size + 1, 1, none⟩) (by simp) _).setCell (p := ⟨w.heap.size + 1, 2, none⟩) (by simp) _).setCell (p := ⟨w.heap.size + 1, 3, none⟩) (by simp) _), .inr (.inr (.inl ⟨rfl, _, _, rfl⟩))⟩
        · obtain ⟨hkd5, -, -⟩ := HD2.out _ hbw5
          have d0 := hkd5.cell 0; have d1 := hkd5.cell 1; have d2 := hkd5.cell 2; have d3 := hkd5.cell 3
          have hs5 := hbw5.size
          have j0 : (0 : Int) ≤ j := by omega
          have j1 : (j : Int) < 4 := by omega
          have jn : ((j : Int)).toNat = j := by omega
          go_upto_region 9 with fail
          go_cut [8] (fun sq wx => sq = .int .i64 (md + 1) ∧ Below wc.heap.size wc wx)
          case first =>
            go_region_with (first
              | (go_at_call 43; refine (HVT.out _ (HA2.out _ (hbw5.trans ((Below.refl wc.heap.size wc).drew.mono hs5)))).mono ?_; rintro e wA ⟨v, rfl, hownA, hbA⟩; have HBA := (Below.refl wc.heap.size wc).drew.trans hbA; obtain ⟨va, vc, rfl, hvi⟩ := hownA.ints HVW.out; obtain ⟨vb, vo, rfl, -, hcv⟩ := hvi.at j (by omega); have q1 := hcv j (by omega); rw [HMD.out] at q1; clear hcv hownA hvi; obtain ⟨hkdA, -, -⟩ := HD2.out _ (hbw5.trans (HBA.mono hs5)); have q0 := hkdA.cell 1))
            all_goals go_wp2_with fail
            all_goals go_meet
            all_goals exact ⟨rfl, HBA⟩
          case rest =>
            obtain ⟨rfl, hbx6⟩ := hcut
            have hbw6 := hbw5.trans (hbx6.mono hs5)
            clear d0 d1 d2 d3 hkd5
            by_cases hD : 100000 < md + 1
            · have hc := HLI.out HQ.out (fun h => by omega)
              subst hc
              obtain ⟨hkd, hkz, hke⟩ := HD2.out _ hbw6
              have z0 := hkz.cell 0; have z1 := hkz.cell 1; have z2 := hkz.cell 2; have z3 := hkz.cell 3
              have f0 := hkz.frozen 0; have f1 := hkz.frozen 1; have f2 := hkz.frozen 2; have f3 := hkz.frozen 3
              have hset := hkz.set4 (.int .i64 0) (.int .i64 0) (.int .i64 0) (.int .i64 0)
              have y0 := hset.cell 0; have y1 := hset.cell 1; have y2 := hset.cell 2; have y3 := hset.cell 3
              repeat (first | go_values | go_skip | go_guarded | go_step | go_upon)
              refine bodyPost_ret (v := .tuple #[.agg #[.int .i64 0, .int .i64 0, .int .i64 0, .int .i64 0], .iface 67 (.agg #[.int .i64 (md + 1), .int .i64 100000])]) (by simp [results, Tryd.results30, go_sem, y0, y1, y2, y3]) rfl ?_
              exact ⟨⟨0, 0, 0, 0⟩, _, rfl, (HA2.out _ hbw6).trans (((((Below.refl _ _).setCell (p := ⟨w.heap.size + 1, 0, none⟩) (by simp) _).setCell (p := ⟨w.heap.size + 1, 1, none⟩) (by simp) _).setCell (p := ⟨w.heap.size + 1, 2, none⟩) (by simp) _).setCell (p := ⟨w.heap.size + 1, 3, none⟩) (by simp) _), .inr (.inr (.inl ⟨rfl, _, _, rfl⟩))⟩
            · have hc := HGO.out HQ.out (by omega) (by omega)
              subst hc
              have hxx := HDE.out
              subst hxx
              obtain ⟨hkd, hkz, hke⟩ := HD2.out _ hbw6
              have z0 := hkz.cell 0; have z1 := hkz.cell 1; have z2 := hkz.cell 2; have z3 := hkz.cell 3
              have f0 := hkz.frozen 0; have f1 := hkz.frozen 1; have f2 := hkz.frozen 2; have f3 := hkz.frozen 3
              have hset := hkz.set4 (.int .i64 j) (.int .i64 sl) (.int .i64 (am + m)) (.int .i64 (md + 1))
              have y0 := hset.cell 0; have y1 := hset.cell 1; have y2 := hset.cell 2; have y3 := hset.cell 3
              have d1 := hkd.cell 1
              repeat (first | go_values | go_skip | go_guarded | go_step | go_upon)
              refine bodyPost_ret (v := .tuple #[.agg #[.int .i64 j, .int .i64 sl, .int .i64 (am + m), .int .i64 (md + 1)], .nilIface]) (by simp [results, Tryd.results30, go_sem, y0, y1, y2, y3]) rfl ?_
              exact ⟨⟨j, sl, am + m, md + 1⟩, _, rfl, (HA2.out _ hbw6).trans (((((Below.refl _ _).setCell (p := ⟨w.heap.size + 1, 0, none⟩) (by simp) _).setCell (p := ⟨w.heap.size + 1, 1, none⟩) (by simp) _).setCell (p := ⟨w.heap.size + 1, 2, none⟩) (by simp) _).setCell (p := ⟨w.heap.size + 1, 3, none⟩) (by simp) _), .inl ⟨rfl, rfl, rfl⟩⟩
    · have hc := hq1.out rfl
      subst hc
      clear hq1 hq2 d0 d1 d2 d3 hkd
      obtain ⟨hkd, hkz, hke⟩ := HD2.out _ hbx
      have z0 := hkz.cell 0; have z1 := hkz.cell 1; have z2 := hkz.cell 2; have z3 := hkz.cell 3
      have f0 := hkz.frozen 0; have f1 := hkz.frozen 1; have f2 := hkz.frozen 2; have f3 := hkz.frozen 3
      have g0 := hke.short
      have hset := hkz.set4 (.int .i64 0) (.int .i64 0) (.int .i64 0) (.int .i64 0)
      have y0 := hset.cell 0; have y1 := hset.cell 1; have y2 := hset.cell 2; have y3 := hset.cell 3
      go_wp2_with fail
      go_region
      repeat (first | go_values | go_skip | go_guarded | go_step | go_upon)
      refine bodyPost_ret (v := .tuple #[.agg #[.int .i64 0, .int .i64 0, .int .i64 0, .int .i64 0], .iface 124 (.pointer (some a0))]) (by simp [results, Tryd.results30, go_sem, y0, y1, y2, y3]) rfl ?_
      exact ⟨⟨0, 0, 0, 0⟩, _, rfl, (HA2.out _ hbx).trans ((((((Below.refl _ _).setCell (p := ⟨w.heap.size + 1, 0, none⟩) (by simp) _).setCell (p := ⟨w.heap.size + 1, 1, none⟩) (by simp) _).setCell (p := ⟨w.heap.size + 1, 2, none⟩) (by simp) _).setCell (p := ⟨w.heap.size + 1, 3, none⟩) (by simp) _).drew), .inr (.inl ⟨rfl, rfl⟩)⟩

end Go.Proofs.YtccaakgfhclebaaDoor

/-
  slices.Grow of nil and slices.Concat, at entries.
-/
namespace Go.Proofs.YtccaakgfhclebaaDoor
open Go.RowKit

theorem run_append_nil_makeE {P : Program} (w : World) (t u ty e : TypeId) (i : TypeInfo) (z : Value) (ht : P.underlying t = some (.slice e)) (hu : P.underlying u = some (.int .i64)) (hi : P.info? e = some i) (hz : i.zero = some z) (hs : i.size = 4)
    (n : Nat) (h0 : 0 < n) (h63 : n ≤ 1099511627776) (h48 : n * i.bytes ≤ 281474976710656) :
    (Builtin.append_ #[t, u] ty #[.slice none 0 0, .int .i64 n]).run P w =
      .ok (.slice (some ⟨w.heap.size, 0, none⟩) n (grownCap w n 0 e)) (w.drew.alloc (.cells (Builtin.zeroCells z.cells n ++ Builtin.zeroCells z.cells (grownCap w n 0 e - n)) e)) := by
  have hw : IntKind.i64.wrap (n : Int) = n := by rw [IntKind.wrap_i64]; omega
  have hn : n ≠ 0 := by omega
  have h1 : ¬ ((n : Int) < 0) := by omega
  have h2 : ¬ (281474976710656 < (n : Int) * (i.bytes : Int)) := by
    have : ((n * i.bytes : Nat) : Int) ≤ 281474976710656 := by omega
    rw [Int.natCast_mul] at this
    omega
  have h63' : ¬ (9223372036854775807 < (n : Int)) := by omega
  have h48' : ¬ (281474976710656 < Builtin.nextslicecap n 0 * i.bytes) := by rw [nextslicecap_zero h0]; omega
  have ha : ∀ w : World, (asInt (Value.int .i64 n)).run P w = .ok (n : Int) w := fun _ => rfl
  simp [Builtin.append_, ha, run_underlying ht, run_underlying hu, sizeOf, typeInfo, zeroValue, hi, hz, hs, hw, h1, h2, Builtin.lenOf, hn, h63', h48', Question.forced, run_firstCells_none, newRow, grownCap]
  intro h
  omega

theorem under_intE : Tryd.prog.underlying 3 = some (.int .i64) := by kernel_rfl

theorem wpList_append_nil_makeE {ops : Array Oper} {rest : List Oper} {o : Oper} {a : Act} {Q : Exit → Act → World → Prop} {w : World} (hgd : o.guard = none) (s x : Operand)
    (ho : o.op = .call { callee := .builtin .append, args := #[s, x], argTypes := #[26, 3] })
    (n : Nat) (hs : a.eval s = .slice none 0 0) (hx : a.eval x = .int .i64 n) (h0 : 0 < n) (hn : n ≤ 1099511627776)
    (hK : ∀ cap w', n ≤ cap → cap ≤ maxLen → OwnE w.heap.size w' (.slice (some ⟨w.heap.size, 0, none⟩) 0 cap) [] → Below w.heap.size w w' → wpList Tryd.prog ops Q rest (a.put o.dst (.slice (some ⟨w.heap.size, 0, none⟩) n cap)) w') :
    wpList Tryd.prog ops Q (o :: rest) a w := by
  obtain ⟨i0, hi, hz0, hz1, hz2⟩ := info_parts infoE
  have hr := run_append_nil_makeE (P := Tryd.prog) w 26 3 o.type 38 i0 (.agg #[.int .i64 0, .int .i64 0, .int .i64 0, .int .i64 0]) Tryd.underlying26 under_intE hi hz0 hz1 n h0 hn (by rw [hz2]; omega)
  refine wpList_plain hgd fun K hKK => ?_
  unfold Oper.wp
  simp [execOp, ho, resolve, invoke, builtin, hs, hx, hr, Result.andThen]
  refine hKK _ _ (hK _ _ (grownCap_ge _ _ _ _) (grownCap_le_maxLen _ _ _ _ (by unfold maxLen; omega)) ?_ ?_)
  · unfold OwnE
    refine ⟨rfl, .inr ⟨w.heap.size, _, _, rfl, Nat.le_refl _, heap_alloc_new _ _, Nat.zero_le _, grownCap_le_maxLen _ _ _ _ (by unfold maxLen; omega), ?_, by simp [flatE]⟩⟩
    have := grownCap_ge w n 0 38
    have hz : (Value.agg #[.int .i64 0, .int .i64 0, .int .i64 0, .int .i64 0]).cells.size = 4 := rfl
    rw [Array.size_append, size_zeroCells, size_zeroCells, hz]
    omega
  · exact ((Below.refl _ _).drew).alloc (Nat.le_refl _) _

set_option maxHeartbeats 400000 in
theorem growE_any (n : Nat) (hn : n ≤ 1099511627776) (w : World) :
    Calls Tryd.prog 63 #[.slice none 0 0, .int .i64 n] w (NewEs [] w) := by
  by_cases h0 : n = 0
  · subst h0
    go_enter Tryd.func63, Tryd.ntmps63
    go_wp2
    go_ret
    exact ⟨_, rfl, ownE_nil _ _, Below.refl _ _⟩
  · have h1 : 0 < n := by omega
    have h2 : decide ((n : Int) < 0) = false := decide_eq_false (by omega)
    clear h0
    go_enter Tryd.func63, Tryd.ntmps63
    go_wp2_with (at_builtin; refine wpList_append_nil_makeE rfl _ _ rfl n rfl rfl h1 hn ?_; intro cap w' hc1 hc2 hown hbel)
    go_ret
    exact ⟨_, rfl, hown, hbel⟩

/-- A slice of entries, as a part of a list of slices. -/
structure SlE where
  ao : Option Addr
  n : Nat
  cap : Nat
  xs : List Ent
def SlE.val (p : SlE) : Value := .slice p.ao p.n p.cap
def SlE.ok (B : Nat) (w : World) (p : SlE) : Prop := Ents B w p.ao p.n p.cap p.xs ∧ (p.ao = none → p.cap = 0)
def flatS (ps : List SlE) : List Ent := ps.flatMap SlE.xs
theorem flatS_snoc (ps : List SlE) (k : Nat) (h : k < ps.length) : flatS (ps.take (k + 1)) = flatS (ps.take k) ++ (ps[k]).xs := by
  unfold flatS
  rw [List.take_succ_eq_append_getElem h, List.flatMap_append]
  simp
theorem flatS_take_len (ps : List SlE) (k : Nat) : (flatS (ps.take k)).length ≤ (flatS ps).length := by
  have : flatS ps = flatS (ps.take k) ++ flatS (ps.drop k) := by
    unfold flatS; rw [← List.flatMap_append, List.take_append_drop]
  rw [this, List.length_append]
  omega

set_option maxHeartbeats 400000 in
set_option maxRecDepth 100000 in
theorem concatE_any (B g : Nat) (ps : List SlE) (w : World) (hg : g < w.heap.size) (hB : B ≤ w.heap.size) (hok : ∀ p ∈ ps, p.ok B w)
    (hcell : ∀ j (h : j < ps.length), w.cell? ⟨g, j, none⟩ = some (ps[j]).val) (htot : (flatS ps).length ≤ 1099511627776) (hps : ps.length ≤ 1099511627776) :
    Calls Tryd.prog 46 #[.slice (some ⟨g, 0, none⟩) ps.length ps.length] w (NewEs (flatS ps) w) := by
  have HTOT := Lib.hid htot; clear htot
  have HCELL := Lib.hid hcell; clear hcell
  have HOK := Lib.hid hok; clear hok
  obtain ⟨m, hm⟩ : ∃ m, m = ps.length := ⟨_, rfl⟩
  rw [← hm]
  rw [← hm] at hps
  have HM := Lib.hid hm; clear hm
  go_enter Tryd.func46, Tryd.ntmps46
  go_wp2
  go_loop [3, 11] (fun st si => ∃ (k t : Nat), k ≤ m ∧ si = .int .i64 k ∧ st = .int .i64 t ∧ Hid (t = (flatS (ps.take k)).length) ∧ t ≤ 1099511627776) (fun _ si => m - (intOf si).toNat)
  case atStart => exact ⟨0, 0, Nat.zero_le _, rfl, rfl, rfl, by omega⟩
  case round =>
    obtain ⟨k, t, hk, rfl, rfl, ht, ht1⟩ := hrel
    by_cases hlt : k < m
    · have hkl : k < ps.length := by have := HM.out; omega
      have g1 := HCELL.out k hkl
      have hp := HOK.out _ (List.getElem_mem hkl)
      have hf := flatS_snoc ps k hkl
      have hfl := flatS_take_len ps (k + 1)
      rw [hf, List.length_append] at hfl
      generalize ps[k] = p at g1 hp hf hfl
      obtain ⟨ao, n, cap, xs⟩ := p
      obtain ⟨hi, -⟩ := hp
      have hl : xs.length = n := hi.hlen
      have hn2 : n ≤ 1099511627776 := by have := HTOT.out; have : ({ao := ao, n := n, cap := cap, xs := xs} : SlE).xs.length = n := hl; omega
      have ht2 : t + n ≤ 1099511627776 := by have := HTOT.out; have h2 : ({ao := ao, n := n, cap := cap, xs := xs} : SlE).xs.length = n := hl; have := ht.out; omega
      have ht3 : Hid (t + n = (flatS (ps.take (k + 1))).length) := by
        refine Lib.hid ?_
        rw [hf, List.length_append, ← ht.out]
        have h2 : ({ao := ao, n := n, cap := cap, xs := xs} : SlE).xs.length = n := hl
        omega
      simp only [SlE.val] at g1
      clear hf hfl hl hi
      go_wp2
      go_round
      case rel => exact ⟨k + 1, t + n, by omega, by go_num, by go_num, ht3, ht2⟩
      case measure => simp [intOf]; omega
    · have ek : k = m := by omega
      subst ek
      have ht' : t = (flatS ps).length := by rw [ht.out, List.take_of_length_le (by have := HM.out; omega)]
      clear ht
      have HT := Lib.hid ht'; clear ht'
      go_wp2_with fail
      refine (growE_any t ht1 _).mono ?_
      rintro e w1 ⟨v, rfl, hown, hb1⟩
      have hs1 := hb1.size
      go_wp2_with fail
      go_loopw [6, 27] (fun sv si wr => ∃ (j : Nat), j ≤ k ∧ si = .int .i64 j ∧ OwnE w.heap.size wr sv (flatS (ps.take j)) ∧ Below w.heap.size w wr) (fun _ si _ => k - (intOf si).toNat)
      case atStart => exact ⟨0, Nat.zero_le _, rfl, hown, hb1⟩
      case round =>
        obtain ⟨j, hj, rfl, hown, hbel⟩ := hrel
        have hsz := hbel.size
        by_cases hlt : j < k
        · have hkl : j < ps.length := by have := HM.out; omega
          have g1 : wr.cell? ⟨g, j, none⟩ = some (ps[j]).val := (hbel.cell (p := ⟨g, j, none⟩) hg).trans (HCELL.out j hkl)
          have hp := HOK.out _ (List.getElem_mem hkl)
          have hf := flatS_snoc ps j hkl
          have hfl := flatS_take_len ps (j + 1)
          rw [hf, List.length_append] at hfl
          generalize ps[j] = p at g1 hp hf hfl
          obtain ⟨ao, n, cap, xs⟩ := p
          obtain ⟨hi, hz⟩ := hp
          have hi2 : Ents B wr ao n cap xs := hi.below hbel hB (Nat.le_refl _)
          have hz2 : ao = none → cap = 0 := hz
          have hl : xs.length = n := hi.hlen
          have hlen : (flatS (ps.take j)).length + n ≤ 1099511627776 := by
            have := HTOT.out; have h2 : ({ao := ao, n := n, cap := cap, xs := xs} : SlE).xs.length = n := hl; omega
          have hf2 : flatS (ps.take (j + 1)) = flatS (ps.take j) ++ xs := hf
          have HF := Lib.hid hf2
          have HZ := Lib.hid hz2
          have HL := Lib.hid hlen
          simp only [SlE.val] at g1
          clear hf hf2 hfl hl hi hz hz2 hlen
          go_wp2_with (at_builtin; refine appendE_all rfl _ _ rfl w.heap.size B _ (flatS (ps.take j)) xs ao n cap rfl rfl hi2 HZ.out hown hsz HL.out ?_; intro vA wA hownA hbA)
          go_roundw
          case rel => exact ⟨j + 1, by omega, by go_num, by rw [HF.out]; exact hownA, hbel.trans hbA⟩
          case measure => simp [intOf]; omega
        · go_wp2
          go_ret
          refine ⟨_, rfl, ?_, hbel⟩
          rw [List.take_of_length_le (by have := HM.out; omega)] at hown
          exact hown

theorem SlE.ok.alloc {B : Nat} {w : World} {p : SlE} (h : p.ok B w) (hB : B ≤ w.heap.size) (o : Obj) : p.ok B (w.alloc o) :=
  ⟨h.1.below ((Below.refl _ _).alloc hB o) (Nat.le_refl _) (Nat.le_refl _), h.2⟩

/-- slices.Concat of a slice, one entry written out, and a slice, as a walk meets it. -/
theorem concatX_any (B : Nat) (a1 a3 : Option Addr) (n1 c1 n3 c3 : Nat) (l1 l3 : List Ent) (x : Ent) (w : World) (hB : B ≤ w.heap.size) (h1 : Ents B w a1 n1 c1 l1) (z1 : a1 = none → c1 = 0) (h3 : Ents B w a3 n3 c3 l3) (z3 : a3 = none → c3 = 0)
    (hxw : x.wf) (hl : l1.length + 1 + l3.length ≤ 1099511627776) :
    Calls Tryd.prog 46 #[.slice (some ⟨w.heap.size + 1, 0, none⟩) 3 3]
      ((w.alloc (.cells #[.int .i64 x.o, .int .i64 x.s, .int .i64 x.a, .int .i64 x.d] 38)).alloc (.cells #[.slice a1 n1 c1, .slice (some ⟨w.heap.size, 0, none⟩) 1 1, .slice a3 n3 c3] 26)).drew (NewEs (l1 ++ [x] ++ l3) w) := by
  have hX : Blk (w.alloc (.cells #[.int .i64 x.o, .int .i64 x.s, .int .i64 x.a, .int .i64 x.d] 38)) w.heap.size 38 #[.int .i64 x.o, .int .i64 x.s, .int .i64 x.a, .int .i64 x.d] := Blk.new _ _ _
  have hb1 : Below w.heap.size w (w.alloc (.cells #[.int .i64 x.o, .int .i64 x.s, .int .i64 x.a, .int .i64 x.d] 38)) := (Below.refl _ _).alloc (Nat.le_refl _) _
  have hs1 : (w.alloc (.cells #[.int .i64 x.o, .int .i64 x.s, .int .i64 x.a, .int .i64 x.d] 38)).heap.size = w.heap.size + 1 := by simp
  generalize w.alloc (.cells #[.int .i64 x.o, .int .i64 x.s, .int .i64 x.a, .int .i64 x.d] 38) = w1 at hX hb1 hs1
  have hL : Blk (w1.alloc (.cells #[.slice a1 n1 c1, .slice (some ⟨w.heap.size, 0, none⟩) 1 1, .slice a3 n3 c3] 26)).drew (w.heap.size + 1) 26 #[.slice a1 n1 c1, .slice (some ⟨w.heap.size, 0, none⟩) 1 1, .slice a3 n3 c3] := by
    rw [← hs1]; exact Blk.new _ _ _
  have hb2 : Below w1.heap.size w1 (w1.alloc (.cells #[.slice a1 n1 c1, .slice (some ⟨w.heap.size, 0, none⟩) 1 1, .slice a3 n3 c3] 26)).drew := ((Below.refl _ _).alloc (Nat.le_refl _) _).drew
  generalize (w1.alloc (.cells #[.slice a1 n1 c1, .slice (some ⟨w.heap.size, 0, none⟩) 1 1, .slice a3 n3 c3] 26)).drew = w2 at hL hb2
  have hX2 := hX.below hb2 (by omega)
  have hb12 := hb1.trans (hb2.mono (by omega))
  have hlt := hL.lt
  have e1 : Ents w2.heap.size w2 a1 n1 c1 l1 := h1.below hb12 hB (by omega)
  have e3 : Ents w2.heap.size w2 a3 n3 c3 l3 := h3.below hb12 hB (by omega)
  have e2 : Ents w2.heap.size w2 (some ⟨w.heap.size, 0, none⟩) 1 1 [x] := by
    refine ⟨rfl, Nat.le_refl _, by unfold maxLen; omega, fun j hj => ?_, fun e he => by simp at he; subst he; exact hxw⟩
    have : j = 0 := by omega
    subst this
    exact ⟨w.heap.size, 0, rfl, by omega, hX2.cell 0, hX2.cell 1, hX2.cell 2, hX2.cell 3⟩
  refine (concatE_any w2.heap.size (w.heap.size + 1) [⟨a1, n1, c1, l1⟩, ⟨some ⟨w.heap.size, 0, none⟩, 1, 1, [x]⟩, ⟨a3, n3, c3, l3⟩] w2 hlt (Nat.le_refl _) ?_ ?_ (by simp [flatS]; omega) (by simp)).mono ?_
  · intro p hp
    simp only [List.mem_cons, List.not_mem_nil, or_false] at hp
    rcases hp with rfl | rfl | rfl
    · exact ⟨e1, z1⟩
    · exact ⟨e2, fun h => by cases h⟩
    · exact ⟨e3, z3⟩
  · intro j hj
    rw [hL.cell j]
    match j, hj with
    | 0, _ => rfl
    | 1, _ => rfl
    | 2, _ => rfl
  · rintro e w' ⟨v, he, hown, hb⟩
    refine ⟨v, he, ?_, hb12.trans (hb.mono (by omega))⟩
    have := hown.mono (base' := w.heap.size) (by omega)
    simpa [flatS, List.append_assoc] using this

end Go.Proofs.YtccaakgfhclebaaDoor
