/- Texts of this claim, put together. -/
import Derived.Test.YtccoljbnddfmpaaGreatDoorQ1
import Derived.Test.YtccoljbnddfmpaaGreatDoorQ2
import Derived.Test.YtccoljbnddfmpaaGreatDoorQ7
import Derived.Test.YtccoljbnddfmpaaGreatDoorQ8
import Derived.Test.YtccoljbnddfmpaaGreatDoorQ10
import Derived.Laws.EntriesVeiled

namespace Go.Proofs.YtccoljbnddfmpaaGreatDoor
open Go.RowKit
set_option maxHeartbeats 2000000 in
set_option maxRecDepth 100000 in
theorem implDeedOk_any (k n t m : Int) (w : World) :
    Calls Tryz.prog 11 #[.agg #[.int .i64 k, .int .i64 n, .int .i64 t, .int .i64 m]] w (Says (.bool (deedOk k n t m)) w) := by
  have h1 := fun w => isNode_any n w
  have h2 := fun w => isFromOne_any m 1000000 w
  have h3 := fun w => isNode_any t w
  have hb0 : Below w.heap.size w (w.alloc (.cells #[.int .i64 k, .int .i64 n, .int .i64 t, .int .i64 m] 26)) := (Below.refl _ _).alloc (Nat.le_refl _) _
  have e1 : inB n 0 3 = false → deedOk k n t m = false := deedOk_n
  have e2 : inB m 1 1000000 = false → deedOk k n t m = false := deedOk_m
  have e3 : inB n 0 3 = true → inB m 1 1000000 = true → deedOk k n t m = (if k = 1 ∨ k = 3 then t == 0 else if k = 2 then inB t 0 3 && !(t == n) else false) := deedOk_at
  generalize deedOk k n t m = r at e1 e2 e3
  generalize inB n 0 3 = b1 at h1 e1 e3
  generalize inB m 1 1000000 = b2 at h2 e2 e3
  generalize inB t 0 3 = b3 at h3 e3
  rcases b1 with _ | _
  · have hr := e1 rfl
    subst hr
    clear e1 e2 e3
    go_enter Tryz.func11, Tryz.ntmps11
    go_wp2_with fail
    refine (h1 _).mono ?_
    rintro e w' ⟨rfl, rfl⟩
    go_wp2_with fail
    go_ret
    exact ⟨rfl, hb0⟩
  rcases b2 with _ | _
  · have hr := e2 rfl
    subst hr
    clear e1 e2 e3
    go_enter Tryz.func11, Tryz.ntmps11
    go_wp2_with fail
    refine (h1 _).mono ?_
    rintro e w' ⟨rfl, rfl⟩
    go_wp2_with fail
    refine (h2 _).mono ?_
    rintro e w' ⟨rfl, rfl⟩
    go_wp2_with fail
    go_ret
    exact ⟨rfl, hb0⟩
  have hr := e3 rfl rfl
  clear e1 e2 e3
  by_cases k1 : k = 1
  · subst k1
    rw [if_pos (.inl rfl)] at hr
    have HR := Lib.hid hr; clear hr
    go_enter Tryz.func11, Tryz.ntmps11
    go_wp2_with fail
    refine (h1 _).mono ?_
    rintro e w' ⟨rfl, rfl⟩
    go_wp2_with fail
    refine (h2 _).mono ?_
    rintro e w' ⟨rfl, rfl⟩
    go_wp2_with fail
    go_ret
    exact ⟨ret_bool HR.out.symm, hb0⟩
  by_cases k3 : k = 3
  · subst k3
    rw [if_pos (.inr rfl)] at hr
    have HR := Lib.hid hr; clear hr k1
    go_enter Tryz.func11, Tryz.ntmps11
    go_wp2_with fail
    refine (h1 _).mono ?_
    rintro e w' ⟨rfl, rfl⟩
    go_wp2_with fail
    refine (h2 _).mono ?_
    rintro e w' ⟨rfl, rfl⟩
    go_wp2_with fail
    go_ret
    exact ⟨ret_bool HR.out.symm, hb0⟩
  rw [if_neg (fun h => h.elim k1 k3)] at hr
  have k1' : (k == 1) = false := by simpa using k1
  have k3' : (k == 3) = false := by simpa using k3
  by_cases k2 : k = 2
  · subst k2
    rw [if_pos rfl] at hr
    have HR := Lib.hid hr; clear hr k1 k3 k1' k3'
    go_enter Tryz.func11, Tryz.ntmps11
    go_wp2_with fail
    refine (h1 _).mono ?_
    rintro e w' ⟨rfl, rfl⟩
    go_wp2_with fail
    refine (h2 _).mono ?_
    rintro e w' ⟨rfl, rfl⟩
    go_wp2_with fail
    refine (h3 _).mono ?_
    rintro e w' ⟨rfl, rfl⟩
    rcases b3 with _ | _
    · go_wp2_with fail
      go_ret
      exact ⟨ret_bool HR.out.symm, hb0⟩
    · go_wp2_with fail
      go_ret
      exact ⟨ret_bool (by rw [HR.out]; simp [bne]), hb0⟩
  · rw [if_neg k2] at hr
    have k2' : (k == 2) = false := by simpa using k2
    subst hr
    clear k1 k2 k3
    go_enter Tryz.func11, Tryz.ntmps11
    go_wp2_with fail
    refine (h1 _).mono ?_
    rintro e w' ⟨rfl, rfl⟩
    go_wp2_with fail
    refine (h2 _).mono ?_
    rintro e w' ⟨rfl, rfl⟩
    go_wp2_with fail
    go_ret
    exact ⟨rfl, hb0⟩
theorem deed_kind {k n t m : Int} (h : deedOk k n t m = true) : k = 1 ∨ k = 2 ∨ k = 3 := by
  by_cases h1 : k = 1
  · exact .inl h1
  by_cases h2 : k = 2
  · exact .inr (.inl h2)
  by_cases h3 : k = 3
  · exact .inr (.inr h3)
  simp [deedOk, h1, h2, h3] at h
set_option maxHeartbeats 1000000 in
theorem implSlotOf_any (k n t m : Int) (w : World) (hk : k = 1 ∨ k = 2 ∨ k = 3) :
    Calls Tryz.prog 82 #[.agg #[.int .i64 k, .int .i64 n, .int .i64 t, .int .i64 m]] w (Says (.int .i64 (slotOf k n t)) w) := by
  have hb0 : Below w.heap.size w (w.alloc (.cells #[.int .i64 k, .int .i64 n, .int .i64 t, .int .i64 m] 26)) := (Below.refl _ _).alloc (Nat.le_refl _) _
  rcases hk with rfl | rfl | rfl
  · have hv : slotOf 1 n t = n := rfl
    rw [hv]
    go_enter Tryz.func82, Tryz.ntmps82
    go_wp2
    go_ret
    exact ⟨rfl, hb0⟩
  · have hv : slotOf 2 n t = t := rfl
    rw [hv]
    go_enter Tryz.func82, Tryz.ntmps82
    go_wp2
    go_ret
    exact ⟨rfl, hb0⟩
  · have hv : slotOf 3 n t = 4 := rfl
    rw [hv]
    go_enter Tryz.func82, Tryz.ntmps82
    go_wp2
    go_ret
    exact ⟨rfl, hb0⟩
theorem book_all6 {es : List Ent} (h : bookOk es = true) : ∀ x ∈ es, x.ok = true := by
  intro x hx
  obtain ⟨i, hi, rfl⟩ := List.mem_iff_getElem.1 hx
  have := (book_right h i hi).1
  rwa [E_get hi] at this
end Go.Proofs.YtccoljbnddfmpaaGreatDoor

namespace Go.Proofs.YtccoljbnddfmpaaGreatDoor
def contrib (e : Ent) (node : Int) : Int := if e.s = node then e.a else if e.o = node then -e.a else 0
def hsum : List Ent → Int → Int
  | [], _ => 0
  | e :: r, node => contrib e node + hsum r node
theorem held_hsum (es : List Ent) (node : Int) : held es node = hsum es node := by
  have : ∀ acc, es.foldl (heldStep node) acc = acc + hsum es node := by
    induction es with
    | nil => intro acc; simp [hsum]
    | cons e r ih =>
      intro acc
      rw [List.foldl_cons, ih, hsum]
      unfold heldStep contrib
      split
      · omega
      · split <;> omega
  unfold held
  rw [this]
  omega
theorem held_range {es : List Ent} (h : bookOk es = true) (node : Int) : -20000000 ≤ held es node ∧ held es node ≤ 20000000 := by
  have hl := book_len h
  have hall := book_all6 h
  have : ∀ (xs : List Ent), (∀ x ∈ xs, x.ok = true) → -(1000000 * (xs.length : Int)) ≤ hsum xs node ∧ hsum xs node ≤ 1000000 * (xs.length : Int) := by
    intro xs
    induction xs with
    | nil => intro _; simp [hsum]
    | cons x r ih =>
      intro hx
      have h1 := ih (fun y hy => hx y (List.mem_cons_of_mem _ hy))
      have h2 := Ent.ok_all (hx x (List.mem_cons_self ..))
      simp only [hsum, contrib, List.length_cons]
      push_cast
      split
      · omega
      · split <;> omega
  have h2 := this es hall
  rw [held_hsum]
  omega
end Go.Proofs.YtccoljbnddfmpaaGreatDoor

namespace Go.Proofs.YtccoljbnddfmpaaGreatDoor
open Go.RowKit
def lastKey (es : List Ent) (i : Nat) : Int := if i = 0 then -1 else (E es (i - 1)).key
def Rise (es : List Ent) (k : Nat) : Prop := ∀ i, i < k → lastKey es i < (E es i).key
instance (es : List Ent) (k : Nat) : Decidable (Rise es k) := by unfold Rise; infer_instance
def rises (es : List Ent) : Bool := decide (Rise es es.length)
theorem rise_zero (es : List Ent) : Rise es 0 := fun i hi => absurd hi (by omega)
theorem rise_succ {es : List Ent} {k : Nat} (h : Rise es k) (hg : lastKey es k < (E es k).key) : Rise es (k + 1) := fun i hi => by
  by_cases e : i = k
  · subst e; exact hg
  · exact h i (by omega)
theorem rise_bad {es : List Ent} {k : Nat} (hk : k < es.length) (h : ¬ lastKey es k < (E es k).key) : rises es = false := decide_eq_false (fun hr => h (hr k hk))
theorem lastKey_succ (es : List Ent) (k : Nat) : lastKey es (k + 1) = (E es k).key := by simp [lastKey]
set_option maxHeartbeats 1000000 in
set_option maxRecDepth 100000 in
theorem rises_any (B : Nat) (ao : Option Addr) (n cap : Nat) (es : List Ent) (w : World) (hx : Ents B w ao n cap es) (hB : B ≤ w.heap.size) :
    Calls Tryz.prog 61 #[.agg #[.slice ao n cap, .func (.func 85) #[] #[]]] w (Says (.bool (rises es)) w) := by
  have hx0 := hx.hlen; have hx1 := hx.hcap; have hx2 := hx.hmax
  unfold maxLen at hx2
  have HX := Lib.hid hx0; clear hx0
  generalize hb : rises es = bb
  have HB := Lib.hid hb; clear hb
  have hb0 : Below w.heap.size w (w.alloc (.cells #[.slice ao n cap, .func (.func 85) #[] #[]] 93)) := (Below.refl _ _).alloc (Nat.le_refl _) _
  have hk0 : Blk (w.alloc (.cells #[.slice ao n cap, .func (.func 85) #[] #[]] 93)) w.heap.size 93 #[.slice ao n cap, .func (.func 85) #[] #[]] := Blk.new _ _ _
  go_enter Tryz.func61, Tryz.ntmps61
  go_wp2
  go_loopw [3, 10] (fun sl si wr => ∃ i : Nat, i ≤ n ∧ si = .int .i64 i ∧ sl = .int .i64 (lastKey es i) ∧ Hid (Rise es i) ∧ Below w.heap.size w wr ∧ Blk wr w.heap.size 93 #[.slice ao n cap, .func (.func 85) #[] #[]]) (fun _ si _ => n - (intOf si).toNat)
  case atStart => exact ⟨0, Nat.zero_le _, rfl, rfl, Lib.hid (rise_zero es), hb0, hk0⟩
  case round =>
    obtain ⟨i, hi, rfl, rfl, hr, hbel, hblk⟩ := hrel
    by_cases hlt : i < n
    · have hxr := hx.below hbel hB hB
      obtain ⟨b, off, rfl, hbB, hc⟩ := hxr.at i hlt
      have g1 := hc i hlt
      clear hc
      have hK := fun w => implKeyOf_any (E es i).o (E es i).s (E es i).a (E es i).d w
      have hkE : keyOf (E es i).o (E es i).s (E es i).a (E es i).d = (E es i).key := rfl
      rw [hkE] at hK
      clear hkE
      have hbad : ¬ lastKey es i < (E es i).key → bb = false := fun h => by rw [← HB.out]; exact rise_bad (by have := HX.out; omega) h
      have hgood : lastKey es i < (E es i).key → Rise es (i + 1) := rise_succ hr.out
      have hlast := lastKey_succ es i
      generalize lastKey es i = lk at hbad hgood
      generalize (E es i).key = ky at hK hbad hgood hlast
      generalize E es i = x at g1 hK
      have HBAD := Lib.hid hbad; have HGOOD := Lib.hid hgood; have HLAST := Lib.hid hlast; clear hbad hgood hlast
      obtain ⟨c0, c1, c2, c3⟩ := g1
      have hsz := hbel.size
      have hkl := hblk.lt
      have f0 := hblk.cell 0
      have f1 := hblk.cell 1
      have i1 : (0 : Int) ≤ i := by omega
      have i2 : (i : Int) < n := by omega
      go_wp2_with fail
      refine (hK _).mono ?_
      rintro e w1 ⟨rfl, hb1⟩
      have hB1 : Below w.heap.size w w1 := (hbel.alloc hsz _).trans (hb1.mono (by simp; omega))
      have hk1 := (hblk.alloc (.cells #[.int .i64 x.o, .int .i64 x.s, .int .i64 x.a, .int .i64 x.d] 47)).below hb1 (by simp; omega)
      clear hb1 hblk hbel f0 f1 c0 c1 c2 c3 hK hb0 hk0
      by_cases hlk : lk < ky
      · have d1 : decide (ky ≤ lk) = false := decide_eq_false (by omega)
        have hnext := Lib.hid (HGOOD.out hlk)
        clear HGOOD HBAD
        go_wp2
        go_roundw
        case rel => exact ⟨i + 1, by omega, by go_num, by rw [HLAST.out], hnext, hB1, hk1⟩
        case measure => simp [intOf]; omega
      · have d1 : decide (ky ≤ lk) = true := decide_eq_true (by omega)
        have hbb := Lib.hid (HBAD.out (by omega))
        clear HGOOD HBAD HLAST
        go_wp2
        go_ret
        exact ⟨ret_bool hbb.out.symm, hB1⟩
    · have ei : i = n := by omega
      subst ei
      have hgo : rises es = true := decide_eq_true (by rw [HX.out]; exact hr.out)
      rw [HB.out] at hgo
      go_wp2
      go_ret
      exact ⟨ret_bool hgo.symm, hbel⟩
def Differ (es : List Ent) (k : Nat) : Prop := ∀ i, i < k → ∀ j, j < i → ¬ ((E es j).o = (E es i).o ∧ (E es j).d = (E es i).d)
instance (es : List Ent) (k : Nat) : Decidable (Differ es k) := by unfold Differ; infer_instance
def differ (es : List Ent) : Bool := decide (Differ es es.length)
theorem differ_zero (es : List Ent) : Differ es 0 := fun i hi => absurd hi (by omega)
theorem differ_succ {es : List Ent} {k : Nat} (h : Differ es k) (hg : ∀ j, j < k → ¬ ((E es j).o = (E es k).o ∧ (E es j).d = (E es k).d)) : Differ es (k + 1) := fun i hi => by
  by_cases e : i = k
  · subst e; exact hg
  · exact h i (by omega)
set_option maxHeartbeats 1000000 in
set_option maxRecDepth 100000 in
theorem dotsDiffer_any (B : Nat) (ao : Option Addr) (n cap : Nat) (es : List Ent) (w : World) (hx : Ents B w ao n cap es) (hB : B ≤ w.heap.size) :
    Calls Tryz.prog 62 #[.slice ao n cap] w (Says (.bool (differ es)) w) := by
  have hx0 := hx.hlen; have hx1 := hx.hcap; have hx2 := hx.hmax
  unfold maxLen at hx2
  have HX := Lib.hid hx0; clear hx0
  generalize hb : differ es = bb
  have HB := Lib.hid hb; clear hb
  go_enter Tryz.func62, Tryz.ntmps62
  go_wp2
  go_loopw [9] (fun si wr => ∃ i : Nat, i ≤ n ∧ si = .int .i64 i ∧ Hid (Differ es i) ∧ Below w.heap.size w wr) (fun si _ => n - (intOf si).toNat)
  case atStart => exact ⟨0, Nat.zero_le _, rfl, Lib.hid (differ_zero es), Below.refl _ _⟩
  case round =>
    obtain ⟨i, hi, rfl, hr, hbel⟩ := hrel
    by_cases hlt : i < n
    · have hxr := hx.below hbel hB hB
      obtain ⟨b, off, rfl, hbB, hc⟩ := hxr.at i hlt
      obtain ⟨c0, c1, c2, c3⟩ := hc i hlt
      have HC := Lib.hid hc; clear hc
      have hsz := hbel.size
      have hbad : ∀ j, j < i → ((E es j).o = (E es i).o ∧ (E es j).d = (E es i).d) → bb = false := fun j hj h => by
        rw [← HB.out]; exact decide_eq_false (fun hd => hd i (by have := HX.out; omega) j hj h)
      have hgood : (∀ j, j < i → ¬ ((E es j).o = (E es i).o ∧ (E es j).d = (E es i).d)) → Differ es (i + 1) := differ_succ hr.out
      generalize E es i = x at c0 c1 c2 c3 hbad hgood
      have HBAD := Lib.hid hbad; have HGOOD := Lib.hid hgood; clear hbad hgood
      have i1 : (0 : Int) ≤ i := by omega
      have i2 : (i : Int) < n := by omega
      have i3 : (i : Int) ≤ cap := by omega
      obtain ⟨W, hW⟩ : ∃ W, W = wr.alloc (.cells #[.int .i64 x.o, .int .i64 x.s, .int .i64 x.a, .int .i64 x.d] 47) := ⟨_, rfl⟩
      have hk0 : Blk W wr.heap.size 47 #[.int .i64 x.o, .int .i64 x.s, .int .i64 x.a, .int .i64 x.d] := by rw [hW]; exact Blk.new _ _ _
      have hWb : Below w.heap.size w W := by rw [hW]; exact hbel.alloc hsz _
      have hWr : Below wr.heap.size wr W := by rw [hW]; exact (Below.refl _ _).alloc (Nat.le_refl _) _
      go_wp2
      rw [← hW]
      go_loopw [18] (fun sj wq => ∃ j : Nat, j ≤ i ∧ sj = .int .i64 j ∧ Hid (∀ k, k < j → ¬ ((E es k).o = x.o ∧ (E es k).d = x.d)) ∧ Below w.heap.size w wq ∧ Blk wq wr.heap.size 47 #[.int .i64 x.o, .int .i64 x.s, .int .i64 x.a, .int .i64 x.d]) (fun sj _ => i - (intOf sj).toNat)
      case atStart => exact ⟨0, Nat.zero_le _, rfl, Lib.hid (fun k hk => absurd hk (by omega)), hWb, hk0⟩
      case round =>
        obtain ⟨j, hj, rfl, hno, hbq, hkq⟩ := hrel
        by_cases hji : j < i
        · have hxq := hx.below hbq hB hB
          obtain ⟨b', off', e', hbB', hc'⟩ := hxq.at j (by omega)
          cases e'
          obtain ⟨a0, a1, a2, a3⟩ := hc' j (by omega)
          clear hc'
          have htwin := HBAD.out j hji
          have hstep : ¬ ((E es j).o = x.o ∧ (E es j).d = x.d) → ∀ k, k < j + 1 → ¬ ((E es k).o = x.o ∧ (E es k).d = x.d) := fun h k hk => by
            by_cases e : k = j
            · subst e; exact h
            · exact hno.out k (by omega)
          generalize E es j = y at a0 a1 a2 a3 htwin hstep
          have HT := Lib.hid htwin; have HST := Lib.hid hstep; clear htwin hstep
          have hsq := hbq.size
          have hkl := hkq.lt
          have hkq2 := hkq.alloc (.cells #[.int .i64 y.o, .int .i64 y.s, .int .i64 y.a, .int .i64 y.d] 47)
          have hbq2 := hbq.alloc hsq (.cells #[.int .i64 y.o, .int .i64 y.s, .int .i64 y.a, .int .i64 y.d] 47)
          have f0 := hkq2.cell 0
          have f3 := hkq2.cell 3
          have k1 : (0 : Int) ≤ j := by omega
          have k2 : (j : Int) < i := by omega
          by_cases ho : x.o = y.o
          · have ho' : (x.o == y.o) = true := by simpa using ho
            by_cases hd : x.d = y.d
            · have hd' : (x.d == y.d) = true := by simpa using hd
              have hbb := Lib.hid (HT.out ⟨ho.symm, hd.symm⟩)
              clear ho hd HT HST HBAD HGOOD
              go_wp2
              go_ret
              exact ⟨ret_bool hbb.out.symm, hbq2⟩
            · have hd' : (x.d == y.d) = false := by simpa using hd
              have hs := Lib.hid (HST.out (fun h => hd h.2.symm))
              clear ho hd HT HST HBAD HGOOD
              go_wp2
              go_roundw
              case rel => exact ⟨j + 1, by omega, by go_num, hs, hbq2, hkq2⟩
              case measure => simp [intOf]; omega
          · have ho' : (x.o == y.o) = false := by simpa using ho
            have hs := Lib.hid (HST.out (fun h => ho h.1.symm))
            clear ho HT HST HBAD HGOOD
            go_wp2
            go_roundw
            case rel => exact ⟨j + 1, by omega, by go_num, hs, hbq2, hkq2⟩
            case measure => simp [intOf]; omega
        · have ej : j = i := by omega
          have hgo := Lib.hid (HGOOD.out (fun k hk => hno.out k (by omega)))
          subst ej
          clear HBAD HGOOD
          go_wp2
          go_roundw
          case rel => exact ⟨j + 1, by omega, by go_num, hgo, hbq⟩
          case measure => simp [intOf]; omega
    · have ei : i = n := by omega
      subst ei
      have hgo : differ es = true := decide_eq_true (by rw [HX.out]; exact hr.out)
      rw [HB.out] at hgo
      go_wp2
      go_ret
      exact ⟨ret_bool hgo.symm, hbel⟩
theorem good_parts {es : List Ent} {i : Nat} (hr : Rise es (i + 1)) (hd : Differ es (i + 1)) : Good es i := by
  have h1 := hr i (by omega)
  refine ⟨?_, fun h0 => ?_, fun j hj => hd i (by omega) j hj⟩
  · have hge : 0 ≤ lastKey es i + 1 := by
      unfold lastKey
      split
      · omega
      · have h2 := hr (i - 1) (by omega)
        have h3 : -1 ≤ lastKey es (i - 1) := by
          clear h1 h2
          generalize i - 1 = k
          unfold lastKey
          split
          · omega
          · unfold Ent.key keyOf
            split
            · rename_i h
              have := Ent.ok_all (e := E es (k - 1)) h
              omega
            · omega
        omega
    cases hk : (E es i).ok with
    | true => rfl
    | false =>
      have h4 : (E es i).key = -1 := by unfold Ent.key; exact keyOf_no hk
      omega
  · unfold lastKey at h1
    rw [if_neg (by omega)] at h1
    exact h1
theorem parts_right {es : List Ent} {k : Nat} (h : Right es k) : Rise es k ∧ Differ es k := by
  refine ⟨fun i hi => ?_, fun i hi j hj => (h i hi).2.2 j hj⟩
  have h1 := Ent.key_ok (h i hi).1
  unfold lastKey
  split
  · omega
  · exact (h i hi).2.1 (by omega)
theorem book_parts (es : List Ent) : bookOk es = (rises es && differ es) := by
  rw [Bool.eq_iff_iff, Bool.and_eq_true]
  unfold bookOk rises differ
  rw [decide_eq_true_eq, decide_eq_true_eq, decide_eq_true_eq]
  refine ⟨fun h => parts_right h, fun ⟨h1, h2⟩ i hi => good_parts (fun j hj => h1 j (by omega)) (fun j hj => h2 j (by omega))⟩
set_option maxHeartbeats 400000 in
theorem entriesByKey_any (ao : Option Addr) (n cap : Nat) (w : World) :
    Calls Tryz.prog 50 #[.slice ao n cap] w (Says (.agg #[.slice ao n cap, .func (.func 85) #[] #[]]) w) := by
  go_enter Tryz.func50, Tryz.ntmps50
  go_wp2_with fail
  refine bodyPost_ret (v := .agg #[.slice ao n cap, .func (.func 85) #[] #[]]) (by simp [results, Tryz.results50, go_sem]) rfl ?_
  exact ⟨rfl, (Below.refl _ _).alloc (Nat.le_refl _) _⟩
set_option maxHeartbeats 400000 in
theorem implBookOk_any (B : Nat) (ao : Option Addr) (n cap : Nat) (es : List Ent) (w : World) (hx : Ents B w ao n cap es) (hB : B ≤ w.heap.size) :
    Calls Tryz.prog 36 #[.slice ao n cap] w (Says (.bool (bookOk es)) w) := by
  have h0 := fun w => entriesByKey_any ao n cap w
  have e1 : rises es = false → bookOk es = false := fun h => by rw [book_parts, h]; rfl
  have e2 : rises es = true → bookOk es = differ es := fun h => by rw [book_parts, h]; rfl
  generalize bookOk es = bb at e1 e2
  have E1 := Lib.hid e1; have E2 := Lib.hid e2; clear e1 e2
  go_enter Tryz.func36, Tryz.ntmps36
  go_wp2_with fail
  refine (h0 _).mono ?_
  rintro e w1 ⟨rfl, hb1⟩
  have hx1 := hx.below hb1 hB (Nat.le_refl B)
  have hs1 := hb1.size
  have h1 := rises_any B ao n cap es w1 hx1 (by omega)
  generalize rises es = b1 at h1 E1 E2
  go_wp2_with fail
  refine h1.mono ?_
  rintro e w2 ⟨rfl, hb2⟩
  have hb2' := hb1.trans (hb2.mono hs1)
  rcases b1 with _ | _
  · go_wp2_with fail
    go_ret
    exact ⟨ret_bool (E1.out (by first | rfl | trivial)).symm, hb2'⟩
  · have hx2 := hx.below hb2' hB (Nat.le_refl B)
    have hs2 := hb2'.size
    have h2 := dotsDiffer_any B ao n cap es w2 hx2 (by omega)
    have HE := Lib.hid (E2.out (by first | rfl | trivial)); clear E1 E2
    generalize differ es = b2 at h2 HE
    go_wp2_with fail
    refine h2.mono ?_
    rintro e w3 ⟨rfl, hb3⟩
    have hb3' := hb2'.trans (hb3.mono hs2)
    go_wp2_with fail
    go_ret
    exact ⟨ret_bool HE.out.symm, hb3'⟩

end Go.Proofs.YtccoljbnddfmpaaGreatDoor
