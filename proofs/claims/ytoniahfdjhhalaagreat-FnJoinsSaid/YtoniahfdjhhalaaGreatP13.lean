/- Texts of this claim, put together. -/
import Derived.Test.YtoniahfdjhhalaaGreatP1
import Derived.Test.YtoniahfdjhhalaaGreatP11
import Derived.Test.YtoniahfdjhhalaaGreatP12
import Derived.BigRegion

namespace Go.Proofs.YtoniahfdjhhalaaGreat
open Go.RowKit
def MaybeInts (o : Option (List Int)) (w : World) (e : Ending) (w' : World) : Prop := ∃ v, e = .returned (.tuple #[v, .bool o.isSome]) ∧ Own w.heap.size w' v (o.getD []) ∧ Below w.heap.size w w'
set_option maxHeartbeats 400000 in
set_option maxRecDepth 100000 in
theorem specUnsummed_any (B : Nat) (ao : Option Addr) (n cap : Nat) (xs : List Int) (w : World) (hx : Ints B w ao n cap xs) (hB : B ≤ w.heap.size) (hz : ao = none → cap = 0) (hn : n ≤ 1099511627776) :
    Calls Tryz.prog 98 #[.slice ao n cap] w (MaybeInts (unsummed xs) w) := by
  have hx0 := hx.hlen; have hx1 := hx.hcap; have hx2 := hx.hmax
  unfold maxLen at hx2
  have HX := Lib.hid hx0; clear hx0
  have HZ := Lib.hid hz; clear hz
  rcases hok : bytesOk xs with _ | _
  · rw [unsummed_bad hok]
    have HOK := Lib.hid hok; clear hok
    go_enter Tryz.func98, Tryz.ntmps98
    go_wp2_with fail
    refine (specBytesOk_any _ _ _ _ xs _ hx).mono ?_
    rintro e w1 ⟨rfl, rfl⟩
    rw [HOK.out]
    go_wp2
    go_ret2
    exact ⟨_, rfl, own_empty _, (Below.refl _ _).alloc (Nat.le_refl _) _⟩
  have HOK := Lib.hid hok; clear hok
  by_cases hs : n < 4
  · have e0 : unsummed xs = none := unsummed_short (by have := HX.out; omega)
    rw [e0]; clear e0
    go_enter Tryz.func98, Tryz.ntmps98
    go_wp2_with fail
    refine (specBytesOk_any _ _ _ _ xs _ hx).mono ?_
    rintro e w1 ⟨rfl, rfl⟩
    rw [HOK.out]
    go_wp2
    go_ret2
    exact ⟨_, rfl, own_empty _, (Below.refl _ _).alloc (Nat.le_refl _) _⟩
  · obtain ⟨m, rfl⟩ : ∃ m, n = m + 4 := ⟨n - 4, by omega⟩
    have hxt := hx.take (show m ≤ m + 4 by omega)
    have e0 := unsummed_is (xs := xs) (ys := xs.take m) (by have := HX.out; omega) (by rw [HX.out]; rfl)
    rw [e0]; clear e0
    generalize xs.take m = ys at hxt
    have hyl := hxt.hlen
    have HYL := Lib.hid hyl; clear hyl
    have e1 : (((m + 4 : Nat) : Int) - 4) = (m : Int) := by omega
    have hwf := hxt.wf
    have d2 : decide (((m + 4 : Nat) : Int) < 4) = false := decide_eq_false (by omega)
    have d3 : decide ((m : Int) + 4 < 4) = false := decide_eq_false (by omega)
    have hyn : ys.length ≤ 1099511627776 := by have := HYL.out; omega
    rcases hr : decide (withSum ys = xs) with _ | _
    · rw [if_neg (by decide)]
      have HR := Lib.hid hr; clear hr
      go_enter Tryz.func98, Tryz.ntmps98
      go_wp2_with fail
      refine (specBytesOk_any _ _ _ _ xs _ hx).mono ?_
      rintro e w1 ⟨rfl, rfl⟩
      rw [HOK.out]
      go_wp2_with fail
      refine (l1Copy_any B ao m cap ys _ hxt hB HZ.out (by omega)).mono ?_
      rintro e w2 ⟨v2, rfl, hown2, hb2⟩
      obtain ⟨a2, c2, rfl, hi2, hz2⟩ := hown2.ints' hwf
      have hs2 := hb2.size
      have hx2' := hx.below hb2 hB (Nat.le_refl _)
      have HZ2 := Lib.hid hz2; clear hz2
      clear e1 d2 d3
      go_wp2_with fail
      refine (specWithSum_any _ _ _ _ ys _ hi2 (Nat.le_refl _) HZ2.out hyn).mono ?_
      rintro e w3 ⟨v3, rfl, hown3, hb3⟩
      obtain ⟨a3, c3, rfl, hi3⟩ := hown3.ints (bytes_i64 (withSum_bytes ys))
      have hx3' := hx2'.below hb3 (by omega) (Nat.le_refl _)
      have hb23 := hb2.trans (hb3.mono hs2)
      have hs3 := hb23.size
      clear hi2 hown2 hown3 hb2 hb3 hx2'
      go_wp2_with fail
      refine (l1Same_any _ _ _ _ _ _ _ _ _ _ _ hi3 hx3').mono ?_
      rintro e w4 ⟨rfl, hd4⟩
      rw [HR.out]
      have hb4 := hb23.trans ((hd4.below w3.heap.size).mono hs3)
      have hs4 := hb4.size
      go_wp2
      go_ret2
      exact ⟨_, rfl, (own_empty _).mono hs4, hb4.alloc hs4 _⟩
    · rw [if_pos rfl]
      have HR := Lib.hid hr; clear hr
      go_enter Tryz.func98, Tryz.ntmps98
      go_wp2_with fail
      refine (specBytesOk_any _ _ _ _ xs _ hx).mono ?_
      rintro e w1 ⟨rfl, rfl⟩
      rw [HOK.out]
      go_wp2_with fail
      refine (l1Copy_any B ao m cap ys _ hxt hB HZ.out (by omega)).mono ?_
      rintro e w2 ⟨v2, rfl, hown2, hb2⟩
      have hown2k := hown2
      obtain ⟨a2, c2, rfl, hi2, hz2⟩ := hown2.ints' hwf
      have hs2 := hb2.size
      have hx2' := hx.below hb2 hB (Nat.le_refl _)
      have HZ2 := Lib.hid hz2; clear hz2
      clear e1 d2 d3
      go_wp2_with fail
      refine (specWithSum_any _ _ _ _ ys _ hi2 (Nat.le_refl _) HZ2.out hyn).mono ?_
      rintro e w3 ⟨v3, rfl, hown3, hb3⟩
      obtain ⟨a3, c3, rfl, hi3⟩ := hown3.ints (bytes_i64 (withSum_bytes ys))
      have hx3' := hx2'.below hb3 (by omega) (Nat.le_refl _)
      have hb23 := hb2.trans (hb3.mono hs2)
      have hs3 := hb23.size
      have hown23 := hown2k.below hb3 (Nat.le_refl _)
      clear hi2 hown2 hown3 hown2k hb2 hb3 hx2'
      go_wp2_with fail
      refine (l1Same_any _ _ _ _ _ _ _ _ _ _ _ hi3 hx3').mono ?_
      rintro e w4 ⟨rfl, hd4⟩
      rw [HR.out]
      have hb34 := hd4.below w3.heap.size
      have hb4 := hb23.trans (hb34.mono hs3)
      have hown24 := hown23.below hb34 (Nat.le_refl _)
      go_wp2
      go_ret2
      exact ⟨_, rfl, hown24, hb4⟩
structure Let where
  f : Int
  t : Int
  v : List Int
  p : List Ent
def openR (xs : List Int) : Option Let := match unsummed xs with
  | none => none
  | some ys => if ys.length < 3 ∨ ¬ ys.getD 0 0 = 92 then none else match numsN ys 4 3 with
    | none => none
    | some r => match readB ys r.2 with
      | none => none
      | some q => if (q.2 : Nat) = ys.length ∧ letterOk (ys.getD 1 0) (ys.getD 2 0) r.1 q.1 = true then some ⟨ys.getD 1 0, ys.getD 2 0, r.1, q.1⟩ else none
theorem open_sum {xs : List Int} (h : unsummed xs = none) : openR xs = none := by rw [openR, h]
theorem open_head {xs ys : List Int} (h : unsummed xs = some ys) (h2 : ys.length < 3 ∨ ¬ ys.getD 0 0 = 92) : openR xs = none := by
  rw [openR, h]
  simp only
  rw [if_pos h2]
theorem open_nums {xs ys : List Int} (h : unsummed xs = some ys) (h2 : ¬ (ys.length < 3 ∨ ¬ ys.getD 0 0 = 92)) (h3 : numsN ys 4 3 = none) : openR xs = none := by
  rw [openR, h]
  simp only
  rw [if_neg h2, h3]
theorem open_read {xs ys : List Int} {r : List Int × Nat} (h : unsummed xs = some ys) (h2 : ¬ (ys.length < 3 ∨ ¬ ys.getD 0 0 = 92)) (h3 : numsN ys 4 3 = some r) (h4 : readB ys r.2 = none) : openR xs = none := by
  rw [openR, h]
  simp only
  rw [if_neg h2, h3]
  simp only
  rw [h4]
theorem open_end {xs ys : List Int} {r : List Int × Nat} {q : List Ent × Nat} (h : unsummed xs = some ys) (h2 : ¬ (ys.length < 3 ∨ ¬ ys.getD 0 0 = 92)) (h3 : numsN ys 4 3 = some r) (h4 : readB ys r.2 = some q) :
    openR xs = if (q.2 : Nat) = ys.length ∧ letterOk (ys.getD 1 0) (ys.getD 2 0) r.1 q.1 = true then some ⟨ys.getD 1 0, ys.getD 2 0, r.1, q.1⟩ else none := by
  rw [openR, h]
  simp only
  rw [if_neg h2, h3]
  simp only
  rw [h4]
theorem unsummed_fits {xs ys : List Int} (h : unsummed xs = some ys) : (∀ y ∈ ys, 0 ≤ y ∧ y ≤ 255) ∧ ys.length ≤ 3996 := by
  unfold unsummed at h
  split at h
  · rename_i hh
    simp only [Option.some.injEq] at h
    rw [h] at hh
    obtain ⟨h4, hw⟩ := hh
    unfold withSum at hw
    split at hw
    · rename_i hb
      refine ⟨fun y hy => ?_, hb.2⟩
      exact (bytesOk_mem hb.1).2 y hy
    · rw [← hw] at h4
      simp at h4
  · cases h
theorem _root_.Go.RowKit.Below.set4 {B : Nat} {w w' : World} {g : Nat} (h : Below B w w') (hg : B ≤ g) (a b c d : Value) : Below B w ((((w'.setCell ⟨g, 0, none⟩ a).setCell ⟨g, 1, none⟩ b).setCell ⟨g, 2, none⟩ c).setCell ⟨g, 3, none⟩ d) :=
  (((h.setCell (p := ⟨g, 0, none⟩) hg a).setCell (p := ⟨g, 1, none⟩) hg b).setCell (p := ⟨g, 2, none⟩) hg c).setCell (p := ⟨g, 3, none⟩) hg d
def OpenPost (o : Option Let) (w : World) (e : Ending) (w' : World) : Prop := match o with
  | none => e = .returned (.tuple #[.agg #[.int .i64 0, .int .i64 0, .slice none 0 0, .slice none 0 0], .bool false]) ∧ Below w.heap.size w w'
  | some l => ∃ vv pv, e = .returned (.tuple #[.agg #[.int .i64 l.f, .int .i64 l.t, vv, pv], .bool true]) ∧ Own w.heap.size w' vv l.v ∧ OwnE w.heap.size w' pv l.p ∧ Below w.heap.size w w'
theorem openPost_none {o : Option Let} {w w' : World} (h : o = none) (hb : Below w.heap.size w w') : OpenPost o w (.returned (.tuple #[.agg #[.int .i64 0, .int .i64 0, .slice none 0 0, .slice none 0 0], .bool false])) w' := by
  subst h
  exact ⟨rfl, hb⟩
set_option linter.unusedSimpArgs false in
set_option maxHeartbeats 4000000 in
set_option maxRecDepth 100000 in
theorem specOpened_any (B : Nat) (ao : Option Addr) (n cap : Nat) (xs : List Int) (w : World) (hx : Ints B w ao n cap xs) (hB : B ≤ w.heap.size) (hz : ao = none → cap = 0) (hn : n ≤ 1099511627776) :
    Calls Tryz.prog 96 #[.slice ao n cap] w (OpenPost (openR xs) w) := by
  obtain ⟨wb, hwb⟩ : ∃ wb, wb = w.alloc (.cells #[.int .i64 0, .int .i64 0, .slice none 0 0, .slice none 0 0] 96) := ⟨_, rfl⟩
  have hblk : Blk wb w.heap.size 96 #[.int .i64 0, .int .i64 0, .slice none 0 0, .slice none 0 0] := by rw [hwb]; exact Blk.new _ _ _
  have hb0 : Below w.heap.size w wb := by rw [hwb]; exact (Below.refl _ _).alloc (Nat.le_refl _) _
  have hs0 := hb0.size
  have hblt := hblk.lt
  have hDD : ∀ w', Below wb.heap.size wb w' → Blk w' w.heap.size 96 #[.int .i64 0, .int .i64 0, .slice none 0 0, .slice none 0 0] := fun w' h => hblk.below h hblt
  have HD := Lib.hid hDD; clear hDD
  have HA : Hid (∀ w', Below wb.heap.size wb w' → Below w.heap.size w w') := Lib.hid (fun w' h => hb0.trans (h.mono hs0))
  have hu := specUnsummed_any B ao n cap xs wb (hx.below hb0 hB (Nat.le_refl B)) (by omega) hz hn
  obtain ⟨R, hR⟩ : ∃ R, openR xs = R := ⟨_, rfl⟩
  rw [hR]
  have HO1 : Hid (unsummed xs = none → R = none) := Lib.hid (fun h => by rw [← hR]; exact open_sum h)
  have HO2 : Hid (∀ ys, unsummed xs = some ys → (ys.length < 3 ∨ ¬ ys.getD 0 0 = 92) → R = none) := Lib.hid (fun ys h h2 => by rw [← hR]; exact open_head h h2)
  have HO3 : Hid (∀ ys, unsummed xs = some ys → ¬ (ys.length < 3 ∨ ¬ ys.getD 0 0 = 92) → numsN ys 4 3 = none → R = none) := Lib.hid (fun ys h h2 h3 => by rw [← hR]; exact open_nums h h2 h3)
  have HO4 : Hid (∀ ys r, unsummed xs = some ys → ¬ (ys.length < 3 ∨ ¬ ys.getD 0 0 = 92) → numsN ys 4 3 = some r → readB ys r.2 = none → R = none) := Lib.hid (fun ys r h h2 h3 h4 => by rw [← hR]; exact open_read h h2 h3 h4)
  have HO5 : Hid (∀ ys r q, unsummed xs = some ys → ¬ (ys.length < 3 ∨ ¬ ys.getD 0 0 = 92) → numsN ys 4 3 = some r → readB ys r.2 = some q → R = if (q.2 : Nat) = ys.length ∧ letterOk (ys.getD 1 0) (ys.getD 2 0) r.1 q.1 = true then some ⟨ys.getD 1 0, ys.getD 2 0, r.1, q.1⟩ else none) := Lib.hid (fun ys r q h h2 h3 h4 => by rw [← hR]; exact open_end h h2 h3 h4)
  have HFU : Hid (∀ ys, unsummed xs = some ys → (∀ y ∈ ys, 0 ≤ y ∧ y ≤ 255) ∧ ys.length ≤ 3996) := Lib.hid (fun ys h => unsummed_fits h)
  clear hR hx hz hn
  generalize unsummed xs = o1 at hu HO1 HO2 HO3 HO4 HO5 HFU
  go_enter Tryz.func96, Tryz.ntmps96
  go_upto_region 1 with fail
  rw [← hwb]
  clear hwb
  go_wp2_with fail
  refine hu.mono ?_
  rintro e w1 ⟨v1, rfl, hown1, hb1⟩
  have hk1 := HD.out w1 hb1
  have hB1 := HA.out w1 hb1
  have hs1 := hb1.size
  rcases o1 with _ | ys
  ·
    have z0 := hk1.cell 0; have z1 := hk1.cell 1; have z2 := hk1.cell 2; have z3 := hk1.cell 3
    have y0 := hk1.frozen 0; have y1 := hk1.frozen 1; have y2 := hk1.frozen 2; have y3 := hk1.frozen 3
    have hZ := Blk.set4 hk1 (.int .i64 0) (.int .i64 0) (.slice none 0 0) (.slice none 0 0)
    have hBZ := hB1.set4 (Nat.le_refl _) (.int .i64 0) (.int .i64 0) (.slice none 0 0) (.slice none 0 0)
    have p0 := hZ.cell 0; have p1 := hZ.cell 1; have p2 := hZ.cell 2; have p3 := hZ.cell 3
    clear hZ
    have HWHY := Lib.hid (HO1.out rfl); have HBZ := Lib.hid hBZ; clear hBZ
    go_wp2_with fail
    refine bodyPost_ret (v := .tuple #[.agg #[.int .i64 0, .int .i64 0, .slice none 0 0, .slice none 0 0], .bool false]) (by simp [results, Tryz.results96, go_sem, p0, p1, p2, p3]) rfl ?_
    exact openPost_none HWHY.out HBZ.out
  · have hf := HFU.out ys rfl
    have hown1' : Own wb.heap.size w1 v1 ys := hown1
    have hyw : AllI64 ys := fun y hy => by have := hf.1 y hy; unfold I64; omega
    obtain ⟨a1, c1, rfl, hi1, hz1⟩ := hown1'.ints' hyw
    have e1 : (some ys).isSome = true := rfl
    rw [e1]
    clear e1 hu hown1 hown1'
    by_cases h3 : ys.length < 3
    · have i3 : (ys.length : Int) < 3 := by omega
      have HX := Lib.hid (HO2.out ys rfl (.inl h3))
      have z0 := hk1.cell 0; have z1 := hk1.cell 1; have z2 := hk1.cell 2; have z3 := hk1.cell 3
      have y0 := hk1.frozen 0; have y1 := hk1.frozen 1; have y2 := hk1.frozen 2; have y3 := hk1.frozen 3
      have hZ := Blk.set4 hk1 (.int .i64 0) (.int .i64 0) (.slice none 0 0) (.slice none 0 0)
      have hBZ := hB1.set4 (Nat.le_refl _) (.int .i64 0) (.int .i64 0) (.slice none 0 0) (.slice none 0 0)
      have p0 := hZ.cell 0; have p1 := hZ.cell 1; have p2 := hZ.cell 2; have p3 := hZ.cell 3
      clear hZ
      have HWHY := Lib.hid (HX.out); have HBZ := Lib.hid hBZ; clear hBZ
      go_wp2_with fail
      refine bodyPost_ret (v := .tuple #[.agg #[.int .i64 0, .int .i64 0, .slice none 0 0, .slice none 0 0], .bool false]) (by simp [results, Tryz.results96, go_sem, p0, p1, p2, p3]) rfl ?_
      exact openPost_none HWHY.out HBZ.out
    · have i3 : ¬ (ys.length : Int) < 3 := by omega
      have hr0 := hi1.at 0 (by omega)
      obtain ⟨b, off, rfl, hltb, hc⟩ := hr0
      have q0 := hc 0 (by omega); have q1 := hc 1 (by omega); have q2 := hc 2 (by omega)
      rw [Nat.add_zero] at q0
      clear hc
      have hO2 := HO2.out ys rfl
      have hO3 := HO3.out ys rfl
      have hO4 := fun r => HO4.out ys r rfl
      have hO5 := fun r q => HO5.out ys r q rfl
      clear HO1 HO2 HO3 HO4 HO5 HFU
      have hy1 := hf.1; have hy2 := hf.2
      have hN := fun w' (h : Below w1.heap.size w1 w') => l11Numbers_any w1.heap.size (some ⟨b, off, none⟩) ys.length c1 ys 3 4 w' (hi1.below h (Nat.le_refl _) (Nat.le_refl _)) h.size (by omega) (by omega) hy1 (by omega)
      have hRd := fun (p : Nat) (hp : p ≤ ys.length) w' (h : Below w1.heap.size w1 w') => l11Read_any w1.heap.size (some ⟨b, off, none⟩) ys.length c1 ys p w' (hi1.below h (Nat.le_refl _) (Nat.le_refl _)) h.size (by omega) hp hy1
      have hfit := fun r h => nums_fits hy1 4 3 r h
      have HYB := Lib.hid hy1
      clear hy1 hf hyw
      have hi1c := hi1.hcap; have hi1m := hi1.hmax
      unfold maxLen at hi1m
      generalize ys.getD 1 0 = y1 at q1 hO5
      generalize ys.getD 2 0 = y2 at q2 hO5
      generalize ys.getD 0 0 = y0 at q0 hO2 hO3 hO4 hO5
      have HN := Lib.hid hN; have HRD := Lib.hid hRd; have HF := Lib.hid hfit
      have HO2 := Lib.hid hO2; have HO3 := Lib.hid hO3; have HO4 := Lib.hid hO4; have HO5 := Lib.hid hO5
      clear hN hRd hfit hO2 hO3 hO4 hO5
      by_cases h92 : y0 = 92
      · subst h92
        have hcd : ¬ (ys.length < 3 ∨ ¬ (92 : Int) = 92) := by omega
        have HCD := Lib.hid hcd; clear hcd
        have hnm := HN.out w1 (Below.refl _ _)
        have hO3 := HO3.out HCD.out; have hO4 := fun r => HO4.out r HCD.out; have hO5 := fun r q => HO5.out r q HCD.out
        have hft := HF.out
        clear HN HO2 HO3 HO4 HO5 HF
        generalize numsN ys 4 3 = o3 at hnm hO3 hO4 hO5 hft
        have HO3 := Lib.hid hO3; have HO4 := Lib.hid hO4; have HO5 := Lib.hid hO5; have HF := Lib.hid hft; clear hO3 hO4 hO5 hft
        go_wp2_with fail
        refine hnm.mono ?_
        rintro e w3 ⟨v3, rfl, hown3, hb3⟩
        have hbb3 := hb1.trans (hb3.mono hs1)
        have hk3 := HD.out w3 hbb3
        have hB3 := HA.out w3 hbb3
        clear hk1
        rcases o3 with _ | ⟨l, p⟩
        · have HX := Lib.hid (HO3.out rfl)
          clear q0 q1 q2 hnm
          have z0 := hk3.cell 0; have z1 := hk3.cell 1; have z2 := hk3.cell 2; have z3 := hk3.cell 3
          have y0 := hk3.frozen 0; have y1 := hk3.frozen 1; have y2 := hk3.frozen 2; have y3 := hk3.frozen 3
          have hZ := Blk.set4 hk3 (.int .i64 0) (.int .i64 0) (.slice none 0 0) (.slice none 0 0)
          have hBZ := hB3.set4 (Nat.le_refl _) (.int .i64 0) (.int .i64 0) (.slice none 0 0) (.slice none 0 0)
          have p0 := hZ.cell 0; have p1 := hZ.cell 1; have p2 := hZ.cell 2; have p3 := hZ.cell 3
          clear hZ
          have HWHY := Lib.hid (HX.out); have HBZ := Lib.hid hBZ; clear hBZ
          go_wp2_with fail
          refine bodyPost_ret (v := .tuple #[.agg #[.int .i64 0, .int .i64 0, .slice none 0 0, .slice none 0 0], .bool false]) (by simp [results, Tryz.results96, go_sem, p0, p1, p2, p3]) rfl ?_
          exact openPost_none HWHY.out HBZ.out
        · have hft := HF.out _ rfl
          have hll : l.length = 4 := hft.1
          have hlv := hft.2.1
          have hpe : p ≤ ys.length := hft.2.2.2 (by omega)
          have hown3' : Own w1.heap.size w3 v3 l := hown3
          have hlw : AllI64 l := fun y hy => by have := hlv y hy; unfold I64; omega
          obtain ⟨a3, c3, rfl, hi3⟩ := hown3'.ints hlw
          have e2 : nmE (some (l, p)) = p := rfl
          have e3 : (some (l, p)).isSome = true := rfl
          rw [e2, e3]
          clear e2 e3 hnm hown3 hft
          have hrd := HRD.out p hpe w3 hb3
          have hO4 := HO4.out (l, p) rfl; have hO5 := fun q => HO5.out (l, p) q rfl
          have hpp : ((l, p) : List Int × Nat).2 = p := rfl
          rw [hpp] at hO4 hO5
          have hrw := rdL_wf ys p
          clear HRD HO3 HO4 HO5 HF hpp
          generalize readB ys p = o4 at hrd hO4 hO5 hrw
          have HO4 := Lib.hid hO4; have HO5 := Lib.hid hO5; clear hO4 hO5
          go_wp2_with fail
          refine hrd.mono ?_
          rintro e w4 ⟨v4, rfl, hown4, hb4⟩
          have hb14 := hb3.trans (hb4.mono hb3.size)
          have hbb4 := hbb3.trans (hb4.mono hbb3.size)
          have hk4 := HD.out w4 hbb4
          have hB4 := HA.out w4 hbb4
          have g1 := (hb14.cell (p := ⟨b, off + 1, none⟩) hltb).trans q1
          have g2 := (hb14.cell (p := ⟨b, off + 2, none⟩) hltb).trans q2
          clear q0 q1 q2 hk3 hrd
          have hown4k := hown4
          obtain ⟨a4, c4, rfl, hi4, -⟩ := hown4.ents hrw
          have hlt4 : b < w4.heap.size := by have := hb14.size; omega
          have g1a : (w4.alloc (.cells #[.int .i64 0, .int .i64 0, .slice none 0 0, .slice none 0 0] 96)).drew.cell? ⟨b, off + 1, none⟩ = some (.int .i64 y1) := (World.cell?_alloc_lt _ _ _ hlt4).trans g1
          have g2a : (w4.alloc (.cells #[.int .i64 0, .int .i64 0, .slice none 0 0, .slice none 0 0] 96)).drew.cell? ⟨b, off + 2, none⟩ = some (.int .i64 y2) := (World.cell?_alloc_lt _ _ _ hlt4).trans g2
          have i3' : (3 : Int) ≤ (ys.length : Int) := by omega
          have i31 : (1 : Int) < (ys.length : Int) := by omega
          have i32 : (2 : Int) < (ys.length : Int) := by omega
          go_wp2_with fail
          go_region
          obtain ⟨W5, hW5⟩ : ∃ W5, W5 = (w4.alloc (.cells #[.int .i64 y1, .int .i64 y2, .slice a3 4 c3, .slice a4 (rdL o4).length c4] 96)).drew := ⟨_, rfl⟩
          obtain ⟨gL, hgL⟩ : ∃ gL, gL = w4.heap.size := ⟨_, rfl⟩
          have hkL : Blk W5 gL 96 #[.int .i64 y1, .int .i64 y2, .slice a3 4 c3, .slice a4 (rdL o4).length c4] := by
            rw [hW5, hgL]
            exact Blk.new _ _ _
          have hb5 : Below w4.heap.size w4 W5 := by rw [hW5]; exact ((Below.refl _ _).alloc (Nat.le_refl _) _).drew
          rw [← hW5, ← hgL]
          clear hW5 hgL g1a g2a g1 g2 hk4
          have hbb5 := hbb4.trans (hb5.mono hbb4.size)
          have hk5 := HD.out W5 hbb5
          have hB5 := HA.out W5 hbb5
          rcases o4 with _ | ⟨es, p5⟩
          · have HX := Lib.hid (HO4.out rfl)
            clear HO4 HO5 hkL
            have z0 := hk5.cell 0; have z1 := hk5.cell 1; have z2 := hk5.cell 2; have z3 := hk5.cell 3
            have y0 := hk5.frozen 0; have y1 := hk5.frozen 1; have y2 := hk5.frozen 2; have y3 := hk5.frozen 3
            have hZ := Blk.set4 hk5 (.int .i64 0) (.int .i64 0) (.slice none 0 0) (.slice none 0 0)
            have hBZ := hB5.set4 (Nat.le_refl _) (.int .i64 0) (.int .i64 0) (.slice none 0 0) (.slice none 0 0)
            have p0 := hZ.cell 0; have p1 := hZ.cell 1; have p2 := hZ.cell 2; have p3 := hZ.cell 3
            clear hZ
            have HWHY := Lib.hid (HX.out); have HBZ := Lib.hid hBZ; clear hBZ
            go_wp2_with fail
            refine bodyPost_ret (v := .tuple #[.agg #[.int .i64 0, .int .i64 0, .slice none 0 0, .slice none 0 0], .bool false]) (by simp [results, Tryz.results96, go_sem, p0, p1, p2, p3]) rfl ?_
            exact openPost_none HWHY.out HBZ.out
          · have hO5 := HO5.out (es, p5) rfl
            have e2 : rdE (some (es, p5)) = p5 := rfl
            have e3 : (some (es, p5)).isSome = true := rfl
            have e4 : rdL (some (es, p5)) = es := rfl
            rw [e4] at hkL hi4 hown4k hrw
            rw [e2, e3, e4]
            clear e2 e3 e4 HO4 HO5
            simp only at hO5
            by_cases hp5 : p5 = ys.length
            · have hne : ((p5 : Int) != (ys.length : Int)) = false := by rw [hp5]; simp
              have hi35 := hi3.below (hb4.trans (hb5.mono hb4.size)) (Nat.le_refl _) (Nat.le_refl _)
              rw [hll] at hi35
              have hi45 := hi4.below hb5 (Nat.le_refl _) (Nat.le_refl _)
              have hs34 := hb4.size; have hs45 := hb5.size
              have hlt := specLetterOk_any w4.heap.size y1 y2 a3 4 c3 l a4 es.length c4 es W5 (hi35.below (Below.refl _ _) hs34 hs34) hi45 hs45
              generalize hlo : letterOk y1 y2 l es = lo at hlt hO5
              have HLO := Lib.hid hlo; have HO5 := Lib.hid hO5; have HP5 := Lib.hid hp5; clear hlo hO5 hp5
              have z0 := hkL.cell 0; have z1 := hkL.cell 1; have z2 := hkL.cell 2; have z3 := hkL.cell 3
              go_wp2_with fail
              refine hlt.mono ?_
              rintro e w6 ⟨rfl, hb6⟩
              have hbb6 := hbb5.trans (hb6.mono hbb5.size)
              have hk6 := HD.out w6 hbb6
              have hB6 := HA.out w6 hbb6
              clear z0 z1 z2 z3 hk5 hlt
              rcases lo with _ | _
              · have HX : Hid (R = none) := Lib.hid (by rw [HO5.out, if_neg (by simp)])
                clear hkL HO5
                have z0 := hk6.cell 0; have z1 := hk6.cell 1; have z2 := hk6.cell 2; have z3 := hk6.cell 3
                have y0 := hk6.frozen 0; have y1 := hk6.frozen 1; have y2 := hk6.frozen 2; have y3 := hk6.frozen 3
                have hZ := Blk.set4 hk6 (.int .i64 0) (.int .i64 0) (.slice none 0 0) (.slice none 0 0)
                have hBZ := hB6.set4 (Nat.le_refl _) (.int .i64 0) (.int .i64 0) (.slice none 0 0) (.slice none 0 0)
                have p0 := hZ.cell 0; have p1 := hZ.cell 1; have p2 := hZ.cell 2; have p3 := hZ.cell 3
                clear hZ
                have HWHY := Lib.hid (HX.out); have HBZ := Lib.hid hBZ; clear hBZ
                go_wp2_with fail
                refine bodyPost_ret (v := .tuple #[.agg #[.int .i64 0, .int .i64 0, .slice none 0 0, .slice none 0 0], .bool false]) (by simp [results, Tryz.results96, go_sem, p0, p1, p2, p3]) rfl ?_
                exact openPost_none HWHY.out HBZ.out
              · have hR : R = some ⟨y1, y2, l, es⟩ := by rw [HO5.out, if_pos ⟨HP5.out, by simp⟩]
                subst hR
                have hkL6 := hkL.below hb6 hkL.lt
                clear HO5 hkL
                have x0 := hkL6.cell 0; have x1 := hkL6.cell 1; have x2 := hkL6.cell 2; have x3 := hkL6.cell 3
                have z0 := hk6.cell 0; have z1 := hk6.cell 1; have z2 := hk6.cell 2; have z3 := hk6.cell 3
                have y0' := hk6.frozen 0; have y1' := hk6.frozen 1; have y2' := hk6.frozen 2; have y3' := hk6.frozen 3
                have hZ := Blk.set4 hk6 (.int .i64 y1) (.int .i64 y2) (.slice a3 4 c3) (.slice a4 es.length c4)
                have hBZ := hB6.set4 (Nat.le_refl _) (.int .i64 y1) (.int .i64 y2) (.slice a3 4 c3) (.slice a4 es.length c4)
                have hO := ((((Only.refl w.heap.size w6).setCell 0 (.int .i64 y1)).setCell 1 (.int .i64 y2)).setCell 2 (.slice a3 4 c3)).setCell 3 (.slice a4 es.length c4)
                have p0 := hZ.cell 0; have p1 := hZ.cell 1; have p2 := hZ.cell 2; have p3 := hZ.cell 3
                have hw1 : w.heap.size < w1.heap.size := by omega
                have hw3 : w.heap.size < w3.heap.size := by have := hb3.size; omega
                have ho3 := (((hown3'.below hb4 (Nat.le_refl _)).below hb5 (Nat.le_refl _)).below hb6 (Nat.le_refl _)).keeps hO.keeps hw1
                have ho4 := (((hown4k.below hb5 (Nat.le_refl _)).below hb6 (Nat.le_refl _))).keeps hO.keeps hw3
                rw [hll] at ho3
                have HO3' := Lib.hid ho3; have HO4' := Lib.hid ho4; have HBZ := Lib.hid hBZ
                clear hZ ho3 ho4 hBZ hO
                go_wp2_with fail
                refine bodyPost_ret (v := .tuple #[.agg #[.int .i64 y1, .int .i64 y2, .slice a3 4 c3, .slice a4 es.length c4], .bool true]) (by simp [results, Tryz.results96, go_sem, p0, p1, p2, p3]) rfl ?_
                exact ⟨_, _, rfl, HO3'.out.mono (by omega), HO4'.out.mono (by omega), HBZ.out⟩
            · have hne : ((p5 : Int) != (ys.length : Int)) = true := by simp only [bne_iff_ne, ne_eq]; omega
              have HX : Hid (R = none) := Lib.hid (by rw [hO5, if_neg (fun h => hp5 h.1)])
              clear hO5 hkL hp5
              have z0 := hk5.cell 0; have z1 := hk5.cell 1; have z2 := hk5.cell 2; have z3 := hk5.cell 3
              have y0 := hk5.frozen 0; have y1 := hk5.frozen 1; have y2 := hk5.frozen 2; have y3 := hk5.frozen 3
              have hZ := Blk.set4 hk5 (.int .i64 0) (.int .i64 0) (.slice none 0 0) (.slice none 0 0)
              have hBZ := hB5.set4 (Nat.le_refl _) (.int .i64 0) (.int .i64 0) (.slice none 0 0) (.slice none 0 0)
              have p0 := hZ.cell 0; have p1 := hZ.cell 1; have p2 := hZ.cell 2; have p3 := hZ.cell 3
              clear hZ
              have HWHY := Lib.hid (HX.out); have HBZ := Lib.hid hBZ; clear hBZ
              go_wp2_with fail
              refine bodyPost_ret (v := .tuple #[.agg #[.int .i64 0, .int .i64 0, .slice none 0 0, .slice none 0 0], .bool false]) (by simp [results, Tryz.results96, go_sem, p0, p1, p2, p3]) rfl ?_
              exact openPost_none HWHY.out HBZ.out
      · have h92' : (y0 != 92) = true := by simpa using h92
        have HX := Lib.hid (HO2.out (.inr h92))
        clear h92 HN HRD HF HO2 HO3 HO4 HO5 q1 q2
        have z0 := hk1.cell 0; have z1 := hk1.cell 1; have z2 := hk1.cell 2; have z3 := hk1.cell 3
        have y0 := hk1.frozen 0; have y1 := hk1.frozen 1; have y2 := hk1.frozen 2; have y3 := hk1.frozen 3
        have hZ := Blk.set4 hk1 (.int .i64 0) (.int .i64 0) (.slice none 0 0) (.slice none 0 0)
        have hBZ := hB1.set4 (Nat.le_refl _) (.int .i64 0) (.int .i64 0) (.slice none 0 0) (.slice none 0 0)
        have p0 := hZ.cell 0; have p1 := hZ.cell 1; have p2 := hZ.cell 2; have p3 := hZ.cell 3
        clear hZ
        have HWHY := Lib.hid (HX.out); have HBZ := Lib.hid hBZ; clear hBZ
        go_wp2_with fail
        refine bodyPost_ret (v := .tuple #[.agg #[.int .i64 0, .int .i64 0, .slice none 0 0, .slice none 0 0], .bool false]) (by simp [results, Tryz.results96, go_sem, p0, p1, p2, p3]) rfl ?_
        exact openPost_none HWHY.out HBZ.out
end Go.Proofs.YtoniahfdjhhalaaGreat
