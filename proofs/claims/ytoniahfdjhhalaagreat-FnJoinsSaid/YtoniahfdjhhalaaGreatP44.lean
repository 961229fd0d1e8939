/- Texts of this claim, put together. -/
import Derived.Test.YtoniahfdjhhalaaGreatP1
import Derived.Test.YtoniahfdjhhalaaGreatP40
import Derived.Test.YtoniahfdjhhalaaGreatP41
import Derived.Test.YtoniahfdjhhalaaGreatP43

namespace Go.Proofs.YtoniahfdjhhalaaGreat
open Go.RowKit
theorem moved_many (nds : List Nd) (fl : List (List Int)) (s : Stp) : (moved nds fl s).1.1.length = nds.length := by
  unfold moved
  repeat' split
  all_goals first | rfl | (dsimp only; rw [List.length_set]) | (dsimp only; simp [hearAll])
def GrownSaid (B g : Nat) (w : World) (e : Ending) (w' : World) : Prop := ∃ nds fl log v, e = .returned v ∧ NetT w.heap.size nds fl w' v ∧ NetGood nds fl ∧ LogNet log nds fl ∧ 2 ≤ nds.length ∧ Keeps g w w' ∧ LDice B g w'
set_option linter.unusedSimpArgs false in
set_option maxHeartbeats 8000000 in
set_option maxRecDepth 100000 in
theorem grown_any (B g : Nat) (most : Int) (w : World) (hd : LDice B g w) (hm0 : 0 < most) (hm1 : most ≤ 1000) :
    Calls Tryz.prog 12 #[.pointer (some ⟨g, 0, none⟩), .int .i64 most] w (GrownSaid B g w) := by
  have hg := hd.hg
  obtain ⟨wb, hwb⟩ : ∃ x, x = w.alloc (.cells #[.slice none 0 0, .slice none 0 0] 33) := ⟨_, rfl⟩
  obtain ⟨gr, hgr0⟩ : ∃ x, x = w.heap.size := ⟨_, rfl⟩
  have hres : Blk wb gr 33 #[.slice none 0 0, .slice none 0 0] := by rw [hwb, hgr0]; exact Blk.new _ _ _
  have hbb : Below w.heap.size w wb := by rw [hwb]; exact (Below.refl _ _).alloc (Nat.le_refl _) _
  have hgrw : w.heap.size ≤ gr := by omega
  have hgrg : gr ≠ g := by omega
  have hdb := hd.below hbb hg
  have hkb : Keeps g w wb := Keeps.of_below hbb
  go_enter Tryz.func12, Tryz.ntmps12
  go_upto_region 1 with fail
  rw [← hwb, ← hgr0]
  clear hwb hgr0
  go_wp2_with fail
  refine (ldBelow_any B g 3 _ hdb (by decide) (by decide)).mono ?_
  rintro e w1 ⟨r1, rfl, hr1, ho1, hd1⟩
  have hk1 := hkb.trans ho1.keeps
  have hres1 := hres.keeps ho1.keeps hgrg
  have e1 : wrap64 (2 + (r1 : Int)) = ((2 + r1 : Nat) : Int) := by rw [IntWalk.wrap64_in _ ⟨by omega, by omega⟩]; omega
  have hnn := specNewNet_any ((2 + r1 : Nat) : Int) w1
  have hgood0 := newNet_good (n := 2 + r1) (by omega) (by omega)
  have hlog0 := logNet_new (2 + r1) (by omega) (by omega)
  have hmany0 : 2 ≤ (newNet ((2 + r1 : Nat) : Int)).length := by
    rw [newNet, if_pos (by omega), Int.toNat_natCast, nodesTo_len]; omega
  have e0 : ((2 + r1 : Nat) : Int) = 2 + (r1 : Int) := by omega
  rw [e0] at hnn hgood0 hlog0 hmany0
  generalize newNet (2 + (r1 : Int)) = nds0 at hnn hgood0 hlog0 hmany0
  go_wp2_with fail
  refine hnn.mono ?_
  rintro e w2 ⟨nv, fv, rfl, q1, q2, hb2⟩
  obtain ⟨an0, cn0, rfl⟩ := q1.slice
  obtain ⟨af0, cf0, rfl⟩ := q2.slice
  obtain ⟨W3, hW3⟩ : ∃ x, x = w2.alloc (.cells #[.slice an0 nds0.length cn0, .slice af0 ([] : List (List Int)).length cf0] 33) := ⟨_, rfl⟩
  obtain ⟨gv, hgv0⟩ : ∃ x, x = w2.heap.size := ⟨_, rfl⟩
  have hv3 : Blk W3 gv 33 #[.slice an0 nds0.length cn0, .slice af0 ([] : List (List Int)).length cf0] := by rw [hW3, hgv0]; exact Blk.new _ _ _
  have hb3 : Below w2.heap.size w2 W3 := by rw [hW3]; exact (Below.refl _ _).alloc (Nat.le_refl _) _
  have hb13 := hb2.trans (hb3.mono hb2.size)
  have hk3 := hk1.then_below (hb13.mono hk1.size)
  have hd3 := hd1.below hb13 hd1.hg
  have hres3 := hres1.below hb13 hres1.lt
  have hn3 := (q1.below hb3 (Nat.le_refl _)).mono hk1.size
  have hf3 := (q2.below hb3 (Nat.le_refl _)).mono hk1.size
  have hgvw : w.heap.size ≤ gv := by have := hk1.size; have := hb2.size; omega
  have hgvg : gv ≠ g := by omega
  have hgrv : gr ≠ gv := by have := hres1.lt; have := hb2.size; omega
  dsimp only [List.length_nil] at hv3 hW3
  go_upto_region 2 with fail
  rw [← hW3, ← hgv0]
  clear hW3 hgv0
  go_wp2_with fail
  refine (ldBelow_any B g most _ hd3 hm0 (by omega)).mono ?_
  rintro e w4 ⟨k0, rfl, hk0, ho4, hd4⟩
  have hk4 := hk3.trans ho4.keeps
  have hres4 := hres3.keeps ho4.keeps hgrg
  have hv4 := hv3.keeps ho4.keeps hgvg
  have hn4 := hn3.keeps ho4.keeps hg
  have hf4 := hf3.keeps ho4.keeps hg
  clear hd1 hdb hd3 hres3 hres1 hv3 hn3 hf3 hb2 hb3 hb13 q1 q2 hk1 hk3 hkb hres hbb ho1 ho4 hd
  go_wp2_with fail
  go_loopw [6] (fun s6 wr => ∃ k : Nat, k ≤ 1000 ∧ s6 = .int .i64 k ∧ ∃ (nds : List Nd) (fl : List (List Int)) (log : List Ent) (an : Option Addr) (cn : Nat) (af : Option Addr) (cf : Nat), Blk wr gv 33 #[.slice an nds.length cn, .slice af fl.length cf] ∧ OwnNds w.heap.size wr (.slice an nds.length cn) nds ∧ OwnRows w.heap.size wr (.slice af fl.length cf) fl ∧ NetGood nds fl ∧ LogNet log nds fl ∧ Hid (2 ≤ nds.length) ∧ Blk wr gr 33 #[.slice none 0 0, .slice none 0 0] ∧ Keeps g w wr ∧ LDice B g wr) (fun s6 _ => (intOf s6).toNat)
  case atStart => exact ⟨k0, by omega, rfl, nds0, [], [], _, _, _, _, hv4, hn4, hf4, hgood0, hlog0, Lib.hid hmany0, hres4, hk4, hd4⟩
  case round =>
    obtain ⟨k, hk24, rfl, nds, fl, log, an, cn, af, cf, hv, hn, hf, hgood, hlog, hmany, hr, hk, hd⟩ := hrel
    clear hv4 hn4 hf4 hres4 hk4 hd4 hgood0 hlog0 hmany0
    by_cases hpos : 0 < k
    · obtain ⟨k, rfl⟩ : ∃ m, k = m + 1 := ⟨k - 1, by omega⟩
      have i0 : (0 : Int) < ((k + 1 : Nat) : Int) := by omega
      go_upto_region 5 with fail
      refine wp_region_held_drew (S := (fun _ => True)) (by kernel_rfl) trivial (fun hHeld => ?_)
      obtain ⟨W0, hW0⟩ : ∃ x, x = wr.drew := ⟨_, rfl⟩
      have hbW : Below wr.heap.size wr W0 := by rw [hW0]; exact (Below.refl _ _).drew
      rw [← hW0]
      clear hW0
      have hv0 := hv.below hbW hv.lt
      have hr0 := hr.below hbW hr.lt
      have hkw0 := hk.then_below (hbW.mono hk.size)
      have hd0 := hd.below hbW hd.hg
      have hn0 := hn.below hbW (Nat.le_refl _)
      have hf0 := hf.below hbW (Nat.le_refl _)
      refine tk (i := 1) (v := ?vs1) rfl (by kernel_rfl) (fun _ _ _ h => h) (Or.inl ⟨by rfl, ?hys1⟩) (by assumption) ?rs1
      case hys1 => (intro w hSw; (try dsimp only at hSw); go_simp; try with_reducible rfl)
      try simp only [Act.put, qGa, qGb, qGc, qSa, qSb, qSc]
      refine wpAnyH_ready (rs := [0, 2]) (by kernel_rfl) (by simp) ?_
      refine AllReadyH.cons rfl (fun K1 hK1 => ?_) (AllReadyH.cons rfl (fun K2 hK2 => ?_) AllReadyH.nil)
      · have zl0 := hv0.cell 0; have zl1 := hv0.cell 1
        go_simp
        refine hK1.out _ _ trivial (fun hHeld => ?_)
        clear hK1 K1 zl0 zl1
        try simp only [Act.put, qGa, qGb, qGc, qSa, qSb, qSc]
        refine wpAnyH_ready (rs := [2]) (by kernel_rfl) (by simp) ?_
        refine AllReadyH.cons rfl (fun K4 hK4 => ?_) AllReadyH.nil
        have zl0 := hv0.cell 0; have zl1 := hv0.cell 1
        go_simp
        refine hK4.out _ _ trivial (fun hHeld => ?_)
        clear hK4 K4 zl0 zl1
        try simp only [Act.put, qGa, qGb, qGc, qSa, qSb, qSc]
        refine wpAnyH_ready (rs := [3]) (by kernel_rfl) (by simp) ?_
        refine AllReadyH.cons rfl (fun K6 hK6 => ?_) AllReadyH.nil
        go_simp
        refine (next_any B g W0 an af nds.length cn fl.length cf hd0 hgood.one hgood.four hgood.few).mono ?_
        rintro e w2 ⟨sk, dk, dn, dt, dm, sa, sb, sc, rfl, hsk, hk2, hd2⟩
        have hv2 := hv0.keeps hk2 hgvg
        have hr2 := hr0.keeps hk2 hgrg
        have hkw2 := hkw0.trans hk2
        go_wp2_with fail
        refine hK6.out _ _ trivial (fun hHeld => ?_)
        clear hK6 K6
        try simp only [Act.put, qGa, qGb, qGc, qSa, qSb, qSc]
        refine wpAnyH_ready (rs := [4]) (by kernel_rfl) (by simp) ?_
        refine AllReadyH.cons rfl (fun K8 hK8 => ?_) AllReadyH.nil
        have hn2 := hn0.keeps hk2 hg
        have hf2 := hf0.keeps hk2 hg
        obtain ⟨an2, cn2, he1, hnr, -⟩ := hn2.nds hgood.allN
        cases he1
        obtain ⟨af2, cf2, he2, hfr, -⟩ := hf2.rows hgood.allR
        cases he2
        have hmv := specMoved_any an cn nds af cf fl ⟨sk, dk, dn, dt, dm, sa, sb, sc⟩ w2 hnr hfr hgood
        have hgood2 := moved_good hgood ⟨sk, dk, dn, dt, dm, sa, sb, sc⟩
        obtain ⟨log2, hlog2⟩ := moved_log hlog hgood (s := ⟨sk, dk, dn, dt, dm, sa, sb, sc⟩) hsk
        have hmany2 : Hid (2 ≤ (moved nds fl ⟨sk, dk, dn, dt, dm, sa, sb, sc⟩).1.1.length) := Lib.hid (by rw [moved_many]; exact hmany.out)
        obtain ⟨r, hr⟩ : ∃ r, moved nds fl ⟨sk, dk, dn, dt, dm, sa, sb, sc⟩ = r := ⟨_, rfl⟩
        rw [hr] at hmv hgood2 hlog2 hmany2
        clear hr hnr hfr
        obtain ⟨⟨nds2, fl2⟩, is2⟩ := r
        dsimp only at hmv hgood2 hlog2 hmany2
        go_simp
        refine hmv.mono ?_
        rintro e w3 ⟨v, rfl, ⟨nv3, fv3, rfl, q1, q2⟩, hb3, -⟩
        obtain ⟨a3, c3, rfl⟩ := q1.slice
        obtain ⟨b3, e3, rfl⟩ := q2.slice
        have hv3 := hv2.below hb3 hv2.lt
        have hr3 := hr2.below hb3 hr2.lt
        have hkw3 := hkw2.then_below (hb3.mono hkw2.size)
        have hd3 := hd2.below hb3 hd2.hg
        have hsw := hkw2.size
        go_wp2_with fail
        refine hK8.out _ _ trivial (fun hHeld => ?_)
        clear hK8 K8
        try simp only [Act.put, qGa, qGb, qGc, qSa, qSb, qSc]
        refine tk (i := 5) (v := ?vt95) rfl (by kernel_rfl) (fun _ _ _ h => h) (Or.inl ⟨by rfl, ?hyt95⟩) (by assumption) ?rt95
        case hyt95 => (intro w hSw; (try dsimp only at hSw); go_simp; try with_reducible rfl)
        try simp only [Act.put, qGa, qGb, qGc, qSa, qSb, qSc]
        refine tk (i := 6) (v := ?vt96) rfl (by kernel_rfl) (fun _ _ _ h => h) (Or.inl ⟨by rfl, ?hyt96⟩) (by assumption) ?rt96
        case hyt96 => (intro w hSw; (try dsimp only at hSw); go_simp; try with_reducible rfl)
        try simp only [Act.put, qGa, qGb, qGc, qSa, qSb, qSc]
        refine tk (i := 7) (v := ?vt97) rfl (by kernel_rfl) (fun _ _ _ h => h) (Or.inl ⟨by rfl, ?hyt97⟩) (by assumption) ?rt97
        case hyt97 => (intro w hSw; (try dsimp only at hSw); go_simp; try with_reducible rfl)
        try simp only [Act.put, qGa, qGb, qGc, qSa, qSb, qSc]
        refine wpAnyH_ready (rs := [8]) (by kernel_rfl) (by simp) ?_
        refine AllReadyH.cons rfl (fun K10 hK10 => ?_) AllReadyH.nil
        have z0 := hv3.cell 0; have z1 := hv3.cell 1
        have y0 := hv3.frozen 0; have y1 := hv3.frozen 1
        have hvZ := Blk.set2 hv3 (.slice a3 nds2.length c3) (.slice b3 fl2.length e3)
        have hOZ := Only.set2 gv w3 (.slice a3 nds2.length c3) (.slice b3 fl2.length e3)
        have hrZ := hr3.keeps hOZ.keeps hgrv
        have hbZ := (Below.refl w.heap.size w3).set2 hgvw (.slice a3 nds2.length c3) (.slice b3 fl2.length e3)
        have hkZ := hkw3.then_below hbZ
        have hdZ := hd3.below hbZ hg
        replace q1 := OwnNds.mono (OwnNds.off q1 hv3 hOZ.keeps (by decide) (by decide) (by decide) (by decide)) hsw
        replace q2 := OwnRows.mono (OwnRows.off q2 hv3 hOZ.keeps (by decide) (by decide)) hsw
        go_simp
        refine hK10.out _ _ trivial (fun hHeld => ?_)
        clear hK10 K10
        try simp only [Act.put, qGa, qGb, qGc, qSa, qSb, qSc]
        refine wpAnyH_done (by kernel_rfl) ?_ _
        obtain ⟨WZ, hWZ⟩ : ∃ x, x = (w3.setCell ⟨gv, 0, none⟩ (.slice a3 nds2.length c3)).setCell ⟨gv, 1, none⟩ (.slice b3 fl2.length e3) := ⟨_, rfl⟩
        rw [← hWZ] at q1 q2 hvZ hrZ hkZ hdZ ⊢
        clear hWZ hOZ hbZ z0 z1 y0 y1
        go_wp2_with fail
        go_roundw
        case rel => exact ⟨k, by omega, by go_num, nds2, fl2, log2, _, _, _, _, hvZ, q1, q2, hgood2, hlog2, hmany2, hrZ, hkZ, hdZ⟩
        case measure => simp [intOf]
      · have zl0 := hv0.cell 0; have zl1 := hv0.cell 1
        go_simp
        refine hK2.out _ _ trivial (fun hHeld => ?_)
        clear hK2 K2 zl0 zl1
        try simp only [Act.put, qGa, qGb, qGc, qSa, qSb, qSc]
        refine wpAnyH_ready (rs := [0, 3]) (by kernel_rfl) (by simp) ?_
        refine AllReadyH.cons rfl (fun K13 hK13 => ?_) (AllReadyH.cons rfl (fun K14 hK14 => ?_) AllReadyH.nil)
        · have zl0 := hv0.cell 0; have zl1 := hv0.cell 1
          go_simp
          refine hK13.out _ _ trivial (fun hHeld => ?_)
          clear hK13 K13 zl0 zl1
          try simp only [Act.put, qGa, qGb, qGc, qSa, qSb, qSc]
          refine wpAnyH_ready (rs := [3]) (by kernel_rfl) (by simp) ?_
          refine AllReadyH.cons rfl (fun K16 hK16 => ?_) AllReadyH.nil
          go_simp
          refine (next_any B g W0 an af nds.length cn fl.length cf hd0 hgood.one hgood.four hgood.few).mono ?_
          rintro e w2 ⟨sk, dk, dn, dt, dm, sa, sb, sc, rfl, hsk, hk2, hd2⟩
          have hv2 := hv0.keeps hk2 hgvg
          have hr2 := hr0.keeps hk2 hgrg
          have hkw2 := hkw0.trans hk2
          go_wp2_with fail
          refine hK16.out _ _ trivial (fun hHeld => ?_)
          clear hK16 K16
          try simp only [Act.put, qGa, qGb, qGc, qSa, qSb, qSc]
          refine wpAnyH_ready (rs := [4]) (by kernel_rfl) (by simp) ?_
          refine AllReadyH.cons rfl (fun K18 hK18 => ?_) AllReadyH.nil
          have hn2 := hn0.keeps hk2 hg
          have hf2 := hf0.keeps hk2 hg
          obtain ⟨an2, cn2, he1, hnr, -⟩ := hn2.nds hgood.allN
          cases he1
          obtain ⟨af2, cf2, he2, hfr, -⟩ := hf2.rows hgood.allR
          cases he2
          have hmv := specMoved_any an cn nds af cf fl ⟨sk, dk, dn, dt, dm, sa, sb, sc⟩ w2 hnr hfr hgood
          have hgood2 := moved_good hgood ⟨sk, dk, dn, dt, dm, sa, sb, sc⟩
          obtain ⟨log2, hlog2⟩ := moved_log hlog hgood (s := ⟨sk, dk, dn, dt, dm, sa, sb, sc⟩) hsk
          have hmany2 : Hid (2 ≤ (moved nds fl ⟨sk, dk, dn, dt, dm, sa, sb, sc⟩).1.1.length) := Lib.hid (by rw [moved_many]; exact hmany.out)
          obtain ⟨r, hr⟩ : ∃ r, moved nds fl ⟨sk, dk, dn, dt, dm, sa, sb, sc⟩ = r := ⟨_, rfl⟩
          rw [hr] at hmv hgood2 hlog2 hmany2
          clear hr hnr hfr
          obtain ⟨⟨nds2, fl2⟩, is2⟩ := r
          dsimp only at hmv hgood2 hlog2 hmany2
          go_simp
          refine hmv.mono ?_
          rintro e w3 ⟨v, rfl, ⟨nv3, fv3, rfl, q1, q2⟩, hb3, -⟩
          obtain ⟨a3, c3, rfl⟩ := q1.slice
          obtain ⟨b3, e3, rfl⟩ := q2.slice
          have hv3 := hv2.below hb3 hv2.lt
          have hr3 := hr2.below hb3 hr2.lt
          have hkw3 := hkw2.then_below (hb3.mono hkw2.size)
          have hd3 := hd2.below hb3 hd2.hg
          have hsw := hkw2.size
          go_wp2_with fail
          refine hK18.out _ _ trivial (fun hHeld => ?_)
          clear hK18 K18
          try simp only [Act.put, qGa, qGb, qGc, qSa, qSb, qSc]
          refine tk (i := 5) (v := ?vt195) rfl (by kernel_rfl) (fun _ _ _ h => h) (Or.inl ⟨by rfl, ?hyt195⟩) (by assumption) ?rt195
          case hyt195 => (intro w hSw; (try dsimp only at hSw); go_simp; try with_reducible rfl)
          try simp only [Act.put, qGa, qGb, qGc, qSa, qSb, qSc]
          refine tk (i := 6) (v := ?vt196) rfl (by kernel_rfl) (fun _ _ _ h => h) (Or.inl ⟨by rfl, ?hyt196⟩) (by assumption) ?rt196
          case hyt196 => (intro w hSw; (try dsimp only at hSw); go_simp; try with_reducible rfl)
          try simp only [Act.put, qGa, qGb, qGc, qSa, qSb, qSc]
          refine tk (i := 7) (v := ?vt197) rfl (by kernel_rfl) (fun _ _ _ h => h) (Or.inl ⟨by rfl, ?hyt197⟩) (by assumption) ?rt197
          case hyt197 => (intro w hSw; (try dsimp only at hSw); go_simp; try with_reducible rfl)
          try simp only [Act.put, qGa, qGb, qGc, qSa, qSb, qSc]
          refine wpAnyH_ready (rs := [8]) (by kernel_rfl) (by simp) ?_
          refine AllReadyH.cons rfl (fun K20 hK20 => ?_) AllReadyH.nil
          have z0 := hv3.cell 0; have z1 := hv3.cell 1
          have y0 := hv3.frozen 0; have y1 := hv3.frozen 1
          have hvZ := Blk.set2 hv3 (.slice a3 nds2.length c3) (.slice b3 fl2.length e3)
          have hOZ := Only.set2 gv w3 (.slice a3 nds2.length c3) (.slice b3 fl2.length e3)
          have hrZ := hr3.keeps hOZ.keeps hgrv
          have hbZ := (Below.refl w.heap.size w3).set2 hgvw (.slice a3 nds2.length c3) (.slice b3 fl2.length e3)
          have hkZ := hkw3.then_below hbZ
          have hdZ := hd3.below hbZ hg
          replace q1 := OwnNds.mono (OwnNds.off q1 hv3 hOZ.keeps (by decide) (by decide) (by decide) (by decide)) hsw
          replace q2 := OwnRows.mono (OwnRows.off q2 hv3 hOZ.keeps (by decide) (by decide)) hsw
          go_simp
          refine hK20.out _ _ trivial (fun hHeld => ?_)
          clear hK20 K20
          try simp only [Act.put, qGa, qGb, qGc, qSa, qSb, qSc]
          refine wpAnyH_done (by kernel_rfl) ?_ _
          obtain ⟨WZ, hWZ⟩ : ∃ x, x = (w3.setCell ⟨gv, 0, none⟩ (.slice a3 nds2.length c3)).setCell ⟨gv, 1, none⟩ (.slice b3 fl2.length e3) := ⟨_, rfl⟩
          rw [← hWZ] at q1 q2 hvZ hrZ hkZ hdZ ⊢
          clear hWZ hOZ hbZ z0 z1 y0 y1
          go_wp2_with fail
          go_roundw
          case rel => exact ⟨k, by omega, by go_num, nds2, fl2, log2, _, _, _, _, hvZ, q1, q2, hgood2, hlog2, hmany2, hrZ, hkZ, hdZ⟩
          case measure => simp [intOf]
        · go_simp
          refine (next_any B g W0 an af nds.length cn fl.length cf hd0 hgood.one hgood.four hgood.few).mono ?_
          rintro e w2 ⟨sk, dk, dn, dt, dm, sa, sb, sc, rfl, hsk, hk2, hd2⟩
          have hv2 := hv0.keeps hk2 hgvg
          have hr2 := hr0.keeps hk2 hgrg
          have hkw2 := hkw0.trans hk2
          go_wp2_with fail
          refine hK14.out _ _ trivial (fun hHeld => ?_)
          clear hK14 K14
          try simp only [Act.put, qGa, qGb, qGc, qSa, qSb, qSc]
          refine wpAnyH_ready (rs := [0]) (by kernel_rfl) (by simp) ?_
          refine AllReadyH.cons rfl (fun K23 hK23 => ?_) AllReadyH.nil
          have zl0 := hv2.cell 0; have zl1 := hv2.cell 1
          go_simp
          refine hK23.out _ _ trivial (fun hHeld => ?_)
          clear hK23 K23 zl0 zl1
          try simp only [Act.put, qGa, qGb, qGc, qSa, qSb, qSc]
          refine wpAnyH_ready (rs := [4]) (by kernel_rfl) (by simp) ?_
          refine AllReadyH.cons rfl (fun K25 hK25 => ?_) AllReadyH.nil
          have hn2 := hn0.keeps hk2 hg
          have hf2 := hf0.keeps hk2 hg
          obtain ⟨an2, cn2, he1, hnr, -⟩ := hn2.nds hgood.allN
          cases he1
          obtain ⟨af2, cf2, he2, hfr, -⟩ := hf2.rows hgood.allR
          cases he2
          have hmv := specMoved_any an cn nds af cf fl ⟨sk, dk, dn, dt, dm, sa, sb, sc⟩ w2 hnr hfr hgood
          have hgood2 := moved_good hgood ⟨sk, dk, dn, dt, dm, sa, sb, sc⟩
          obtain ⟨log2, hlog2⟩ := moved_log hlog hgood (s := ⟨sk, dk, dn, dt, dm, sa, sb, sc⟩) hsk
          have hmany2 : Hid (2 ≤ (moved nds fl ⟨sk, dk, dn, dt, dm, sa, sb, sc⟩).1.1.length) := Lib.hid (by rw [moved_many]; exact hmany.out)
          obtain ⟨r, hr⟩ : ∃ r, moved nds fl ⟨sk, dk, dn, dt, dm, sa, sb, sc⟩ = r := ⟨_, rfl⟩
          rw [hr] at hmv hgood2 hlog2 hmany2
          clear hr hnr hfr
          obtain ⟨⟨nds2, fl2⟩, is2⟩ := r
          dsimp only at hmv hgood2 hlog2 hmany2
          go_simp
          refine hmv.mono ?_
          rintro e w3 ⟨v, rfl, ⟨nv3, fv3, rfl, q1, q2⟩, hb3, -⟩
          obtain ⟨a3, c3, rfl⟩ := q1.slice
          obtain ⟨b3, e3, rfl⟩ := q2.slice
          have hv3 := hv2.below hb3 hv2.lt
          have hr3 := hr2.below hb3 hr2.lt
          have hkw3 := hkw2.then_below (hb3.mono hkw2.size)
          have hd3 := hd2.below hb3 hd2.hg
          have hsw := hkw2.size
          go_wp2_with fail
          refine hK25.out _ _ trivial (fun hHeld => ?_)
          clear hK25 K25
          try simp only [Act.put, qGa, qGb, qGc, qSa, qSb, qSc]
          refine tk (i := 5) (v := ?vt265) rfl (by kernel_rfl) (fun _ _ _ h => h) (Or.inl ⟨by rfl, ?hyt265⟩) (by assumption) ?rt265
          case hyt265 => (intro w hSw; (try dsimp only at hSw); go_simp; try with_reducible rfl)
          try simp only [Act.put, qGa, qGb, qGc, qSa, qSb, qSc]
          refine tk (i := 6) (v := ?vt266) rfl (by kernel_rfl) (fun _ _ _ h => h) (Or.inl ⟨by rfl, ?hyt266⟩) (by assumption) ?rt266
          case hyt266 => (intro w hSw; (try dsimp only at hSw); go_simp; try with_reducible rfl)
          try simp only [Act.put, qGa, qGb, qGc, qSa, qSb, qSc]
          refine tk (i := 7) (v := ?vt267) rfl (by kernel_rfl) (fun _ _ _ h => h) (Or.inl ⟨by rfl, ?hyt267⟩) (by assumption) ?rt267
          case hyt267 => (intro w hSw; (try dsimp only at hSw); go_simp; try with_reducible rfl)
          try simp only [Act.put, qGa, qGb, qGc, qSa, qSb, qSc]
          refine wpAnyH_ready (rs := [8]) (by kernel_rfl) (by simp) ?_
          refine AllReadyH.cons rfl (fun K27 hK27 => ?_) AllReadyH.nil
          have z0 := hv3.cell 0; have z1 := hv3.cell 1
          have y0 := hv3.frozen 0; have y1 := hv3.frozen 1
          have hvZ := Blk.set2 hv3 (.slice a3 nds2.length c3) (.slice b3 fl2.length e3)
          have hOZ := Only.set2 gv w3 (.slice a3 nds2.length c3) (.slice b3 fl2.length e3)
          have hrZ := hr3.keeps hOZ.keeps hgrv
          have hbZ := (Below.refl w.heap.size w3).set2 hgvw (.slice a3 nds2.length c3) (.slice b3 fl2.length e3)
          have hkZ := hkw3.then_below hbZ
          have hdZ := hd3.below hbZ hg
          replace q1 := OwnNds.mono (OwnNds.off q1 hv3 hOZ.keeps (by decide) (by decide) (by decide) (by decide)) hsw
          replace q2 := OwnRows.mono (OwnRows.off q2 hv3 hOZ.keeps (by decide) (by decide)) hsw
          go_simp
          refine hK27.out _ _ trivial (fun hHeld => ?_)
          clear hK27 K27
          try simp only [Act.put, qGa, qGb, qGc, qSa, qSb, qSc]
          refine wpAnyH_done (by kernel_rfl) ?_ _
          obtain ⟨WZ, hWZ⟩ : ∃ x, x = (w3.setCell ⟨gv, 0, none⟩ (.slice a3 nds2.length c3)).setCell ⟨gv, 1, none⟩ (.slice b3 fl2.length e3) := ⟨_, rfl⟩
          rw [← hWZ] at q1 q2 hvZ hrZ hkZ hdZ ⊢
          clear hWZ hOZ hbZ z0 z1 y0 y1
          go_wp2_with fail
          go_roundw
          case rel => exact ⟨k, by omega, by go_num, nds2, fl2, log2, _, _, _, _, hvZ, q1, q2, hgood2, hlog2, hmany2, hrZ, hkZ, hdZ⟩
          case measure => simp [intOf]
    · have ek : k = 0 := by omega
      subst ek
      have o0 := hv.cell 0; have o1 := hv.cell 1
      have z0 := hr.cell 0; have z1 := hr.cell 1
      have y0 := hr.frozen 0; have y1 := hr.frozen 1
      have hZ := Blk.set2 hr (.slice an nds.length cn) (.slice af fl.length cf)
      have hBZ := (Below.refl w.heap.size wr).set2 hgrw (.slice an nds.length cn) (.slice af fl.length cf)
      have hOZ := Only.set2 gr wr (.slice an nds.length cn) (.slice af fl.length cf)
      have p0 := hZ.cell 0; have p1 := hZ.cell 1
      have HQ1 := Lib.hid (OwnNds.off hn hr hOZ.keeps (by decide) (by decide) (by decide) (by decide))
      have HQ2 := Lib.hid (OwnRows.off hf hr hOZ.keeps (by decide) (by decide))
      have HK := Lib.hid (hk.then_below hBZ); have HD := Lib.hid (hd.below hBZ hg)
      clear hBZ hZ hOZ hn hf
      go_wp2_with fail
      refine bodyPost_ret (v := .agg #[.slice an nds.length cn, .slice af fl.length cf]) (by simp [results, Tryz.results12, go_sem, p0, p1]) rfl ?_
      exact ⟨nds, fl, log, _, rfl, ⟨_, _, rfl, HQ1.out, HQ2.out⟩, hgood, hlog, hmany.out, HK.out, HD.out⟩
end Go.Proofs.YtoniahfdjhhalaaGreat
