/- Texts of this claim, put together. -/
import Derived.Test.YtoniahfdjhhalaaGreatP1
import Derived.Test.YtoniahfdjhhalaaGreatP5
import Derived.Test.YtoniahfdjhhalaaGreatP6
import Derived.Test.YtoniahfdjhhalaaGreatP19
import Derived.Test.YtoniahfdjhhalaaGreatP38

namespace Go.Proofs.YtoniahfdjhhalaaGreat
open Go.RowKit
theorem OwnNds.keeps {base g : Nat} {w w' : World} {v : Value} {nds : List Nd} (h : OwnNds base w v nds) (hb : Keeps g w w') (hg : g < base) : OwnNds base w' v nds := by
  obtain ⟨vs, h0, h1, h2⟩ := h
  refine ⟨vs, h0, World.ownsRow.kept h1 hb ?_, fun j hj => ?_⟩
  · cases hv : v.ownBlock with
    | none => exact .inl rfl
    | some k => exact .inr (fun e => by cases e; have := (World.ownsRow.lt h1 _ hv).1; omega)
  · obtain ⟨p, hp, he, hr⟩ := h2 j hj
    exact ⟨p, hp, OwnE.keeps he hb hg, hr.keeps hb hg⟩
theorem NetGood.allN {nds : List Nd} {fl : List (List Int)} (h : NetGood nds fl) : AllN nds := fun j hj => by
  obtain ⟨_, h2, h3⟩ := node_parts.1 (h.nodes j hj).1
  refine ⟨book_wf (sound_parts h2).1, fun r hr x hx => ?_⟩
  have := vec_mem ((acks_iff.1 h3).2 r hr) x hx
  unfold I64
  omega
theorem NetGood.allR {nds : List Nd} {fl : List (List Int)} (h : NetGood nds fl) : AllR fl := fun r hr => bytes_i64 (bytes_parts.1 (h.letters r hr)).2
theorem newNet_good {n : Nat} (h1 : 1 ≤ n) (h2 : n ≤ 4) : NetGood (newNet (n : Int)) [] := by
  have e : newNet (n : Int) = nodesTo n := by rw [newNet, if_pos (by omega), Int.toNat_natCast]
  rw [e]
  refine ⟨by rw [nodesTo_len]; exact h1, by rw [nodesTo_len]; exact h2, by simp, fun r hr => by simp at hr, fun i hi => ?_⟩
  rw [nodesTo_len] at hi
  have e2 : ND (nodesTo n) i = ⟨i, [], zeros⟩ := by
    rw [ND_get (by rw [nodesTo_len]; exact hi)]
    simp only [nodesTo, List.getElem_map, List.getElem_range]
    rw [newNode, if_pos (by simp [inB]; omega)]
  rw [e2]
  exact ⟨node_parts.2 ⟨by dsimp only; omega, show soundE [] = true by decide, zeros_ok⟩, rfl⟩
def NetDrawn (B g : Nat) (w : World) (e : Ending) (w' : World) : Prop := ∃ nds fl v, e = .returned v ∧ NetT w.heap.size nds fl w' v ∧ NetGood nds fl ∧ Keeps g w w' ∧ Dice B g w'
set_option linter.unusedSimpArgs false in
set_option maxHeartbeats 8000000 in
set_option maxRecDepth 100000 in
theorem l16Draw_any (B g : Nat) (w : World) (hd : Dice B g w) :
    Calls Tryz.prog 29 #[.pointer (some ⟨g, 0, none⟩)] w (NetDrawn B g w) := by
  have hg := hd.hg
  obtain ⟨wb, hwb⟩ : ∃ x, x = w.alloc (.cells #[.slice none 0 0, .slice none 0 0] 33) := ⟨_, rfl⟩
  obtain ⟨gr, hgr0⟩ : ∃ x, x = w.heap.size := ⟨_, rfl⟩
  have hres : Blk wb gr 33 #[.slice none 0 0, .slice none 0 0] := by rw [hwb, hgr0]; exact Blk.new _ _ _
  have hbb : Below w.heap.size w wb := by rw [hwb]; exact (Below.refl _ _).alloc (Nat.le_refl _) _
  have hgrw : w.heap.size ≤ gr := by omega
  have hgrg : gr ≠ g := by omega
  have hdb := hd.below hbb
  have hkb : Keeps g w wb := Keeps.of_below hbb
  go_enter Tryz.func29, Tryz.ntmps29
  go_upto_region 1 with fail
  rw [← hwb, ← hgr0]
  clear hwb hgr0
  go_wp2_with fail
  refine (l1Below_any B g 4 _ hdb ⟨by decide, by decide⟩).mono ?_
  rintro e w1 ⟨r1, rfl, hr1, -, ho1, hd1⟩
  have hr1 : (r1 : Int) < 4 := hr1 (by omega)
  have hk1 := hkb.trans ho1.keeps
  have hres1 := hres.keeps ho1.keeps hgrg
  have e1 : wrap64 (1 + (r1 : Int)) = ((1 + r1 : Nat) : Int) := by rw [IntWalk.wrap64_in _ ⟨by omega, by omega⟩]; omega
  have hnn := specNewNet_any ((1 + r1 : Nat) : Int) w1
  have hgood0 := newNet_good (n := 1 + r1) (by omega) (by omega)
  have e0 : ((1 + r1 : Nat) : Int) = 1 + (r1 : Int) := by omega
  rw [e0] at hnn hgood0
  generalize newNet (1 + (r1 : Int)) = nds0 at hnn hgood0
  go_wp2_with fail
  refine hnn.mono ?_
  rintro e w2 ⟨nv, fv, rfl, q1, q2, hb2⟩
  obtain ⟨an0, cn0, rfl⟩ := q1.slice
  obtain ⟨af0, cf0, rfl⟩ := q2.slice
  obtain ⟨W3, hW3⟩ : ∃ x, x = w2.alloc (.cells #[.slice an0 nds0.length cn0, .slice af0 ([] : List (List Int)).length cf0] 33) := ⟨_, rfl⟩
  obtain ⟨gv, hgv0⟩ : ∃ x, x = w2.heap.size := ⟨_, rfl⟩
  have hv3 : Blk W3 gv 33 #[.slice an0 nds0.length cn0, .slice af0 ([] : List (List Int)).length cf0] := by rw [hW3, hgv0]; exact Blk.new _ _ _
  have hb3 : Below w2.heap.size w2 W3 := by rw [hW3]; exact (Below.refl _ _).alloc (Nat.le_refl _) _
  have hb13 := hb2.trans (hb3.mono hb2.size)
  have hk3 := hk1.then_below (hb13.mono hk1.size)
  have hd3 := hd1.below hb13
  have hres3 := hres1.below hb13 hres1.lt
  have hn3 := (q1.below hb3 (Nat.le_refl _)).mono hk1.size
  have hf3 := (q2.below hb3 (Nat.le_refl _)).mono hk1.size
  have hgvw : w.heap.size ≤ gv := by have := hk1.size; have := hb2.size; omega
  have hgvg : gv ≠ g := by omega
  have hgrv : gr ≠ gv := by have := hres1.lt; have := hb2.size; omega
  dsimp only [List.length_nil] at hv3 hW3
  go_upto_region 2 with fail
  rw [← hW3, ← hgv0]
  clear hW3 hgv0
  go_wp2_with fail
  refine (l1Below_any B g 25 _ hd3 ⟨by decide, by decide⟩).mono ?_
  rintro e w4 ⟨k0, rfl, hk0, -, ho4, hd4⟩
  have hk0 : (k0 : Int) < 25 := hk0 (by omega)
  have hk4 := hk3.trans ho4.keeps
  have hres4 := hres3.keeps ho4.keeps hgrg
  have hv4 := hv3.keeps ho4.keeps hgvg
  have hn4 := hn3.keeps ho4.keeps hg
  have hf4 := hf3.keeps ho4.keeps hg
  clear hd1 hdb hd3 hres3 hres1 hv3 hn3 hf3 hb2 hb3 hb13 q1 q2 hk1 hk3 hkb hres hbb ho1 ho4 hd
  go_wp2_with fail
  go_loopw [4] (fun s4 wr => ∃ k : Nat, k ≤ 24 ∧ s4 = .int .i64 k ∧ ∃ (nds : List Nd) (fl : List (List Int)) (an : Option Addr) (cn : Nat) (af : Option Addr) (cf : Nat), Blk wr gv 33 #[.slice an nds.length cn, .slice af fl.length cf] ∧ OwnNds w.heap.size wr (.slice an nds.length cn) nds ∧ OwnRows w.heap.size wr (.slice af fl.length cf) fl ∧ NetGood nds fl ∧ Blk wr gr 33 #[.slice none 0 0, .slice none 0 0] ∧ Keeps g w wr ∧ Dice B g wr) (fun s4 _ => (intOf s4).toNat)
  case atStart => exact ⟨k0, by omega, rfl, nds0, [], _, _, _, _, hv4, hn4, hf4, hgood0, hres4, hk4, hd4⟩
  case round =>
    obtain ⟨k, hk24, rfl, nds, fl, an, cn, af, cf, hv, hn, hf, hgood, hr, hk, hd⟩ := hrel
    clear hv4 hn4 hf4 hres4 hk4 hd4 hgood0
    by_cases hpos : 0 < k
    · obtain ⟨k, rfl⟩ : ∃ m, k = m + 1 := ⟨k - 1, by omega⟩
      have i0 : (0 : Int) < ((k + 1 : Nat) : Int) := by omega
      go_upto_region 5 with fail
      refine wp_region_held_drew (S := (fun _ => True)) (by kernel_rfl) trivial (fun hHeld => ?_)
      obtain ⟨W0, hW0⟩ : ∃ x, x = wr.drew := ⟨_, rfl⟩
      have hbW : Below wr.heap.size wr W0 := by rw [hW0]; exact (Below.refl _ _).drew
      rw [← hW0]
      clear hW0
      have hv0 := hv.below hbW hv.lt
      have hr0 := hr.below hbW hr.lt
      have hkw0 := hk.then_below (hbW.mono hk.size)
      have hd0 := hd.below hbW
      have hn0 := hn.below hbW (Nat.le_refl _)
      have hf0 := hf.below hbW (Nat.le_refl _)
      refine tk (i := 1) (v := ?vs1) rfl (by kernel_rfl) (fun _ _ _ h => h) (Or.inl ⟨by rfl, ?hys1⟩) (by assumption) ?rs1
      case hys1 => (intro w hSw; (try dsimp only at hSw); go_simp; try with_reducible rfl)
      try simp only [Act.put, qGa, qGb, qGc, qSa, qSb, qSc]
      refine wpAnyH_ready (rs := [0, 2]) (by kernel_rfl) (by simp) ?_
      refine AllReadyH.cons rfl (fun K1 hK1 => ?_) (AllReadyH.cons rfl (fun K2 hK2 => ?_) AllReadyH.nil)
      · have zl0 := hv0.cell 0; have zl1 := hv0.cell 1
        go_simp
        refine hK1.out _ _ trivial (fun hHeld => ?_)
        clear hK1 K1 zl0 zl1
        try simp only [Act.put, qGa, qGb, qGc, qSa, qSb, qSc]
        refine wpAnyH_ready (rs := [2]) (by kernel_rfl) (by simp) ?_
        refine AllReadyH.cons rfl (fun K4 hK4 => ?_) AllReadyH.nil
        have zl0 := hv0.cell 0; have zl1 := hv0.cell 1
        go_simp
        refine hK4.out _ _ trivial (fun hHeld => ?_)
        clear hK4 K4 zl0 zl1
        try simp only [Act.put, qGa, qGb, qGc, qSa, qSb, qSc]
        refine wpAnyH_ready (rs := [3]) (by kernel_rfl) (by simp) ?_
        refine AllReadyH.cons rfl (fun K6 hK6 => ?_) AllReadyH.nil
        go_simp
        refine (l16DrawStep_any B g W0 an af nds.length cn fl.length cf hd0 hgood.one (by have := hgood.four; omega) (by have := hgood.few; omega)).mono ?_
        rintro e w2 ⟨sk, dk, dn, dt, dm, sa, sb, sc, rfl, -, -, -, -, -, -, -, -, hk2, hd2⟩
        have hv2 := hv0.keeps hk2 hgvg
        have hr2 := hr0.keeps hk2 hgrg
        have hkw2 := hkw0.trans hk2
        go_wp2_with fail
        refine hK6.out _ _ trivial (fun hHeld => ?_)
        clear hK6 K6
        try simp only [Act.put, qGa, qGb, qGc, qSa, qSb, qSc]
        refine wpAnyH_ready (rs := [4]) (by kernel_rfl) (by simp) ?_
        refine AllReadyH.cons rfl (fun K8 hK8 => ?_) AllReadyH.nil
        have hn2 := hn0.keeps hk2 hg
        have hf2 := hf0.keeps hk2 hg
        obtain ⟨an2, cn2, he1, hnr, -⟩ := hn2.nds hgood.allN
        cases he1
        obtain ⟨af2, cf2, he2, hfr, -⟩ := hf2.rows hgood.allR
        cases he2
        have hmv := l16Moved_any w2.heap.size an cn nds af cf fl ⟨sk, dk, dn, dt, dm, sa, sb, sc⟩ w2 hnr hfr (Nat.le_refl _) hgood
        have hgood2 := moved_good hgood ⟨sk, dk, dn, dt, dm, sa, sb, sc⟩
        obtain ⟨r, hr⟩ : ∃ r, moved nds fl ⟨sk, dk, dn, dt, dm, sa, sb, sc⟩ = r := ⟨_, rfl⟩
        rw [hr] at hmv hgood2
        clear hr hnr hfr
        obtain ⟨⟨nds2, fl2⟩, is2⟩ := r
        dsimp only at hmv hgood2
        go_simp
        refine hmv.mono ?_
        rintro e w3 ⟨v, rfl, ⟨nv3, fv3, rfl, q1, q2⟩, hb3, -⟩
        obtain ⟨a3, c3, rfl⟩ := q1.slice
        obtain ⟨b3, e3, rfl⟩ := q2.slice
        have hv3 := hv2.below hb3 hv2.lt
        have hr3 := hr2.below hb3 hr2.lt
        have hkw3 := hkw2.then_below (hb3.mono hkw2.size)
        have hd3 := hd2.below hb3
        have hsw := hkw2.size
        go_wp2_with fail
        refine hK8.out _ _ trivial (fun hHeld => ?_)
        clear hK8 K8
        try simp only [Act.put, qGa, qGb, qGc, qSa, qSb, qSc]
        refine tk (i := 5) (v := ?vt95) rfl (by kernel_rfl) (fun _ _ _ h => h) (Or.inl ⟨by rfl, ?hyt95⟩) (by assumption) ?rt95
        case hyt95 => (intro w hSw; (try dsimp only at hSw); go_simp; try with_reducible rfl)
        try simp only [Act.put, qGa, qGb, qGc, qSa, qSb, qSc]
        refine tk (i := 6) (v := ?vt96) rfl (by kernel_rfl) (fun _ _ _ h => h) (Or.inl ⟨by rfl, ?hyt96⟩) (by assumption) ?rt96
        case hyt96 => (intro w hSw; (try dsimp only at hSw); go_simp; try with_reducible rfl)
        try simp only [Act.put, qGa, qGb, qGc, qSa, qSb, qSc]
        refine tk (i := 7) (v := ?vt97) rfl (by kernel_rfl) (fun _ _ _ h => h) (Or.inl ⟨by rfl, ?hyt97⟩) (by assumption) ?rt97
        case hyt97 => (intro w hSw; (try dsimp only at hSw); go_simp; try with_reducible rfl)
        try simp only [Act.put, qGa, qGb, qGc, qSa, qSb, qSc]
        refine wpAnyH_ready (rs := [8]) (by kernel_rfl) (by simp) ?_
        refine AllReadyH.cons rfl (fun K10 hK10 => ?_) AllReadyH.nil
        have z0 := hv3.cell 0; have z1 := hv3.cell 1
        have y0 := hv3.frozen 0; have y1 := hv3.frozen 1
        have hvZ := Blk.set2 hv3 (.slice a3 nds2.length c3) (.slice b3 fl2.length e3)
        have hOZ := Only.set2 gv w3 (.slice a3 nds2.length c3) (.slice b3 fl2.length e3)
        have hrZ := hr3.keeps hOZ.keeps hgrv
        have hbZ := (Below.refl w.heap.size w3).set2 hgvw (.slice a3 nds2.length c3) (.slice b3 fl2.length e3)
        have hkZ := hkw3.then_below hbZ
        have hdZ := hd3.below' hbZ hg
        replace q1 := OwnNds.mono (OwnNds.off q1 hv3 hOZ.keeps (by decide) (by decide) (by decide) (by decide)) hsw
        replace q2 := OwnRows.mono (OwnRows.off q2 hv3 hOZ.keeps (by decide) (by decide)) hsw
        go_simp
        refine hK10.out _ _ trivial (fun hHeld => ?_)
        clear hK10 K10
        try simp only [Act.put, qGa, qGb, qGc, qSa, qSb, qSc]
        refine wpAnyH_done (by kernel_rfl) ?_ _
        obtain ⟨WZ, hWZ⟩ : ∃ x, x = (w3.setCell ⟨gv, 0, none⟩ (.slice a3 nds2.length c3)).setCell ⟨gv, 1, none⟩ (.slice b3 fl2.length e3) := ⟨_, rfl⟩
        rw [← hWZ] at q1 q2 hvZ hrZ hkZ hdZ ⊢
        clear hWZ hOZ hbZ z0 z1 y0 y1
        go_wp2_with fail
        go_roundw
        case rel => exact ⟨k, by omega, by go_num, nds2, fl2, _, _, _, _, hvZ, q1, q2, hgood2, hrZ, hkZ, hdZ⟩
        case measure => simp [intOf]
      · have zl0 := hv0.cell 0; have zl1 := hv0.cell 1
        go_simp
        refine hK2.out _ _ trivial (fun hHeld => ?_)
        clear hK2 K2 zl0 zl1
        try simp only [Act.put, qGa, qGb, qGc, qSa, qSb, qSc]
        refine wpAnyH_ready (rs := [0, 3]) (by kernel_rfl) (by simp) ?_
        refine AllReadyH.cons rfl (fun K13 hK13 => ?_) (AllReadyH.cons rfl (fun K14 hK14 => ?_) AllReadyH.nil)
        · have zl0 := hv0.cell 0; have zl1 := hv0.cell 1
          go_simp
          refine hK13.out _ _ trivial (fun hHeld => ?_)
          clear hK13 K13 zl0 zl1
          try simp only [Act.put, qGa, qGb, qGc, qSa, qSb, qSc]
          refine wpAnyH_ready (rs := [3]) (by kernel_rfl) (by simp) ?_
          refine AllReadyH.cons rfl (fun K16 hK16 => ?_) AllReadyH.nil
          go_simp
          refine (l16DrawStep_any B g W0 an af nds.length cn fl.length cf hd0 hgood.one (by have := hgood.four; omega) (by have := hgood.few; omega)).mono ?_
          rintro e w2 ⟨sk, dk, dn, dt, dm, sa, sb, sc, rfl, -, -, -, -, -, -, -, -, hk2, hd2⟩
          have hv2 := hv0.keeps hk2 hgvg
          have hr2 := hr0.keeps hk2 hgrg
          have hkw2 := hkw0.trans hk2
          go_wp2_with fail
          refine hK16.out _ _ trivial (fun hHeld => ?_)
          clear hK16 K16
          try simp only [Act.put, qGa, qGb, qGc, qSa, qSb, qSc]
          refine wpAnyH_ready (rs := [4]) (by kernel_rfl) (by simp) ?_
          refine AllReadyH.cons rfl (fun K18 hK18 => ?_) AllReadyH.nil
          have hn2 := hn0.keeps hk2 hg
          have hf2 := hf0.keeps hk2 hg
          obtain ⟨an2, cn2, he1, hnr, -⟩ := hn2.nds hgood.allN
          cases he1
          obtain ⟨af2, cf2, he2, hfr, -⟩ := hf2.rows hgood.allR
          cases he2
          have hmv := l16Moved_any w2.heap.size an cn nds af cf fl ⟨sk, dk, dn, dt, dm, sa, sb, sc⟩ w2 hnr hfr (Nat.le_refl _) hgood
          have hgood2 := moved_good hgood ⟨sk, dk, dn, dt, dm, sa, sb, sc⟩
          obtain ⟨r, hr⟩ : ∃ r, moved nds fl ⟨sk, dk, dn, dt, dm, sa, sb, sc⟩ = r := ⟨_, rfl⟩
          rw [hr] at hmv hgood2
          clear hr hnr hfr
          obtain ⟨⟨nds2, fl2⟩, is2⟩ := r
          dsimp only at hmv hgood2
          go_simp
          refine hmv.mono ?_
          rintro e w3 ⟨v, rfl, ⟨nv3, fv3, rfl, q1, q2⟩, hb3, -⟩
          obtain ⟨a3, c3, rfl⟩ := q1.slice
          obtain ⟨b3, e3, rfl⟩ := q2.slice
          have hv3 := hv2.below hb3 hv2.lt
          have hr3 := hr2.below hb3 hr2.lt
          have hkw3 := hkw2.then_below (hb3.mono hkw2.size)
          have hd3 := hd2.below hb3
          have hsw := hkw2.size
          go_wp2_with fail
          refine hK18.out _ _ trivial (fun hHeld => ?_)
          clear hK18 K18
          try simp only [Act.put, qGa, qGb, qGc, qSa, qSb, qSc]
          refine tk (i := 5) (v := ?vt195) rfl (by kernel_rfl) (fun _ _ _ h => h) (Or.inl ⟨by rfl, ?hyt195⟩) (by assumption) ?rt195
          case hyt195 => (intro w hSw; (try dsimp only at hSw); go_simp; try with_reducible rfl)
          try simp only [Act.put, qGa, qGb, qGc, qSa, qSb, qSc]
          refine tk (i := 6) (v := ?vt196) rfl (by kernel_rfl) (fun _ _ _ h => h) (Or.inl ⟨by rfl, ?hyt196⟩) (by assumption) ?rt196
          case hyt196 => (intro w hSw; (try dsimp only at hSw); go_simp; try with_reducible rfl)
          try simp only [Act.put, qGa, qGb, qGc, qSa, qSb, qSc]
          refine tk (i := 7) (v := ?vt197) rfl (by kernel_rfl) (fun _ _ _ h => h) (Or.inl ⟨by rfl, ?hyt197⟩) (by assumption) ?rt197
          case hyt197 => (intro w hSw; (try dsimp only at hSw); go_simp; try with_reducible rfl)
          try simp only [Act.put, qGa, qGb, qGc, qSa, qSb, qSc]
          refine wpAnyH_ready (rs := [8]) (by kernel_rfl) (by simp) ?_
          refine AllReadyH.cons rfl (fun K20 hK20 => ?_) AllReadyH.nil
          have z0 := hv3.cell 0; have z1 := hv3.cell 1
          have y0 := hv3.frozen 0; have y1 := hv3.frozen 1
          have hvZ := Blk.set2 hv3 (.slice a3 nds2.length c3) (.slice b3 fl2.length e3)
          have hOZ := Only.set2 gv w3 (.slice a3 nds2.length c3) (.slice b3 fl2.length e3)
          have hrZ := hr3.keeps hOZ.keeps hgrv
          have hbZ := (Below.refl w.heap.size w3).set2 hgvw (.slice a3 nds2.length c3) (.slice b3 fl2.length e3)
          have hkZ := hkw3.then_below hbZ
          have hdZ := hd3.below' hbZ hg
          replace q1 := OwnNds.mono (OwnNds.off q1 hv3 hOZ.keeps (by decide) (by decide) (by decide) (by decide)) hsw
          replace q2 := OwnRows.mono (OwnRows.off q2 hv3 hOZ.keeps (by decide) (by decide)) hsw
          go_simp
          refine hK20.out _ _ trivial (fun hHeld => ?_)
          clear hK20 K20
          try simp only [Act.put, qGa, qGb, qGc, qSa, qSb, qSc]
          refine wpAnyH_done (by kernel_rfl) ?_ _
          obtain ⟨WZ, hWZ⟩ : ∃ x, x = (w3.setCell ⟨gv, 0, none⟩ (.slice a3 nds2.length c3)).setCell ⟨gv, 1, none⟩ (.slice b3 fl2.length e3) := ⟨_, rfl⟩
          rw [← hWZ] at q1 q2 hvZ hrZ hkZ hdZ ⊢
          clear hWZ hOZ hbZ z0 z1 y0 y1
          go_wp2_with fail
          go_roundw
          case rel => exact ⟨k, by omega, by go_num, nds2, fl2, _, _, _, _, hvZ, q1, q2, hgood2, hrZ, hkZ, hdZ⟩
          case measure => simp [intOf]
        · go_simp
          refine (l16DrawStep_any B g W0 an af nds.length cn fl.length cf hd0 hgood.one (by have := hgood.four; omega) (by have := hgood.few; omega)).mono ?_
          rintro e w2 ⟨sk, dk, dn, dt, dm, sa, sb, sc, rfl, -, -, -, -, -, -, -, -, hk2, hd2⟩
          have hv2 := hv0.keeps hk2 hgvg
          have hr2 := hr0.keeps hk2 hgrg
          have hkw2 := hkw0.trans hk2
          go_wp2_with fail
          refine hK14.out _ _ trivial (fun hHeld => ?_)
          clear hK14 K14
          try simp only [Act.put, qGa, qGb, qGc, qSa, qSb, qSc]
          refine wpAnyH_ready (rs := [0]) (by kernel_rfl) (by simp) ?_
          refine AllReadyH.cons rfl (fun K23 hK23 => ?_) AllReadyH.nil
          have zl0 := hv2.cell 0; have zl1 := hv2.cell 1
          go_simp
          refine hK23.out _ _ trivial (fun hHeld => ?_)
          clear hK23 K23 zl0 zl1
          try simp only [Act.put, qGa, qGb, qGc, qSa, qSb, qSc]
          refine wpAnyH_ready (rs := [4]) (by kernel_rfl) (by simp) ?_
          refine AllReadyH.cons rfl (fun K25 hK25 => ?_) AllReadyH.nil
          have hn2 := hn0.keeps hk2 hg
          have hf2 := hf0.keeps hk2 hg
          obtain ⟨an2, cn2, he1, hnr, -⟩ := hn2.nds hgood.allN
          cases he1
          obtain ⟨af2, cf2, he2, hfr, -⟩ := hf2.rows hgood.allR
          cases he2
          have hmv := l16Moved_any w2.heap.size an cn nds af cf fl ⟨sk, dk, dn, dt, dm, sa, sb, sc⟩ w2 hnr hfr (Nat.le_refl _) hgood
          have hgood2 := moved_good hgood ⟨sk, dk, dn, dt, dm, sa, sb, sc⟩
          obtain ⟨r, hr⟩ : ∃ r, moved nds fl ⟨sk, dk, dn, dt, dm, sa, sb, sc⟩ = r := ⟨_, rfl⟩
          rw [hr] at hmv hgood2
          clear hr hnr hfr
          obtain ⟨⟨nds2, fl2⟩, is2⟩ := r
          dsimp only at hmv hgood2
          go_simp
          refine hmv.mono ?_
          rintro e w3 ⟨v, rfl, ⟨nv3, fv3, rfl, q1, q2⟩, hb3, -⟩
          obtain ⟨a3, c3, rfl⟩ := q1.slice
          obtain ⟨b3, e3, rfl⟩ := q2.slice
          have hv3 := hv2.below hb3 hv2.lt
          have hr3 := hr2.below hb3 hr2.lt
          have hkw3 := hkw2.then_below (hb3.mono hkw2.size)
          have hd3 := hd2.below hb3
          have hsw := hkw2.size
          go_wp2_with fail
          refine hK25.out _ _ trivial (fun hHeld => ?_)
          clear hK25 K25
          try simp only [Act.put, qGa, qGb, qGc, qSa, qSb, qSc]
          refine tk (i := 5) (v := ?vt265) rfl (by kernel_rfl) (fun _ _ _ h => h) (Or.inl ⟨by rfl, ?hyt265⟩) (by assumption) ?rt265
          case hyt265 => (intro w hSw; (try dsimp only at hSw); go_simp; try with_reducible rfl)
          try simp only [Act.put, qGa, qGb, qGc, qSa, qSb, qSc]
          refine tk (i := 6) (v := ?vt266) rfl (by kernel_rfl) (fun _ _ _ h => h) (Or.inl ⟨by rfl, ?hyt266⟩) (by assumption) ?rt266
          case hyt266 => (intro w hSw; (try dsimp only at hSw); go_simp; try with_reducible rfl)
          try simp only [Act.put, qGa, qGb, qGc, qSa, qSb, qSc]
          refine tk (i := 7) (v := ?vt267) rfl (by kernel_rfl) (fun _ _ _ h => h) (Or.inl ⟨by rfl, ?hyt267⟩) (by assumption) ?rt267
          case hyt267 => (intro w hSw; (try dsimp only at hSw); go_simp; try with_reducible rfl)
          try simp only [Act.put, qGa, qGb, qGc, qSa, qSb, qSc]
          refine wpAnyH_ready (rs := [8]) (by kernel_rfl) (by simp) ?_
          refine AllReadyH.cons rfl (fun K27 hK27 => ?_) AllReadyH.nil
          have z0 := hv3.cell 0; have z1 := hv3.cell 1
          have y0 := hv3.frozen 0; have y1 := hv3.frozen 1
          have hvZ := Blk.set2 hv3 (.slice a3 nds2.length c3) (.slice b3 fl2.length e3)
          have hOZ := Only.set2 gv w3 (.slice a3 nds2.length c3) (.slice b3 fl2.length e3)
          have hrZ := hr3.keeps hOZ.keeps hgrv
          have hbZ := (Below.refl w.heap.size w3).set2 hgvw (.slice a3 nds2.length c3) (.slice b3 fl2.length e3)
          have hkZ := hkw3.then_below hbZ
          have hdZ := hd3.below' hbZ hg
          replace q1 := OwnNds.mono (OwnNds.off q1 hv3 hOZ.keeps (by decide) (by decide) (by decide) (by decide)) hsw
          replace q2 := OwnRows.mono (OwnRows.off q2 hv3 hOZ.keeps (by decide) (by decide)) hsw
          go_simp
          refine hK27.out _ _ trivial (fun hHeld => ?_)
          clear hK27 K27
          try simp only [Act.put, qGa, qGb, qGc, qSa, qSb, qSc]
          refine wpAnyH_done (by kernel_rfl) ?_ _
          obtain ⟨WZ, hWZ⟩ : ∃ x, x = (w3.setCell ⟨gv, 0, none⟩ (.slice a3 nds2.length c3)).setCell ⟨gv, 1, none⟩ (.slice b3 fl2.length e3) := ⟨_, rfl⟩
          rw [← hWZ] at q1 q2 hvZ hrZ hkZ hdZ ⊢
          clear hWZ hOZ hbZ z0 z1 y0 y1
          go_wp2_with fail
          go_roundw
          case rel => exact ⟨k, by omega, by go_num, nds2, fl2, _, _, _, _, hvZ, q1, q2, hgood2, hrZ, hkZ, hdZ⟩
          case measure => simp [intOf]
    · have ek : k = 0 := by omega
      subst ek
      have o0 := hv.cell 0; have o1 := hv.cell 1
      have z0 := hr.cell 0; have z1 := hr.cell 1
      have y0 := hr.frozen 0; have y1 := hr.frozen 1
      have hZ := Blk.set2 hr (.slice an nds.length cn) (.slice af fl.length cf)
      have hBZ := (Below.refl w.heap.size wr).set2 hgrw (.slice an nds.length cn) (.slice af fl.length cf)
      have hOZ := Only.set2 gr wr (.slice an nds.length cn) (.slice af fl.length cf)
      have p0 := hZ.cell 0; have p1 := hZ.cell 1
      have HQ1 := Lib.hid (OwnNds.off hn hr hOZ.keeps (by decide) (by decide) (by decide) (by decide))
      have HQ2 := Lib.hid (OwnRows.off hf hr hOZ.keeps (by decide) (by decide))
      have HK := Lib.hid (hk.then_below hBZ); have HD := Lib.hid (hd.below' hBZ hg)
      clear hBZ hZ hOZ hn hf
      go_wp2_with fail
      refine bodyPost_ret (v := .agg #[.slice an nds.length cn, .slice af fl.length cf]) (by simp [results, Tryz.results29, go_sem, p0, p1]) rfl ?_
      exact ⟨nds, fl, _, rfl, ⟨_, _, rfl, HQ1.out, HQ2.out⟩, hgood, HK.out, HD.out⟩
def withR (es : List Ent) (x : Ent) : Option (List Ent) := if bookOk es = true ∧ x.ok = true ∧ bookOk (putE es x) = true then some (putE es x) else none
theorem withR_no {es : List Ent} {x : Ent} (h : bookOk es = false ∨ x.ok = false ∨ bookOk (putE es x) = false) : withR es x = none := by
  rw [withR, if_neg]
  rintro ⟨h1, h2, h3⟩
  rcases h with h | h | h
  · rw [h1] at h; cases h
  · rw [h2] at h; cases h
  · rw [h3] at h; cases h
theorem withR_yes {es : List Ent} {x : Ent} (h1 : bookOk es = true) (h2 : x.ok = true) (h3 : bookOk (putE es x) = true) : withR es x = some (putE es x) := by
  rw [withR, if_pos ⟨h1, h2, h3⟩]
set_option maxHeartbeats 1000000 in
set_option maxRecDepth 100000 in
theorem specWith_any (B : Nat) (ao : Option Addr) (n cap : Nat) (es : List Ent) (x : Ent) (w : World) (hx : Ents B w ao n cap es) (hz : ao = none → cap = 0) (hB : B ≤ w.heap.size) (hxw : x.wf) :
    Calls Tryz.prog 60 #[.slice ao n cap, .agg #[.int .i64 x.o, .int .i64 x.s, .int .i64 x.a, .int .i64 x.d]] w (MaybeEs (withR es x) w) := by
  have hbx : Below w.heap.size w (w.alloc (.cells #[.int .i64 x.o, .int .i64 x.s, .int .i64 x.a, .int .i64 x.d] 47)) := (Below.refl _ _).alloc (Nat.le_refl _) _
  have hblk : Blk (w.alloc (.cells #[.int .i64 x.o, .int .i64 x.s, .int .i64 x.a, .int .i64 x.d] 47)) w.heap.size 47 #[.int .i64 x.o, .int .i64 x.s, .int .i64 x.a, .int .i64 x.d] := Blk.new _ _ _
  have hlt0 := hblk.lt
  have hx0 := hx.below hbx hB hB
  have hsz0 := hbx.size
  have h1 := specBookOk_any w.heap.size ao n cap es _ hx0 hsz0
  have h2 := fun w => specEntryOk_any x.o x.s x.a x.d w
  have hkE : entryOk x.o x.s x.a x.d = x.ok := rfl
  rw [hkE] at h2
  have hno : bookOk es = false ∨ x.ok = false ∨ bookOk (putE es x) = false → withR es x = none := withR_no
  have hyes : bookOk es = true → x.ok = true → bookOk (putE es x) = true → withR es x = some (putE es x) := withR_yes
  have hlen : bookOk es = true → n ≤ 20 := fun h => by have := book_len h; have := hx.hlen; omega
  have hpw := put_wf hx.wf hxw
  have hpl := put_len es x
  clear hkE
  generalize withR es x = r at hno hyes
  generalize bookOk es = b1 at h1 hno hyes hlen
  generalize x.ok = b2 at h2 hno hyes
  have HN := Lib.hid hno; have HY := Lib.hid hyes; have HL := Lib.hid hlen; clear hno hyes hlen
  generalize hwb : w.alloc (.cells #[.int .i64 x.o, .int .i64 x.s, .int .i64 x.a, .int .i64 x.d] 47) = wb at hbx hblk hlt0 hx0 hsz0 h1
  go_enter Tryz.func60, Tryz.ntmps60
  go_wp2_with fail
  refine h1.mono ?_
  rintro e w1 ⟨rfl, hb1⟩
  have hB1 := hbx.trans (hb1.mono hsz0)
  rcases b1 with _ | _
  · go_wp2_with fail
    go_ret2
    exact maybe_none (HN.out (.inl (by first | rfl | trivial))) hB1
  · have hn20 : n ≤ 20 := HL.out (by first | rfl | trivial)
    have hblk1 := hblk.below hb1 hlt0
    have p0 := hblk1.cell 0; have p1 := hblk1.cell 1; have p2 := hblk1.cell 2; have p3 := hblk1.cell 3
    go_wp2_with fail
    refine (h2 _).mono ?_
    rintro e w2 ⟨rfl, hb2⟩
    have hB2 := hB1.trans (hb2.mono hB1.size)
    rcases b2 with _ | _
    · go_wp2_with fail
      go_ret2
      exact maybe_none (HN.out (.inr (.inl (by first | rfl | trivial)))) hB2
    · have hblk2 := hblk1.below hb2 hblk1.lt
      clear p0 p1 p2 p3
      have p0 := hblk2.cell 0; have p1 := hblk2.cell 1; have p2 := hblk2.cell 2; have p3 := hblk2.cell 3
      have hx2 := hx.below hB2 hB hB
      have hs2 := hB2.size
      go_wp2_with fail
      refine (l4With_any w.heap.size ao n cap es x _ hx2 hz hs2 (by omega)).mono ?_
      rintro e w3 ⟨v3, rfl, hown3, hb3⟩
      have hB3 := hB2.trans (hb3.mono hs2)
      have hown3k := hown3
      obtain ⟨a3, c3, rfl, hi3, -⟩ := hown3.ents hpw
      have h3 := specBookOk_any _ _ _ _ _ _ hi3 (Nat.le_refl _)
      clear p0 p1 p2 p3 hown3 hx2 hblk2 hblk1 hblk
      have hno3 : bookOk (putE es x) = false → r = none := fun h => HN.out (.inr (.inr h))
      have hyes3 : bookOk (putE es x) = true → r = some (putE es x) := fun h => HY.out (by first | rfl | trivial) (by first | rfl | trivial) h
      clear HN HY HL
      generalize bookOk (putE es x) = b3 at h3 hno3 hyes3
      have HN3 := Lib.hid hno3; have HY3 := Lib.hid hyes3; clear hno3 hyes3
      go_wp2_with fail
      refine h3.mono ?_
      rintro e w4 ⟨rfl, hb4⟩
      have hB4 := hB3.trans (hb4.mono hB3.size)
      rcases b3 with _ | _
      · go_wp2_with fail
        go_ret2
        exact maybe_none (HN3.out (by first | rfl | trivial)) hB4
      · have hr : r = some (putE es x) := HY3.out (by first | rfl | trivial)
        have HR := Lib.hid hr; clear hr
        go_wp2_with fail
        go_ret2
        rw [HR.out]
        exact ⟨_, rfl, (hown3k.below hb4 (Nat.le_refl _)).mono hs2, hB4⟩
theorem flatE_set (es : List Ent) (j : Nat) (e : Ent) (hj : j < es.length) :
    ((((flatE es).set (j * 4) (.int .i64 e.o)).set (j * 4 + 1) (.int .i64 e.s)).set (j * 4 + 2) (.int .i64 e.a)).set (j * 4 + 3) (.int .i64 e.d) = flatE (es.set j e) := by
  induction es generalizing j with
  | nil => simp at hj
  | cons x r ih =>
    have hc : ∀ y : Ent, ∀ l, flatE (y :: l) = .int .i64 y.o :: .int .i64 y.s :: .int .i64 y.a :: .int .i64 y.d :: flatE l := fun y l => by simp [flatE, Ent.cells]
    cases j with
    | zero => rw [List.set_cons_zero, hc, hc]; rfl
    | succ j =>
      have h2 := ih j (by simpa using hj)
      rw [List.set_cons_succ, hc, hc, ← h2]
      have e1 : (j + 1) * 4 = j * 4 + 1 + 1 + 1 + 1 := by omega
      rw [e1]
      rfl
theorem OwnE.store {base : Nat} {w : World} {g n cap : Nat} {es : List Ent} (h : w.ownsRow base 47 4 (.slice (some ⟨g, 0, none⟩) n cap) n (flatE es)) (hn : es.length = n) (j : Nat) (hj : j < n) (e : Ent) :
    ((((w.setCell ⟨g, j * 4, none⟩ (.int .i64 e.o)).setCell ⟨g, j * 4 + 1, none⟩ (.int .i64 e.s)).setCell ⟨g, j * 4 + 2, none⟩ (.int .i64 e.a)).setCell ⟨g, j * 4 + 3, none⟩ (.int .i64 e.d)).ownsRow base 47 4 (.slice (some ⟨g, 0, none⟩) n cap) n (flatE (es.set j e)) := by
  have h1 := (h.stored (j * 4) (.int .i64 e.o)).1
  have h2 := (h1.stored (j * 4 + 1) (.int .i64 e.s)).1
  have h3 := (h2.stored (j * 4 + 2) (.int .i64 e.a)).1
  have h4 := (h3.stored (j * 4 + 3) (.int .i64 e.d)).1
  rw [flatE_set es j e (by omega)] at h4
  exact h4
theorem OwnE.ent4 {base : Nat} {w : World} {g n cap : Nat} {es : List Ent} (h : w.ownsRow base 47 4 (.slice (some ⟨g, 0, none⟩) n cap) n (flatE es)) (hn : es.length = n) (j : Nat) (hj : j < n) : Ent4 w g (j * 4) (E es j) := by
  have hc : ∀ k, k < 4 → w.cell? ⟨g, j * 4 + k, none⟩ = (E es j).cells[k]? := fun k hk => by
    rw [h.cellAt (j * 4 + k) (by omega), flatE_get es j k (by omega) hk]
  exact ⟨hc 0 (by omega), hc 1 (by omega), hc 2 (by omega), hc 3 (by omega)⟩
end Go.Proofs.YtoniahfdjhhalaaGreat
