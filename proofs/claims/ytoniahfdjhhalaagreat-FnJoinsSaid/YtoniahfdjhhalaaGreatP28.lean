/- Texts of this claim, put together. -/
import Derived.Test.YtoniahfdjhhalaaGreatP1
import Derived.Test.YtoniahfdjhhalaaGreatP27

namespace Go.Proofs.YtoniahfdjhhalaaGreat
open Go.RowKit
def sent (fl : List (List Int)) (x : List Int) : List (List Int) := if 30 ≤ fl.length then fl else fl ++ [x]
theorem sent_full {fl : List (List Int)} {x : List Int} (h : ¬ fl.length < 30) : sent fl x = fl := if_pos (by omega)
theorem sent_room {fl : List (List Int)} {x : List Int} (h : fl.length < 30) : sent fl x = fl ++ [x] := if_neg (by omega)
def NetSaid (B0 B : Nat) (nds : List Nd) (fl : List (List Int)) (is : Bool) (w : World) (e : Ending) (w' : World) : Prop := ∃ v, e = .returned (.tuple #[v, .bool is]) ∧ NetT B0 nds fl w' v ∧ Below B w w' ∧ KeepNet w w'
set_option linter.unusedSimpArgs false in
set_option maxHeartbeats 4000000 in
set_option maxRecDepth 100000 in
theorem l16Send_any (base mid B : Nat) (nds : List Nd) (fl : List (List Int)) (nv fv : Value) (bo : Option Addr) (nb cb : Nat) (xs : List Int) (w : World) (hN : NetOwn base mid nds fl w nv fv) (hall : AllN nds) (hfl : AllR fl) (hx : Ints B w bo nb cb xs) (hB : B ≤ w.heap.size) (hz : bo = none → cb = 0) (hnb : nb ≤ 1048576) :
    Calls Tryz.prog 55 #[.agg #[nv, fv], .slice bo nb cb] w (NetSaid base mid nds (sent fl xs) (decide (fl.length < 30)) w) := by
  have hm := hN.size
  have hxw : AllI64 xs := hx.wf
  have hfx : AllR (fl ++ [xs]) := fun r hr => by
    rcases List.mem_append.1 hr with h | h
    · exact hfl r h
    · rw [List.mem_singleton.1 h]; exact hxw
  obtain ⟨an, cn, hnv, -, -⟩ := hN.nodes.own.nds hall
  obtain ⟨af, cf, hfv, hrw, -⟩ := hN.letters.own.rows hfl
  have hfm := hrw.hmax; have hfc := hrw.hcap
  unfold maxLen at hfm
  obtain ⟨wb, hwb⟩ : ∃ wb, wb = (w.alloc (.cells #[nv, fv] 33)).alloc (.cells #[.slice none 0 0, .slice none 0 0] 33) := ⟨_, rfl⟩
  obtain ⟨gn, hgn0⟩ : ∃ g, g = w.heap.size := ⟨_, rfl⟩
  obtain ⟨gr, hgr0⟩ : ∃ gr, gr = w.heap.size + 1 := ⟨_, rfl⟩
  have hnet : Blk wb gn 33 #[nv, fv] := by rw [hwb, hgn0]; exact (Blk.new _ _ _).alloc _
  have hres : Blk wb gr 33 #[.slice none 0 0, .slice none 0 0] := by
    rw [hwb, hgr0]
    have h := Blk.new (w.alloc (.cells #[nv, fv] 33)) 33 #[.slice none 0 0, .slice none 0 0]
    simpa using h
  have hb0 : Below w.heap.size w wb := by rw [hwb]; exact ((Below.refl _ _).alloc (Nat.le_refl _) _).alloc (by simp) _
  have hgn : mid ≤ gn := by omega
  have hgr : mid ≤ gr := by omega
  have hgnw : w.heap.size ≤ gn := by omega
  have hgrw : w.heap.size ≤ gr := by omega
  have hne : gr ≠ gn := by omega
  have hs0 := hb0.size
  have hmb : mid ≤ wb.heap.size := by omega
  have hlet := hN.letters.below hb0 (Nat.le_refl _)
  have hnod := hN.nodes.below hb0 (Nat.le_refl _)
  have hcopy : ∀ w', Below wb.heap.size wb w' → Calls Tryz.prog 74 #[.slice bo nb cb] w' (NewInts xs w') := fun w' h => l1Copy_any B bo nb cb xs w' ((hx.below hb0 hB (Nat.le_refl B)).below h (by omega) (Nat.le_refl B)) (by have := h.size; omega) hz (by omega)
  subst hnv hfv
  go_enter Tryz.func55, Tryz.ntmps55
  have d0 := hnet.cell 0; have d1 := hnet.cell 1
  by_cases hlt : fl.length < 30
  · rw [sent_room hlt, decide_eq_true hlt]
    have i1 : ¬ (30 : Int) ≤ (fl.length : Int) := by omega
    go_upto_region 1 with fail
    rw [← hwb, ← hgr0, ← hgn0]
    clear hwb hgr0 hgn0 hrw hx
    go_upto_region 3 with fail
    clear d0 d1
    refine wp_region_held_drew (S := (fun _ => True)) (by kernel_rfl) trivial (fun hHeld => ?_)
    obtain ⟨W0, hW0⟩ : ∃ x, x = wb.drew := ⟨_, rfl⟩
    have hbW : Below wb.heap.size wb W0 := by rw [hW0]; exact (Below.refl _ _).drew
    rw [← hW0]
    clear hW0
    have hnet0 := hnet.below hbW hnet.lt
    have hres0 := hres.below hbW hres.lt
    have hlet0 := hlet.below hbW (Nat.le_refl _)
    have hnod0 := hnod.below hbW (Nat.le_refl _)
    have hm0 : mid ≤ W0.heap.size := Nat.le_trans hmb hbW.size
    have HL1 := Lib.hid (hcopy W0 hbW)
    have hbm : Below mid w W0 := (hb0.mono hm).trans (hbW.mono hmb)
    clear hcopy hnet hres hlet hnod
    refine tk (i := 0) (v := ?vs0) rfl (by kernel_rfl) (fun _ _ _ h => h) (Or.inl ⟨by rfl, ?hys0⟩) (by assumption) ?rs0
    case hys0 => (intro w hSw; (try dsimp only at hSw); go_simp; try with_reducible rfl)
    try simp only [Act.put, qGa, qGb, qGc, qSa, qSb, qSc]
    refine tk (i := 2) (v := ?vs2) rfl (by kernel_rfl) (fun _ _ _ h => h) (Or.inl ⟨by rfl, ?hys2⟩) (by assumption) ?rs2
    case hys2 => (intro w hSw; (try dsimp only at hSw); go_simp; try with_reducible rfl)
    try simp only [Act.put, qGa, qGb, qGc, qSa, qSb, qSc]
    refine wpAnyH_ready (rs := [1, 3]) (by kernel_rfl) (by simp) ?_
    refine AllReadyH.cons rfl (fun K1 hK1 => ?_) (AllReadyH.cons rfl (fun K2 hK2 => ?_) AllReadyH.nil)
    · have zl := hnet0.cell 1
      go_simp
      refine hK1.out _ _ trivial (fun hHeld => ?_)
      clear hK1 K1 zl
      try simp only [Act.put, qGa, qGb, qGc, qSa, qSb, qSc]
      refine wpAnyH_ready (rs := [3]) (by kernel_rfl) (by simp) ?_
      refine AllReadyH.cons rfl (fun K3 hK3 => ?_) AllReadyH.nil
      go_simp
      refine HL1.out.mono ?_
      rintro e w2 ⟨v2, rfl, hn2, hb2⟩
      have hn2k := hn2
      obtain ⟨a3, c3, rfl, -⟩ := hn2.ints hxw
      have hnet2 := hnet0.below hb2 hnet0.lt
      go_wp2_with fail
      refine hK3.out _ _ trivial (fun hHeld => ?_)
      clear hK3 K3
      try simp only [Act.put, qGa, qGb, qGc, qSa, qSb, qSc]
      refine wpAnyH_ready (rs := [4]) (by kernel_rfl) (by simp) ?_
      refine AllReadyH.cons rfl (fun K4 hK4 => ?_) AllReadyH.nil
      obtain ⟨W3, hW3⟩ : ∃ x, x = w2.alloc (.cells #[.slice a3 xs.length c3] 78) := ⟨_, rfl⟩
      have hnet3 : Blk W3 gn 33 #[(.slice an nds.length cn), (.slice af fl.length cf)] := by rw [hW3]; exact hnet2.alloc _
      have HW3 := Lib.hid hW3; clear hW3
      go_simp
      rw [← HW3.out]
      refine hK4.out _ _ trivial (fun hHeld => ?_)
      clear hK4 K4
      try simp only [Act.put, qGa, qGb, qGc, qSa, qSb, qSc]
      refine wpAnyH_ready (rs := [5]) (by kernel_rfl) (by simp) ?_
      refine AllReadyH.cons rfl (fun K5 hK5 => ?_) AllReadyH.nil
      rw [HW3.out]
      refine stepR_one (w := w2) (.slice a3 xs.length c3) xs rfl _ _ rfl mid (.slice af fl.length cf) fl rfl rfl (hlet0.own.below hb2 (Nat.le_refl _)) (hn2k.mono hm0) hxw (Nat.le_trans hm0 hb2.size) (by omega) ?_
      intro v4 w4 hor4 hb4 haside
      have hnet4 := haside.blk gn _ _ (by decide) hnet2
      have hres4 := haside.blk gr _ _ (by decide) (hres0.below hb2 hres0.lt)
      have hb04 := (hb2.mono hm0).trans hb4
      have hkn4 : KeepNet w w4 := ((KeepNet.of_below hb0).trans (KeepNet.of_below hbW)).trans ((KeepNet.of_below hb2).trans (fun g t cs ht h => haside.blk g t cs (by rcases ht with rfl | rfl <;> decide) h))
      have hnod4 := (hnod0.lower hb04 (Nat.le_refl _)).own
      have hor4k := hor4
      obtain ⟨a4, c4, rfl, -⟩ := hor4.rows hfx
      obtain ⟨n4, hn4⟩ : ∃ n4, (fl ++ [xs]).length = n4 := ⟨_, rfl⟩
      rw [hn4] at hor4k ⊢
      clear hn4
      refine hK5.out _ _ trivial (fun hHeld => ?_)
      clear hK5 K5 HW3 hnet3
      try simp only [Act.put, qGa, qGb, qGc, qSa, qSb, qSc]
      refine tk (i := 6) (v := ?vp56) rfl (by kernel_rfl) (fun _ _ _ h => h) (Or.inl ⟨by rfl, ?hyp56⟩) (by assumption) ?rp56
      case hyp56 => (intro w hSw; (try dsimp only at hSw); go_simp; try with_reducible rfl)
      try simp only [Act.put, qGa, qGb, qGc, qSa, qSb, qSc]
      refine wpAnyH_ready (rs := [7]) (by kernel_rfl) (by simp) ?_
      refine AllReadyH.cons rfl (fun K6 hK6 => ?_) AllReadyH.nil
      have zs := hnet4.cell 1
      have fs := hnet4.frozen 1
      have hnet5 : Blk (w4.setCell ⟨gn, 1, none⟩ (.slice a4 n4 c4)) gn 33 #[(.slice an nds.length cn), .slice a4 n4 c4] := by
        have h := hnet4.set_ 1 (.slice a4 n4 c4)
        simpa using h
      have hO5 := (Only.refl gn w4).setCell 1 (.slice a4 n4 c4)
      have hb5 := hb04.setCell (p := ⟨gn, 1, none⟩) hgn (.slice a4 n4 c4)
      have hnod5 := OwnNds.off hnod4 hnet4 hO5.keeps (by decide) (by decide) (by decide) (by decide)
      have hor5 := OwnRows.off hor4k hnet4 hO5.keeps (by decide) (by decide)
      have hres5 := hres4.keeps hO5.keeps hne
      go_simp
      refine hK6.out _ _ trivial (fun hHeld => ?_)
      clear hK6 K6
      try simp only [Act.put, qGa, qGb, qGc, qSa, qSb, qSc]
      refine wpAnyH_done (by kernel_rfl) ?_ _
      obtain ⟨W5, hW5⟩ : ∃ x, x = w4.setCell ⟨gn, 1, none⟩ (.slice a4 n4 c4) := ⟨_, rfl⟩
      have hkn5 := hkn4.set_ (p := ⟨gn, 1, none⟩) (by show w.heap.size ≤ gn; omega) (.slice a4 n4 c4)
      rw [← hW5] at hnet5 hnod5 hor5 hres5 hb5 hkn5 ⊢
      clear hW5 zs fs hO5
      have o0 := hnet5.cell 0; have o1 := hnet5.cell 1
      have z0 := hres5.cell 0; have z1 := hres5.cell 1
      have y0 := hres5.frozen 0; have y1 := hres5.frozen 1
      have hZ := Blk.set2 hres5 (.slice an nds.length cn) (.slice a4 n4 c4)
      have hBZ := hb5.set2 hgr (.slice an nds.length cn) (.slice a4 n4 c4)
      have hOZ := Only.set2 gr W5 (.slice an nds.length cn) (.slice a4 n4 c4)
      have p0 := hZ.cell 0; have p1 := hZ.cell 1
      have ho2 := OwnNds.off hnod5 hres5 hOZ.keeps (by decide) (by decide) (by decide) (by decide)
      have ho3 := OwnRows.off hor5 hres5 hOZ.keeps (by decide) (by decide)
      have HKN := Lib.hid ((hkn5.set_ (p := ⟨gr, 0, none⟩) (by show w.heap.size ≤ gr; omega) (.slice an nds.length cn)).set_ (p := ⟨gr, 1, none⟩) (by show w.heap.size ≤ gr; omega) (.slice a4 n4 c4))
      have HBZ := Lib.hid (hbm.trans hBZ); have HR : Hid (NetT base nds (fl ++ [xs]) _ (.agg #[(.slice an nds.length cn), .slice a4 n4 c4])) := Lib.hid ⟨_, _, rfl, ho2, ho3.mono hN.le⟩
      clear hBZ hZ hOZ ho2 ho3 hor5 hnod5
      go_wp2_with fail
      refine bodyPost_ret (v := .tuple #[.agg #[(.slice an nds.length cn), .slice a4 n4 c4], .bool true]) (by simp [results, Tryz.results55, go_sem, p0, p1]) rfl ?_
      exact ⟨_, rfl, HR.out, HBZ.out, HKN.out⟩
    · go_simp
      refine HL1.out.mono ?_
      rintro e w2 ⟨v2, rfl, hn2, hb2⟩
      have hn2k := hn2
      obtain ⟨a3, c3, rfl, -⟩ := hn2.ints hxw
      have hnet2 := hnet0.below hb2 hnet0.lt
      go_wp2_with fail
      refine hK2.out _ _ trivial (fun hHeld => ?_)
      clear hK2 K2
      try simp only [Act.put, qGa, qGb, qGc, qSa, qSb, qSc]
      refine wpAnyH_ready (rs := [1, 4]) (by kernel_rfl) (by simp) ?_
      refine AllReadyH.cons rfl (fun K7 hK7 => ?_) (AllReadyH.cons rfl (fun K8 hK8 => ?_) AllReadyH.nil)
      · have zl := hnet2.cell 1
        go_simp
        refine hK7.out _ _ trivial (fun hHeld => ?_)
        clear hK7 K7 zl
        try simp only [Act.put, qGa, qGb, qGc, qSa, qSb, qSc]
        refine wpAnyH_ready (rs := [4]) (by kernel_rfl) (by simp) ?_
        refine AllReadyH.cons rfl (fun K9 hK9 => ?_) AllReadyH.nil
        obtain ⟨W3, hW3⟩ : ∃ x, x = w2.alloc (.cells #[.slice a3 xs.length c3] 78) := ⟨_, rfl⟩
        have hnet3 : Blk W3 gn 33 #[(.slice an nds.length cn), (.slice af fl.length cf)] := by rw [hW3]; exact hnet2.alloc _
        have HW3 := Lib.hid hW3; clear hW3
        go_simp
        rw [← HW3.out]
        refine hK9.out _ _ trivial (fun hHeld => ?_)
        clear hK9 K9
        try simp only [Act.put, qGa, qGb, qGc, qSa, qSb, qSc]
        refine wpAnyH_ready (rs := [5]) (by kernel_rfl) (by simp) ?_
        refine AllReadyH.cons rfl (fun K10 hK10 => ?_) AllReadyH.nil
        rw [HW3.out]
        refine stepR_one (w := w2) (.slice a3 xs.length c3) xs rfl _ _ rfl mid (.slice af fl.length cf) fl rfl rfl (hlet0.own.below hb2 (Nat.le_refl _)) (hn2k.mono hm0) hxw (Nat.le_trans hm0 hb2.size) (by omega) ?_
        intro v4 w4 hor4 hb4 haside
        have hnet4 := haside.blk gn _ _ (by decide) hnet2
        have hres4 := haside.blk gr _ _ (by decide) (hres0.below hb2 hres0.lt)
        have hb04 := (hb2.mono hm0).trans hb4
        have hkn4 : KeepNet w w4 := ((KeepNet.of_below hb0).trans (KeepNet.of_below hbW)).trans ((KeepNet.of_below hb2).trans (fun g t cs ht h => haside.blk g t cs (by rcases ht with rfl | rfl <;> decide) h))
        have hnod4 := (hnod0.lower hb04 (Nat.le_refl _)).own
        have hor4k := hor4
        obtain ⟨a4, c4, rfl, -⟩ := hor4.rows hfx
        obtain ⟨n4, hn4⟩ : ∃ n4, (fl ++ [xs]).length = n4 := ⟨_, rfl⟩
        rw [hn4] at hor4k ⊢
        clear hn4
        refine hK10.out _ _ trivial (fun hHeld => ?_)
        clear hK10 K10 HW3 hnet3
        try simp only [Act.put, qGa, qGb, qGc, qSa, qSb, qSc]
        refine tk (i := 6) (v := ?vp106) rfl (by kernel_rfl) (fun _ _ _ h => h) (Or.inl ⟨by rfl, ?hyp106⟩) (by assumption) ?rp106
        case hyp106 => (intro w hSw; (try dsimp only at hSw); go_simp; try with_reducible rfl)
        try simp only [Act.put, qGa, qGb, qGc, qSa, qSb, qSc]
        refine wpAnyH_ready (rs := [7]) (by kernel_rfl) (by simp) ?_
        refine AllReadyH.cons rfl (fun K11 hK11 => ?_) AllReadyH.nil
        have zs := hnet4.cell 1
        have fs := hnet4.frozen 1
        have hnet5 : Blk (w4.setCell ⟨gn, 1, none⟩ (.slice a4 n4 c4)) gn 33 #[(.slice an nds.length cn), .slice a4 n4 c4] := by
          have h := hnet4.set_ 1 (.slice a4 n4 c4)
          simpa using h
        have hO5 := (Only.refl gn w4).setCell 1 (.slice a4 n4 c4)
        have hb5 := hb04.setCell (p := ⟨gn, 1, none⟩) hgn (.slice a4 n4 c4)
        have hnod5 := OwnNds.off hnod4 hnet4 hO5.keeps (by decide) (by decide) (by decide) (by decide)
        have hor5 := OwnRows.off hor4k hnet4 hO5.keeps (by decide) (by decide)
        have hres5 := hres4.keeps hO5.keeps hne
        go_simp
        refine hK11.out _ _ trivial (fun hHeld => ?_)
        clear hK11 K11
        try simp only [Act.put, qGa, qGb, qGc, qSa, qSb, qSc]
        refine wpAnyH_done (by kernel_rfl) ?_ _
        obtain ⟨W5, hW5⟩ : ∃ x, x = w4.setCell ⟨gn, 1, none⟩ (.slice a4 n4 c4) := ⟨_, rfl⟩
        have hkn5 := hkn4.set_ (p := ⟨gn, 1, none⟩) (by show w.heap.size ≤ gn; omega) (.slice a4 n4 c4)
        rw [← hW5] at hnet5 hnod5 hor5 hres5 hb5 hkn5 ⊢
        clear hW5 zs fs hO5
        have o0 := hnet5.cell 0; have o1 := hnet5.cell 1
        have z0 := hres5.cell 0; have z1 := hres5.cell 1
        have y0 := hres5.frozen 0; have y1 := hres5.frozen 1
        have hZ := Blk.set2 hres5 (.slice an nds.length cn) (.slice a4 n4 c4)
        have hBZ := hb5.set2 hgr (.slice an nds.length cn) (.slice a4 n4 c4)
        have hOZ := Only.set2 gr W5 (.slice an nds.length cn) (.slice a4 n4 c4)
        have p0 := hZ.cell 0; have p1 := hZ.cell 1
        have ho2 := OwnNds.off hnod5 hres5 hOZ.keeps (by decide) (by decide) (by decide) (by decide)
        have ho3 := OwnRows.off hor5 hres5 hOZ.keeps (by decide) (by decide)
        have HKN := Lib.hid ((hkn5.set_ (p := ⟨gr, 0, none⟩) (by show w.heap.size ≤ gr; omega) (.slice an nds.length cn)).set_ (p := ⟨gr, 1, none⟩) (by show w.heap.size ≤ gr; omega) (.slice a4 n4 c4))
        have HBZ := Lib.hid (hbm.trans hBZ); have HR : Hid (NetT base nds (fl ++ [xs]) _ (.agg #[(.slice an nds.length cn), .slice a4 n4 c4])) := Lib.hid ⟨_, _, rfl, ho2, ho3.mono hN.le⟩
        clear hBZ hZ hOZ ho2 ho3 hor5 hnod5
        go_wp2_with fail
        refine bodyPost_ret (v := .tuple #[.agg #[(.slice an nds.length cn), .slice a4 n4 c4], .bool true]) (by simp [results, Tryz.results55, go_sem, p0, p1]) rfl ?_
        exact ⟨_, rfl, HR.out, HBZ.out, HKN.out⟩
      · obtain ⟨W3, hW3⟩ : ∃ x, x = w2.alloc (.cells #[.slice a3 xs.length c3] 78) := ⟨_, rfl⟩
        have hnet3 : Blk W3 gn 33 #[(.slice an nds.length cn), (.slice af fl.length cf)] := by rw [hW3]; exact hnet2.alloc _
        have HW3 := Lib.hid hW3; clear hW3
        go_simp
        rw [← HW3.out]
        refine hK8.out _ _ trivial (fun hHeld => ?_)
        clear hK8 K8
        try simp only [Act.put, qGa, qGb, qGc, qSa, qSb, qSc]
        refine wpAnyH_ready (rs := [1]) (by kernel_rfl) (by simp) ?_
        refine AllReadyH.cons rfl (fun K12 hK12 => ?_) AllReadyH.nil
        have zl := hnet3.cell 1
        go_simp
        refine hK12.out _ _ trivial (fun hHeld => ?_)
        clear hK12 K12 zl
        try simp only [Act.put, qGa, qGb, qGc, qSa, qSb, qSc]
        refine wpAnyH_ready (rs := [5]) (by kernel_rfl) (by simp) ?_
        refine AllReadyH.cons rfl (fun K13 hK13 => ?_) AllReadyH.nil
        rw [HW3.out]
        refine stepR_one (w := w2) (.slice a3 xs.length c3) xs rfl _ _ rfl mid (.slice af fl.length cf) fl rfl rfl (hlet0.own.below hb2 (Nat.le_refl _)) (hn2k.mono hm0) hxw (Nat.le_trans hm0 hb2.size) (by omega) ?_
        intro v4 w4 hor4 hb4 haside
        have hnet4 := haside.blk gn _ _ (by decide) hnet2
        have hres4 := haside.blk gr _ _ (by decide) (hres0.below hb2 hres0.lt)
        have hb04 := (hb2.mono hm0).trans hb4
        have hkn4 : KeepNet w w4 := ((KeepNet.of_below hb0).trans (KeepNet.of_below hbW)).trans ((KeepNet.of_below hb2).trans (fun g t cs ht h => haside.blk g t cs (by rcases ht with rfl | rfl <;> decide) h))
        have hnod4 := (hnod0.lower hb04 (Nat.le_refl _)).own
        have hor4k := hor4
        obtain ⟨a4, c4, rfl, -⟩ := hor4.rows hfx
        obtain ⟨n4, hn4⟩ : ∃ n4, (fl ++ [xs]).length = n4 := ⟨_, rfl⟩
        rw [hn4] at hor4k ⊢
        clear hn4
        refine hK13.out _ _ trivial (fun hHeld => ?_)
        clear hK13 K13 HW3 hnet3
        try simp only [Act.put, qGa, qGb, qGc, qSa, qSb, qSc]
        refine tk (i := 6) (v := ?vp136) rfl (by kernel_rfl) (fun _ _ _ h => h) (Or.inl ⟨by rfl, ?hyp136⟩) (by assumption) ?rp136
        case hyp136 => (intro w hSw; (try dsimp only at hSw); go_simp; try with_reducible rfl)
        try simp only [Act.put, qGa, qGb, qGc, qSa, qSb, qSc]
        refine wpAnyH_ready (rs := [7]) (by kernel_rfl) (by simp) ?_
        refine AllReadyH.cons rfl (fun K14 hK14 => ?_) AllReadyH.nil
        have zs := hnet4.cell 1
        have fs := hnet4.frozen 1
        have hnet5 : Blk (w4.setCell ⟨gn, 1, none⟩ (.slice a4 n4 c4)) gn 33 #[(.slice an nds.length cn), .slice a4 n4 c4] := by
          have h := hnet4.set_ 1 (.slice a4 n4 c4)
          simpa using h
        have hO5 := (Only.refl gn w4).setCell 1 (.slice a4 n4 c4)
        have hb5 := hb04.setCell (p := ⟨gn, 1, none⟩) hgn (.slice a4 n4 c4)
        have hnod5 := OwnNds.off hnod4 hnet4 hO5.keeps (by decide) (by decide) (by decide) (by decide)
        have hor5 := OwnRows.off hor4k hnet4 hO5.keeps (by decide) (by decide)
        have hres5 := hres4.keeps hO5.keeps hne
        go_simp
        refine hK14.out _ _ trivial (fun hHeld => ?_)
        clear hK14 K14
        try simp only [Act.put, qGa, qGb, qGc, qSa, qSb, qSc]
        refine wpAnyH_done (by kernel_rfl) ?_ _
        obtain ⟨W5, hW5⟩ : ∃ x, x = w4.setCell ⟨gn, 1, none⟩ (.slice a4 n4 c4) := ⟨_, rfl⟩
        have hkn5 := hkn4.set_ (p := ⟨gn, 1, none⟩) (by show w.heap.size ≤ gn; omega) (.slice a4 n4 c4)
        rw [← hW5] at hnet5 hnod5 hor5 hres5 hb5 hkn5 ⊢
        clear hW5 zs fs hO5
        have o0 := hnet5.cell 0; have o1 := hnet5.cell 1
        have z0 := hres5.cell 0; have z1 := hres5.cell 1
        have y0 := hres5.frozen 0; have y1 := hres5.frozen 1
        have hZ := Blk.set2 hres5 (.slice an nds.length cn) (.slice a4 n4 c4)
        have hBZ := hb5.set2 hgr (.slice an nds.length cn) (.slice a4 n4 c4)
        have hOZ := Only.set2 gr W5 (.slice an nds.length cn) (.slice a4 n4 c4)
        have p0 := hZ.cell 0; have p1 := hZ.cell 1
        have ho2 := OwnNds.off hnod5 hres5 hOZ.keeps (by decide) (by decide) (by decide) (by decide)
        have ho3 := OwnRows.off hor5 hres5 hOZ.keeps (by decide) (by decide)
        have HKN := Lib.hid ((hkn5.set_ (p := ⟨gr, 0, none⟩) (by show w.heap.size ≤ gr; omega) (.slice an nds.length cn)).set_ (p := ⟨gr, 1, none⟩) (by show w.heap.size ≤ gr; omega) (.slice a4 n4 c4))
        have HBZ := Lib.hid (hbm.trans hBZ); have HR : Hid (NetT base nds (fl ++ [xs]) _ (.agg #[(.slice an nds.length cn), .slice a4 n4 c4])) := Lib.hid ⟨_, _, rfl, ho2, ho3.mono hN.le⟩
        clear hBZ hZ hOZ ho2 ho3 hor5 hnod5
        go_wp2_with fail
        refine bodyPost_ret (v := .tuple #[.agg #[(.slice an nds.length cn), .slice a4 n4 c4], .bool true]) (by simp [results, Tryz.results55, go_sem, p0, p1]) rfl ?_
        exact ⟨_, rfl, HR.out, HBZ.out, HKN.out⟩
  · rw [sent_full hlt, decide_eq_false hlt]
    have i1 : (30 : Int) ≤ (fl.length : Int) := by omega
    go_upto_region 1 with fail
    rw [← hwb, ← hgr0, ← hgn0]
    clear hwb hgr0 hgn0
    have z0 := hres.cell 0; have z1 := hres.cell 1
    have y0 := hres.frozen 0; have y1 := hres.frozen 1
    have hZ := Blk.set2 hres (.slice an nds.length cn) (.slice af fl.length cf)
    have hBZ := hb0.mono hm
    have hBZ := hBZ.set2 hgr (.slice an nds.length cn) (.slice af fl.length cf)
    have hOZ := Only.set2 gr wb (.slice an nds.length cn) (.slice af fl.length cf)
    have p0 := hZ.cell 0; have p1 := hZ.cell 1
    have ho2 := OwnNdsU.off hnod hres hOZ.keeps (by decide) (by decide) (by decide) (by decide)
    have ho3 := OwnRowsL.off hlet hres hOZ.keeps (by decide) (by decide)
    have HKN := Lib.hid (((KeepNet.of_below hb0).set_ (p := ⟨gr, 0, none⟩) (by show w.heap.size ≤ gr; omega) (.slice an nds.length cn)).set_ (p := ⟨gr, 1, none⟩) (by show w.heap.size ≤ gr; omega) (.slice af fl.length cf))
    have HBZ := Lib.hid hBZ; have HR : Hid (NetT base nds fl _ (.agg #[.slice an nds.length cn, .slice af fl.length cf])) := Lib.hid ⟨_, _, rfl, ho2.own, ho3.own.mono hN.le⟩
    clear hBZ hZ hOZ ho2 ho3 hnod hlet hrw hx hN hcopy
    go_wp2_with fail
    refine bodyPost_ret (v := .tuple #[.agg #[.slice an nds.length cn, .slice af fl.length cf], .bool false]) (by simp [results, Tryz.results55, go_sem, p0, p1]) rfl ?_
    exact ⟨_, rfl, HR.out, HBZ.out, HKN.out⟩
end Go.Proofs.YtoniahfdjhhalaaGreat
