/- Texts of this claim, put together. -/
import Derived.Test.YtoniahfdjhhalaaGreatP1
import Derived.Test.YtoniahfdjhhalaaGreatP26

namespace Go.Proofs.YtoniahfdjhhalaaGreat
open Go.RowKit
def SmallNd (nd : Nd) : Prop := nd.book.length ≤ 1048576 ∧ nd.acks.length ≤ 1048576 ∧ ∀ r ∈ nd.acks, r.length ≤ 1048576
set_option linter.unusedSimpArgs false in
set_option maxHeartbeats 8000000 in
set_option maxRecDepth 100000 in
theorem l16Copy_any (B : Nat) (an : Option Addr) (nn cn : Nat) (nds : List Nd) (af : Option Addr) (nf cf : Nat) (fl : List (List Int)) (w : World) (hx : Nds B w an nn cn nds) (hy : Rws B w af nf cf fl) (hB : B ≤ w.heap.size)
    (hnn : nn ≤ 1048576) (hnf : nf ≤ 1048576) (hsm : ∀ j, j < nds.length → SmallNd (ND nds j)) (hfs : ∀ r ∈ fl, r.length ≤ 1048576) :
    Calls Tryz.prog 51 #[.agg #[.slice an nn cn, .slice af nf cf]] w (NetOwnPost nds fl w) := by
  have hnl := hx.hlen; have hn1 := hx.hcap; have hn2 := hx.hmax
  have hfl := hy.hlen; have hf1 := hy.hcap; have hf2 := hy.hmax
  unfold maxLen at hn2 hf2
  have hwf : ∀ j, j < nds.length → NdWf (ND nds j) := fun j hj => by
    obtain ⟨b, off, _, _, ab, nb, cb, aa, na, ca, _, _, _, he, _, hr⟩ := hx.cell j (by omega)
    refine ⟨he.wf, fun r hr2 => ?_⟩
    obtain ⟨i, hi, rfl⟩ := List.mem_iff_getElem.1 hr2
    obtain ⟨_, _, _, _, _, _, _, _, hi2, _⟩ := hr.cell i (by have := hr.hlen; omega)
    have := hi2.wf
    rwa [RW_get hi] at this
  have hfw : AllR fl := fun r hr => by
    obtain ⟨i, hi, rfl⟩ := List.mem_iff_getElem.1 hr
    obtain ⟨_, _, _, _, _, _, _, _, hi2, _⟩ := hy.cell i (by omega)
    have := hi2.wf
    rwa [RW_get hi] at this
  obtain ⟨wb, hwb⟩ : ∃ wb, wb = (w.alloc (.cells #[.slice an nn cn, .slice af nf cf] 33)).alloc (.cells #[.slice none 0 0, .slice none 0 0] 33) := ⟨_, rfl⟩
  obtain ⟨g, hg⟩ : ∃ g, g = w.heap.size := ⟨_, rfl⟩
  obtain ⟨gr, hgr0⟩ : ∃ gr, gr = w.heap.size + 1 := ⟨_, rfl⟩
  have hbox : Blk wb g 33 #[.slice an nn cn, .slice af nf cf] := by rw [hwb, hg]; exact (Blk.new _ _ _).alloc _
  have hres : Blk wb gr 33 #[.slice none 0 0, .slice none 0 0] := by
    rw [hwb, hgr0]
    have h := Blk.new (w.alloc (.cells #[.slice an nn cn, .slice af nf cf] 33)) 33 #[.slice none 0 0, .slice none 0 0]
    simpa using h
  have hb0 : Below w.heap.size w wb := by rw [hwb]; exact ((Below.refl _ _).alloc (Nat.le_refl _) _).alloc (by simp) _
  have hgr : w.heap.size ≤ gr := by omega
  have hs0 := hb0.size
  have hsb := hbox.lt; have hsr := hres.lt
  have HBOX0 : Hid (∀ w', Below wb.heap.size wb w' → Blk w' g 33 #[.slice an nn cn, .slice af nf cf]) := Lib.hid (fun w' h => hbox.below h hsb)
  have HRES : Hid (∀ w', Below wb.heap.size wb w' → Blk w' gr 33 #[.slice none 0 0, .slice none 0 0]) := Lib.hid (fun w' h => hres.below h hsr)
  have HA : Hid (∀ w', Below wb.heap.size wb w' → Below w.heap.size w w') := Lib.hid (fun w' h => hb0.trans (h.mono hs0))
  obtain ⟨wc, hwc⟩ : ∃ x, x = wb.alloc (.cells #[.slice none 0 0, .slice none 0 0] 33) := ⟨_, rfl⟩
  obtain ⟨go, hgo0⟩ : ∃ x, x = wb.heap.size := ⟨_, rfl⟩
  have hout0 : Blk wc go 33 #[.slice none 0 0, .slice none 0 0] := by rw [hwc, hgo0]; exact Blk.new _ _ _
  have hbx : Below wb.heap.size wb wc := by rw [hwc]; exact (Below.refl _ _).alloc (Nat.le_refl _) _
  have hgo : wb.heap.size ≤ go := by omega
  have HNL := Lib.hid hnl; have HFL := Lib.hid hfl; have HSM := Lib.hid hsm; have HFS := Lib.hid hfs; have HWF := Lib.hid hwf; have HFW := Lib.hid hfw; clear hnl hfl hsm hfs hwf hfw
  go_enter Tryz.func51, Tryz.ntmps51
  go_upto_region 1 with fail
  rw [← hwb, ← hgr0, ← hg]
  clear hwb hgr0 hg
  go_upto_region 2 with fail
  rw [← hwc, ← hgo0]
  clear hwc hgo0
  go_wp2
  go_loopw [4] (fun s4 wr => ∃ (i : Nat) (ak : Option Addr) (nk ck : Nat), i ≤ nn ∧ s4 = .int .i64 i ∧ Blk wr go 33 #[.slice ak nk ck, .slice none 0 0] ∧ OwnNds wb.heap.size wr (.slice ak nk ck) (nds.take i) ∧ Below wb.heap.size wb wr) (fun s4 _ => nn - (intOf s4).toNat)
  case atStart => exact ⟨0, none, 0, 0, Nat.zero_le _, rfl, hout0, ownNds_nil _ _, hbx⟩
  case round =>
    obtain ⟨i, ak, nk, ck, hi, rfl, hout, hown, hbel⟩ := hrel
    have hsz := hbel.size
    have hboxr := HBOX0.out wr hbel
    have d0 := hboxr.cell 0; have d1 := hboxr.cell 1
    by_cases hlt : i < nn
    · have hil : i < nds.length := by have := HNL.out; omega
      obtain ⟨bn, on, rfl, hbnB, hnc⟩ := hx.at i hlt
      have hci := hnc i hlt
      have htk : nds.take (i + 1) = nds.take i ++ [ND nds i] := by rw [List.take_succ_eq_append_getElem hil, ← ND_get hil]
      have hndw := HWF.out i hil
      have hnds2 : ∀ j, j < (nds.take i ++ [ND nds i]).length → NdWf (ND (nds.take i ++ [ND nds i]) j) := fun j hj => by
        rw [← htk] at hj ⊢
        rw [List.length_take] at hj
        have h2 : ND (nds.take (i + 1)) j = ND nds j := by rw [ND_get (by rw [List.length_take]; omega), ND_get (by omega)]; simp
        rw [h2]
        exact HWF.out j (by omega)
      have hsmi := HSM.out i hil
      have htl : (nds.take i).length ≤ 1099511627776 := by rw [List.length_take]; omega
      have HTK := Lib.hid htk; clear htk hnc
      generalize ND nds i = nd at hci hndw hnds2 HTK hsmi
      obtain ⟨ab, nb, cb, aa, na, ca, c0, c1, c2, hei, hez, hri⟩ := hci
      have HNC : Hid (∀ w', Below wb.heap.size wb w' → w'.cell? ⟨bn, on + i * 3, none⟩ = some (.int .i64 nd.me) ∧ w'.cell? ⟨bn, on + i * 3 + 1, none⟩ = some (.slice ab nb cb) ∧ w'.cell? ⟨bn, on + i * 3 + 2, none⟩ = some (.slice aa na ca)) := Lib.hid (fun w' h => ⟨((HA.out w' h).cell (p := ⟨bn, on + i * 3, none⟩) (by show bn < w.heap.size; omega)).trans c0, ((HA.out w' h).cell (p := ⟨bn, on + i * 3 + 1, none⟩) (by show bn < w.heap.size; omega)).trans c1, ((HA.out w' h).cell (p := ⟨bn, on + i * 3 + 2, none⟩) (by show bn < w.heap.size; omega)).trans c2⟩)
      have HCP : Hid (∀ w', Below wb.heap.size wb w' → Calls Tryz.prog 73 #[.agg #[.int .i64 nd.me, .slice ab nb cb, .slice aa na ca]] w' (NodePost nd w')) := Lib.hid (fun w' h => l15Copy_any B nd.me ab nb cb nd.book aa na ca nd.acks w' (hei.below (HA.out w' h) hB (Nat.le_refl B)) hez (hri.below (HA.out w' h) hB (Nat.le_refl B)) (by have := (HA.out w' h).size; omega) (by have := hei.hlen; have := hsmi.1; omega) (by have := hri.hlen; have := hsmi.2.1; omega) hsmi.2.2)
      have HBOX : Hid (∀ w', Below wb.heap.size wb w' → Blk w' g 33 #[.slice (some ⟨bn, on, none⟩) nn cn, .slice af nf cf]) := HBOX0
      have i0 : (0 : Int) ≤ i := by omega
      have i1 : (i : Int) < nn := by omega
      clear c0 c1 c2 hei hri
      go_wp2_with fail
      refine wp_region_held_drew (S := (fun w' => w'.cell? ⟨g, 0, none⟩ = some (.slice (some ⟨bn, on, none⟩) nn cn) ∧ w'.cell? ⟨bn, on + i * 3, none⟩ = some (.int .i64 nd.me) ∧ w'.cell? ⟨bn, on + i * 3 + 1, none⟩ = some (.slice ab nb cb) ∧ w'.cell? ⟨bn, on + i * 3 + 2, none⟩ = some (.slice aa na ca))) (by kernel_rfl) ⟨(HBOX.out _ (hbel.drew)).cell 0, (HNC.out _ (hbel.drew)).1, (HNC.out _ (hbel.drew)).2.1, (HNC.out _ (hbel.drew)).2.2⟩ (fun hHeld => ?_)
      obtain ⟨W0, hW0⟩ : ∃ x, x = wr.drew := ⟨_, rfl⟩
      have hbW : Below wb.heap.size wb W0 := by rw [hW0]; exact hbel.drew
      have houtW : Blk W0 go 33 #[.slice ak nk ck, .slice none 0 0] := by rw [hW0]; exact hout
      have horW : OwnNds wb.heap.size W0 (.slice ak nk ck) (nds.take i) := by rw [hW0]; exact hown.below (Below.refl wr.heap.size wr).drew (Nat.le_refl _)
      have hofW : True := trivial
      rw [← hW0] at hHeld ⊢
      clear hW0
      refine tk (i := 0) (v := ?vjn0) rfl (by kernel_rfl) (fun _ _ _ h => h) (Or.inl ⟨by rfl, ?hyjn0⟩) (by assumption) ?rjn0
      case hyjn0 => (intro w hSw; (try dsimp only at hSw); go_simp; try with_reducible rfl)
      try simp only [Act.put, qGa, qGb, qGc, qSa, qSb, qSc]
      refine tk (i := 2) (v := ?vjn2) rfl (by kernel_rfl) (fun _ _ _ h => h) (Or.inl ⟨by rfl, ?hyjn2⟩) (by assumption) ?rjn2
      case hyjn2 => (intro w hSw; (try dsimp only at hSw); go_simp; try with_reducible rfl)
      try simp only [Act.put, qGa, qGb, qGc, qSa, qSb, qSc]
      refine tk (i := 3) (v := ?vjn3) rfl (by kernel_rfl) (fun _ _ _ h => h) (Or.inl ⟨by rfl, ?hyjn3⟩) (by assumption) ?rjn3
      case hyjn3 => (intro w hSw; (try dsimp only at hSw); go_simp; try with_reducible rfl)
      try simp only [Act.put, qGa, qGb, qGc, qSa, qSb, qSc]
      refine tk (i := 4) (v := ?vjn4) rfl (by kernel_rfl) (fun _ _ _ h => h) (Or.inl ⟨by rfl, ?hyjn4⟩) (by assumption) ?rjn4
      case hyjn4 => (intro w hSw; (try dsimp only at hSw); go_simp; try with_reducible rfl)
      try simp only [Act.put, qGa, qGb, qGc, qSa, qSb, qSc]
      refine tk (i := 5) (v := ?vjn5) rfl (by kernel_rfl) (fun _ _ _ h => h) (Or.inl ⟨by rfl, ?hyjn5⟩) (by assumption) ?rjn5
      case hyjn5 => (intro w hSw; (try dsimp only at hSw); go_simp; try with_reducible rfl)
      try simp only [Act.put, qGa, qGb, qGc, qSa, qSb, qSc]
      refine tk (i := 6) (v := ?vjn6) rfl (by kernel_rfl) (fun _ _ _ h => h) (Or.inl ⟨by rfl, ?hyjn6⟩) (by assumption) ?rjn6
      case hyjn6 => (intro w hSw; (try dsimp only at hSw); go_simp; try with_reducible rfl)
      try simp only [Act.put, qGa, qGb, qGc, qSa, qSb, qSc]
      refine wpAnyH_ready (rs := [1, 7]) (by kernel_rfl) (by simp) ?_
      refine AllReadyH.cons rfl (fun K1 hK1 => ?_) (AllReadyH.cons rfl (fun K2 hK2 => ?_) AllReadyH.nil)
      · have zl := houtW.cell 0
        go_simp
        refine hK1.out _ _ ⟨(HBOX.out _ (hbW)).cell 0, (HNC.out _ (hbW)).1, (HNC.out _ (hbW)).2.1, (HNC.out _ (hbW)).2.2⟩ (fun hHeld => ?_)
        clear hK1 K1 zl
        try simp only [Act.put, qGa, qGb, qGc, qSa, qSb, qSc]
        refine wpAnyH_ready (rs := [7]) (by kernel_rfl) (by simp) ?_
        refine AllReadyH.cons rfl (fun K4 hK4 => ?_) AllReadyH.nil
        go_simp
        refine (HCP.out _ hbW).mono ?_
        rintro e w2 ⟨bv, av, rfl, hbv, hav, hb2⟩
        have hbel2 := hbW.trans (hb2.mono hbW.size)
        have hbvk := hbv.mono hbW.size
        have havk := hav.mono hbW.size
        obtain ⟨a2, c2, rfl, -⟩ := hbv.ents hndw.1
        obtain ⟨a3, c3, rfl, -⟩ := hav.rows hndw.2
        have hout2 := houtW.below hb2 houtW.lt
        have hor2 := horW.below hb2 (Nat.le_refl _)
        have hof2 : True := trivial
        go_wp2_with fail
        refine hK4.out _ _ ⟨(HBOX.out _ (hbel2)).cell 0, (HNC.out _ (hbel2)).1, (HNC.out _ (hbel2)).2.1, (HNC.out _ (hbel2)).2.2⟩ (fun hHeld => ?_)
        clear hK4 K4
        try simp only [Act.put, qGa, qGb, qGc, qSa, qSb, qSc]
        refine wpAnyH_ready (rs := [8]) (by kernel_rfl) (by simp) ?_
        refine AllReadyH.cons rfl (fun K6 hK6 => ?_) AllReadyH.nil
        obtain ⟨W3, hW3⟩ : ∃ x, x = w2.alloc (.cells #[.int .i64 nd.me, .slice a2 nd.book.length c2, .slice a3 nd.acks.length c3] 39) := ⟨_, rfl⟩
        have hbel3 : Below wb.heap.size wb W3 := by rw [hW3]; exact hbel2.alloc hbel2.size _
        have hout3 : Blk W3 go 33 #[.slice ak nk ck, .slice none 0 0] := by rw [hW3]; exact hout2.alloc _
        have HW3 := Lib.hid hW3; clear hW3
        go_simp
        rw [← HW3.out]
        refine hK6.out _ _ ⟨(HBOX.out _ (hbel3)).cell 0, (HNC.out _ (hbel3)).1, (HNC.out _ (hbel3)).2.1, (HNC.out _ (hbel3)).2.2⟩ (fun hHeld => ?_)
        clear hK6 K6
        try simp only [Act.put, qGa, qGb, qGc, qSa, qSb, qSc]
        refine wpAnyH_ready (rs := [9]) (by kernel_rfl) (by simp) ?_
        refine AllReadyH.cons rfl (fun K8 hK8 => ?_) AllReadyH.nil
        rw [HW3.out]
        refine stepN_one (w := w2) nd (.slice a2 nd.book.length c2) (.slice a3 nd.acks.length c3) rfl _ _ rfl wb.heap.size (.slice ak nk ck) (nds.take i) rfl rfl hor2 hbvk havk hndw hbel2.size htl ?_
        intro v4 w4 hor4 hb4 haside
        have hbel4 := hbel2.trans hb4
        have hout4 := haside.blk go _ _ (by decide) hout2
        have hof4 : True := trivial
        have hor4k := hor4
        obtain ⟨a4, c4, rfl, -⟩ := hor4.nds hnds2
        obtain ⟨n4, hn4⟩ : ∃ n4, (nds.take i ++ [nd]).length = n4 := ⟨_, rfl⟩
        rw [hn4] at hor4k ⊢
        clear hn4
        refine hK8.out _ _ ⟨(HBOX.out _ (hbel4)).cell 0, (HNC.out _ (hbel4)).1, (HNC.out _ (hbel4)).2.1, (HNC.out _ (hbel4)).2.2⟩ (fun hHeld => ?_)
        clear hK8 K8 HW3 hbel3 hout3
        try simp only [Act.put, qGa, qGb, qGc, qSa, qSb, qSc]
        refine tk (i := 10) (v := ?vq910) rfl (by kernel_rfl) (fun _ _ _ h => h) (Or.inl ⟨by rfl, ?hyq910⟩) (by assumption) ?rq910
        case hyq910 => (intro w hSw; (try dsimp only at hSw); go_simp; try with_reducible rfl)
        try simp only [Act.put, qGa, qGb, qGc, qSa, qSb, qSc]
        refine wpAnyH_ready (rs := [11]) (by kernel_rfl) (by simp) ?_
        refine AllReadyH.cons rfl (fun K10 hK10 => ?_) AllReadyH.nil
        have zs := hout4.cell 0
        have fs := hout4.frozen 0
        have hout5 : Blk (w4.setCell ⟨go, 0, none⟩ (.slice a4 n4 c4)) go 33 #[.slice a4 n4 c4, .slice none 0 0] := by
          have h := hout4.set_ 0 (.slice a4 n4 c4)
          simpa using h
        have hbel5 := hbel4.setCell (p := ⟨go, 0, none⟩) hgo (.slice a4 n4 c4)
        have hO5 := (Only.refl go w4).setCell 0 (.slice a4 n4 c4)
        have hor5 := OwnNds.off hor4k hout4 hO5.keeps (by decide) (by decide) (by decide) (by decide)
        have hof5 : True := trivial
        go_simp
        refine hK10.out _ _ ⟨(HBOX.out _ (hbel5)).cell 0, (HNC.out _ (hbel5)).1, (HNC.out _ (hbel5)).2.1, (HNC.out _ (hbel5)).2.2⟩ (fun hHeld => ?_)
        clear hK10 K10
        try simp only [Act.put, qGa, qGb, qGc, qSa, qSb, qSc]
        refine wpAnyH_done (by kernel_rfl) ?_ _
        go_wp2_with fail
        go_roundw
        case rel => exact ⟨i + 1, _, _, _, by omega, by go_num, hout5, by rw [HTK.out]; exact hor5, hbel5⟩
        case measure => simp [intOf]; omega
      · go_simp
        refine (HCP.out _ hbW).mono ?_
        rintro e w2 ⟨bv, av, rfl, hbv, hav, hb2⟩
        have hbel2 := hbW.trans (hb2.mono hbW.size)
        have hbvk := hbv.mono hbW.size
        have havk := hav.mono hbW.size
        obtain ⟨a2, c2, rfl, -⟩ := hbv.ents hndw.1
        obtain ⟨a3, c3, rfl, -⟩ := hav.rows hndw.2
        have hout2 := houtW.below hb2 houtW.lt
        have hor2 := horW.below hb2 (Nat.le_refl _)
        have hof2 : True := trivial
        go_wp2_with fail
        refine hK2.out _ _ ⟨(HBOX.out _ (hbel2)).cell 0, (HNC.out _ (hbel2)).1, (HNC.out _ (hbel2)).2.1, (HNC.out _ (hbel2)).2.2⟩ (fun hHeld => ?_)
        clear hK2 K2
        try simp only [Act.put, qGa, qGb, qGc, qSa, qSb, qSc]
        refine wpAnyH_ready (rs := [1, 8]) (by kernel_rfl) (by simp) ?_
        refine AllReadyH.cons rfl (fun K13 hK13 => ?_) (AllReadyH.cons rfl (fun K14 hK14 => ?_) AllReadyH.nil)
        · have zl := hout2.cell 0
          go_simp
          refine hK13.out _ _ ⟨(HBOX.out _ (hbel2)).cell 0, (HNC.out _ (hbel2)).1, (HNC.out _ (hbel2)).2.1, (HNC.out _ (hbel2)).2.2⟩ (fun hHeld => ?_)
          clear hK13 K13 zl
          try simp only [Act.put, qGa, qGb, qGc, qSa, qSb, qSc]
          refine wpAnyH_ready (rs := [8]) (by kernel_rfl) (by simp) ?_
          refine AllReadyH.cons rfl (fun K16 hK16 => ?_) AllReadyH.nil
          obtain ⟨W3, hW3⟩ : ∃ x, x = w2.alloc (.cells #[.int .i64 nd.me, .slice a2 nd.book.length c2, .slice a3 nd.acks.length c3] 39) := ⟨_, rfl⟩
          have hbel3 : Below wb.heap.size wb W3 := by rw [hW3]; exact hbel2.alloc hbel2.size _
          have hout3 : Blk W3 go 33 #[.slice ak nk ck, .slice none 0 0] := by rw [hW3]; exact hout2.alloc _
          have HW3 := Lib.hid hW3; clear hW3
          go_simp
          rw [← HW3.out]
          refine hK16.out _ _ ⟨(HBOX.out _ (hbel3)).cell 0, (HNC.out _ (hbel3)).1, (HNC.out _ (hbel3)).2.1, (HNC.out _ (hbel3)).2.2⟩ (fun hHeld => ?_)
          clear hK16 K16
          try simp only [Act.put, qGa, qGb, qGc, qSa, qSb, qSc]
          refine wpAnyH_ready (rs := [9]) (by kernel_rfl) (by simp) ?_
          refine AllReadyH.cons rfl (fun K18 hK18 => ?_) AllReadyH.nil
          rw [HW3.out]
          refine stepN_one (w := w2) nd (.slice a2 nd.book.length c2) (.slice a3 nd.acks.length c3) rfl _ _ rfl wb.heap.size (.slice ak nk ck) (nds.take i) rfl rfl hor2 hbvk havk hndw hbel2.size htl ?_
          intro v4 w4 hor4 hb4 haside
          have hbel4 := hbel2.trans hb4
          have hout4 := haside.blk go _ _ (by decide) hout2
          have hof4 : True := trivial
          have hor4k := hor4
          obtain ⟨a4, c4, rfl, -⟩ := hor4.nds hnds2
          obtain ⟨n4, hn4⟩ : ∃ n4, (nds.take i ++ [nd]).length = n4 := ⟨_, rfl⟩
          rw [hn4] at hor4k ⊢
          clear hn4
          refine hK18.out _ _ ⟨(HBOX.out _ (hbel4)).cell 0, (HNC.out _ (hbel4)).1, (HNC.out _ (hbel4)).2.1, (HNC.out _ (hbel4)).2.2⟩ (fun hHeld => ?_)
          clear hK18 K18 HW3 hbel3 hout3
          try simp only [Act.put, qGa, qGb, qGc, qSa, qSb, qSc]
          refine tk (i := 10) (v := ?vq1910) rfl (by kernel_rfl) (fun _ _ _ h => h) (Or.inl ⟨by rfl, ?hyq1910⟩) (by assumption) ?rq1910
          case hyq1910 => (intro w hSw; (try dsimp only at hSw); go_simp; try with_reducible rfl)
          try simp only [Act.put, qGa, qGb, qGc, qSa, qSb, qSc]
          refine wpAnyH_ready (rs := [11]) (by kernel_rfl) (by simp) ?_
          refine AllReadyH.cons rfl (fun K20 hK20 => ?_) AllReadyH.nil
          have zs := hout4.cell 0
          have fs := hout4.frozen 0
          have hout5 : Blk (w4.setCell ⟨go, 0, none⟩ (.slice a4 n4 c4)) go 33 #[.slice a4 n4 c4, .slice none 0 0] := by
            have h := hout4.set_ 0 (.slice a4 n4 c4)
            simpa using h
          have hbel5 := hbel4.setCell (p := ⟨go, 0, none⟩) hgo (.slice a4 n4 c4)
          have hO5 := (Only.refl go w4).setCell 0 (.slice a4 n4 c4)
          have hor5 := OwnNds.off hor4k hout4 hO5.keeps (by decide) (by decide) (by decide) (by decide)
          have hof5 : True := trivial
          go_simp
          refine hK20.out _ _ ⟨(HBOX.out _ (hbel5)).cell 0, (HNC.out _ (hbel5)).1, (HNC.out _ (hbel5)).2.1, (HNC.out _ (hbel5)).2.2⟩ (fun hHeld => ?_)
          clear hK20 K20
          try simp only [Act.put, qGa, qGb, qGc, qSa, qSb, qSc]
          refine wpAnyH_done (by kernel_rfl) ?_ _
          go_wp2_with fail
          go_roundw
          case rel => exact ⟨i + 1, _, _, _, by omega, by go_num, hout5, by rw [HTK.out]; exact hor5, hbel5⟩
          case measure => simp [intOf]; omega
        · obtain ⟨W3, hW3⟩ : ∃ x, x = w2.alloc (.cells #[.int .i64 nd.me, .slice a2 nd.book.length c2, .slice a3 nd.acks.length c3] 39) := ⟨_, rfl⟩
          have hbel3 : Below wb.heap.size wb W3 := by rw [hW3]; exact hbel2.alloc hbel2.size _
          have hout3 : Blk W3 go 33 #[.slice ak nk ck, .slice none 0 0] := by rw [hW3]; exact hout2.alloc _
          have HW3 := Lib.hid hW3; clear hW3
          go_simp
          rw [← HW3.out]
          refine hK14.out _ _ ⟨(HBOX.out _ (hbel3)).cell 0, (HNC.out _ (hbel3)).1, (HNC.out _ (hbel3)).2.1, (HNC.out _ (hbel3)).2.2⟩ (fun hHeld => ?_)
          clear hK14 K14
          try simp only [Act.put, qGa, qGb, qGc, qSa, qSb, qSc]
          refine wpAnyH_ready (rs := [1]) (by kernel_rfl) (by simp) ?_
          refine AllReadyH.cons rfl (fun K23 hK23 => ?_) AllReadyH.nil
          have zl := hout3.cell 0
          go_simp
          refine hK23.out _ _ ⟨(HBOX.out _ (hbel3)).cell 0, (HNC.out _ (hbel3)).1, (HNC.out _ (hbel3)).2.1, (HNC.out _ (hbel3)).2.2⟩ (fun hHeld => ?_)
          clear hK23 K23 zl
          try simp only [Act.put, qGa, qGb, qGc, qSa, qSb, qSc]
          refine wpAnyH_ready (rs := [9]) (by kernel_rfl) (by simp) ?_
          refine AllReadyH.cons rfl (fun K25 hK25 => ?_) AllReadyH.nil
          rw [HW3.out]
          refine stepN_one (w := w2) nd (.slice a2 nd.book.length c2) (.slice a3 nd.acks.length c3) rfl _ _ rfl wb.heap.size (.slice ak nk ck) (nds.take i) rfl rfl hor2 hbvk havk hndw hbel2.size htl ?_
          intro v4 w4 hor4 hb4 haside
          have hbel4 := hbel2.trans hb4
          have hout4 := haside.blk go _ _ (by decide) hout2
          have hof4 : True := trivial
          have hor4k := hor4
          obtain ⟨a4, c4, rfl, -⟩ := hor4.nds hnds2
          obtain ⟨n4, hn4⟩ : ∃ n4, (nds.take i ++ [nd]).length = n4 := ⟨_, rfl⟩
          rw [hn4] at hor4k ⊢
          clear hn4
          refine hK25.out _ _ ⟨(HBOX.out _ (hbel4)).cell 0, (HNC.out _ (hbel4)).1, (HNC.out _ (hbel4)).2.1, (HNC.out _ (hbel4)).2.2⟩ (fun hHeld => ?_)
          clear hK25 K25 HW3 hbel3 hout3
          try simp only [Act.put, qGa, qGb, qGc, qSa, qSb, qSc]
          refine tk (i := 10) (v := ?vq2610) rfl (by kernel_rfl) (fun _ _ _ h => h) (Or.inl ⟨by rfl, ?hyq2610⟩) (by assumption) ?rq2610
          case hyq2610 => (intro w hSw; (try dsimp only at hSw); go_simp; try with_reducible rfl)
          try simp only [Act.put, qGa, qGb, qGc, qSa, qSb, qSc]
          refine wpAnyH_ready (rs := [11]) (by kernel_rfl) (by simp) ?_
          refine AllReadyH.cons rfl (fun K27 hK27 => ?_) AllReadyH.nil
          have zs := hout4.cell 0
          have fs := hout4.frozen 0
          have hout5 : Blk (w4.setCell ⟨go, 0, none⟩ (.slice a4 n4 c4)) go 33 #[.slice a4 n4 c4, .slice none 0 0] := by
            have h := hout4.set_ 0 (.slice a4 n4 c4)
            simpa using h
          have hbel5 := hbel4.setCell (p := ⟨go, 0, none⟩) hgo (.slice a4 n4 c4)
          have hO5 := (Only.refl go w4).setCell 0 (.slice a4 n4 c4)
          have hor5 := OwnNds.off hor4k hout4 hO5.keeps (by decide) (by decide) (by decide) (by decide)
          have hof5 : True := trivial
          go_simp
          refine hK27.out _ _ ⟨(HBOX.out _ (hbel5)).cell 0, (HNC.out _ (hbel5)).1, (HNC.out _ (hbel5)).2.1, (HNC.out _ (hbel5)).2.2⟩ (fun hHeld => ?_)
          clear hK27 K27
          try simp only [Act.put, qGa, qGb, qGc, qSa, qSb, qSc]
          refine wpAnyH_done (by kernel_rfl) ?_ _
          go_wp2_with fail
          go_roundw
          case rel => exact ⟨i + 1, _, _, _, by omega, by go_num, hout5, by rw [HTK.out]; exact hor5, hbel5⟩
          case measure => simp [intOf]; omega
    · have ek : i = nn := by omega
      subst ek
      rw [List.take_of_length_le (by have := HNL.out; omega)] at hown
      have i1 : ¬ ((i : Int) < (i : Int)) := by omega
      obtain ⟨wF, hwFe⟩ : ∃ x, x = wr := ⟨_, rfl⟩
      subst hwFe
      obtain ⟨an2, rfl⟩ : ∃ x, x = ak := ⟨_, rfl⟩
      obtain ⟨nn2, rfl⟩ : ∃ x, x = nk := ⟨_, rfl⟩
      obtain ⟨cn2, rfl⟩ : ∃ x, x = ck := ⟨_, rfl⟩
      have hoN := hown
      have houtF := hout
      have hwF := hbel.size
      go_wp2
      go_loopw [5] (fun s5 wr => ∃ (i : Nat) (ak : Option Addr) (nk ck : Nat), i ≤ nf ∧ s5 = .int .i64 i ∧ Blk wr go 33 #[.slice an2 nn2 cn2, .slice ak nk ck] ∧ OwnRowsL wF.heap.size wr (.slice ak nk ck) (fl.take i) ∧ Keeps go wF wr ∧ Below wb.heap.size wb wr) (fun s5 _ => nf - (intOf s5).toNat)
      case atStart => exact ⟨0, none, 0, 0, Nat.zero_le _, rfl, hout, ownRowsL_nil _ _, Keeps.refl _ _, hbel⟩
      case round =>
        obtain ⟨i, ak, nk, ck, hi, rfl, hout, hown, hoth, hbel⟩ := hrel
        have hsz := hbel.size
        have hboxr := HBOX0.out wr hbel
        clear d0 d1
        have d0 := hboxr.cell 0; have d1 := hboxr.cell 1
        by_cases hlt : i < nf
        · have hil : i < fl.length := by have := HFL.out; omega
          obtain ⟨bf, of', rfl, hbfB, hrc⟩ := hy.at i hlt
          obtain ⟨ar, mr, cr, hcell, hri, hrz⟩ := hrc i hlt
          clear hrc
          obtain ⟨rw1, hrw1⟩ : ∃ r, RW fl i = r := ⟨_, rfl⟩
          rw [hrw1] at hri
          have hmr : mr ≤ 1048576 := by
            have h1 := hri.hlen
            have h2 := HFS.out rw1 (by rw [← hrw1, RW_get hil]; exact List.getElem_mem _)
            omega
          have hrw : AllI64 rw1 := hri.wf
          have htk : fl.take (i + 1) = fl.take i ++ [rw1] := by rw [List.take_succ_eq_append_getElem hil, ← RW_get hil, hrw1]
          have hrws : AllR (fl.take i ++ [rw1]) := fun r hr => by
            rw [← htk] at hr
            exact HFW.out r (List.mem_of_mem_take hr)
          have htl : (fl.take i).length ≤ 1099511627776 := by rw [List.length_take]; omega
          have HTK := Lib.hid htk; clear htk hrw1
          have HROW : Hid (∀ w', Below wb.heap.size wb w' → w'.cell? ⟨bf, of' + i, none⟩ = some (.slice ar mr cr)) := Lib.hid (fun w' h => ((HA.out w' h).cell (p := ⟨bf, of' + i, none⟩) (by show bf < w.heap.size; omega)).trans hcell)
          have HL1 : Hid (∀ w', Below wb.heap.size wb w' → Calls Tryz.prog 74 #[.slice ar mr cr] w' (NewInts rw1 w')) := Lib.hid (fun w' h => l1Copy_any B ar mr cr rw1 w' (hri.below (HA.out w' h) hB (Nat.le_refl B)) (by have := (HA.out w' h).size; omega) hrz (by omega))
          have HBOX : Hid (∀ w', Below wb.heap.size wb w' → Blk w' g 33 #[.slice an _ cn, .slice (some ⟨bf, of', none⟩) nf cf]) := HBOX0
          have i0 : (0 : Int) ≤ i := by omega
          have i2 : (i : Int) < nf := by omega
          clear hcell hri
          go_wp2_with fail
          refine wp_region_held_drew (S := (fun w' => w'.cell? ⟨g, 1, none⟩ = some (.slice (some ⟨bf, of', none⟩) nf cf) ∧ w'.cell? ⟨bf, of' + i, none⟩ = some (.slice ar mr cr))) (by kernel_rfl) ⟨(HBOX.out _ (hbel.drew)).cell 1, HROW.out _ (hbel.drew)⟩ (fun hHeld => ?_)
          obtain ⟨W0, hW0⟩ : ∃ x, x = wr.drew := ⟨_, rfl⟩
          have hbW : Below wb.heap.size wb W0 := by rw [hW0]; exact hbel.drew
          have houtW : Blk W0 go 33 #[.slice an2 nn2 cn2, .slice ak nk ck] := by rw [hW0]; exact hout
          have horW : OwnRowsL wF.heap.size W0 (.slice ak nk ck) (fl.take i) := by rw [hW0]; exact hown.below (Below.refl wr.heap.size wr).drew (Nat.le_refl _)
          have hofW : Keeps go wF W0 := by rw [hW0]; exact hoth.then_below (Below.refl wF.heap.size wr).drew
          rw [← hW0] at hHeld ⊢
          clear hW0
          refine tk (i := 0) (v := ?vjf0) rfl (by kernel_rfl) (fun _ _ _ h => h) (Or.inl ⟨by rfl, ?hyjf0⟩) (by assumption) ?rjf0
          case hyjf0 => (intro w hSw; (try dsimp only at hSw); go_simp; try with_reducible rfl)
          try simp only [Act.put, qGa, qGb, qGc, qSa, qSb, qSc]
          refine tk (i := 2) (v := ?vjf2) rfl (by kernel_rfl) (fun _ _ _ h => h) (Or.inl ⟨by rfl, ?hyjf2⟩) (by assumption) ?rjf2
          case hyjf2 => (intro w hSw; (try dsimp only at hSw); go_simp; try with_reducible rfl)
          try simp only [Act.put, qGa, qGb, qGc, qSa, qSb, qSc]
          refine tk (i := 3) (v := ?vjf3) rfl (by kernel_rfl) (fun _ _ _ h => h) (Or.inl ⟨by rfl, ?hyjf3⟩) (by assumption) ?rjf3
          case hyjf3 => (intro w hSw; (try dsimp only at hSw); go_simp; try with_reducible rfl)
          try simp only [Act.put, qGa, qGb, qGc, qSa, qSb, qSc]
          refine tk (i := 4) (v := ?vjf4) rfl (by kernel_rfl) (fun _ _ _ h => h) (Or.inl ⟨by rfl, ?hyjf4⟩) (by assumption) ?rjf4
          case hyjf4 => (intro w hSw; (try dsimp only at hSw); go_simp; try with_reducible rfl)
          try simp only [Act.put, qGa, qGb, qGc, qSa, qSb, qSc]
          refine tk (i := 5) (v := ?vjf5) rfl (by kernel_rfl) (fun _ _ _ h => h) (Or.inl ⟨by rfl, ?hyjf5⟩) (by assumption) ?rjf5
          case hyjf5 => (intro w hSw; (try dsimp only at hSw); go_simp; try with_reducible rfl)
          try simp only [Act.put, qGa, qGb, qGc, qSa, qSb, qSc]
          refine tk (i := 6) (v := ?vjf6) rfl (by kernel_rfl) (fun _ _ _ h => h) (Or.inl ⟨by rfl, ?hyjf6⟩) (by assumption) ?rjf6
          case hyjf6 => (intro w hSw; (try dsimp only at hSw); go_simp; try with_reducible rfl)
          try simp only [Act.put, qGa, qGb, qGc, qSa, qSb, qSc]
          refine wpAnyH_ready (rs := [1, 7]) (by kernel_rfl) (by simp) ?_
          refine AllReadyH.cons rfl (fun K29 hK29 => ?_) (AllReadyH.cons rfl (fun K30 hK30 => ?_) AllReadyH.nil)
          · have zl := houtW.cell 1
            go_simp
            refine hK29.out _ _ ⟨(HBOX.out _ (hbW)).cell 1, HROW.out _ (hbW)⟩ (fun hHeld => ?_)
            clear hK29 K29 zl
            try simp only [Act.put, qGa, qGb, qGc, qSa, qSb, qSc]
            refine wpAnyH_ready (rs := [7]) (by kernel_rfl) (by simp) ?_
            refine AllReadyH.cons rfl (fun K32 hK32 => ?_) AllReadyH.nil
            go_simp
            refine (HL1.out _ hbW).mono ?_
            rintro e w2 ⟨v2, rfl, hn2, hb2⟩
            have hbel2 := hbW.trans (hb2.mono hbW.size)
            have hn2k := hn2
            have hof2 := hofW.then_below (hb2.mono hofW.size)
            obtain ⟨a3, c3, rfl, -⟩ := hn2.ints hrw
            have hout2 := houtW.below hb2 houtW.lt
            have hor2 := horW.below hb2 (Nat.le_refl _)
            go_wp2_with fail
            refine hK32.out _ _ ⟨(HBOX.out _ (hbel2)).cell 1, HROW.out _ (hbel2)⟩ (fun hHeld => ?_)
            clear hK32 K32
            try simp only [Act.put, qGa, qGb, qGc, qSa, qSb, qSc]
            refine wpAnyH_ready (rs := [8]) (by kernel_rfl) (by simp) ?_
            refine AllReadyH.cons rfl (fun K34 hK34 => ?_) AllReadyH.nil
            obtain ⟨W3, hW3⟩ : ∃ x, x = w2.alloc (.cells #[.slice a3 rw1.length c3] 78) := ⟨_, rfl⟩
            have hbel3 : Below wb.heap.size wb W3 := by rw [hW3]; exact hbel2.alloc hbel2.size _
            have hout3 : Blk W3 go 33 #[.slice an2 nn2 cn2, .slice ak nk ck] := by rw [hW3]; exact hout2.alloc _
            have HW3 := Lib.hid hW3; clear hW3
            go_simp
            rw [← HW3.out]
            refine hK34.out _ _ ⟨(HBOX.out _ (hbel3)).cell 1, HROW.out _ (hbel3)⟩ (fun hHeld => ?_)
            clear hK34 K34
            try simp only [Act.put, qGa, qGb, qGc, qSa, qSb, qSc]
            refine wpAnyH_ready (rs := [9]) (by kernel_rfl) (by simp) ?_
            refine AllReadyH.cons rfl (fun K36 hK36 => ?_) AllReadyH.nil
            rw [HW3.out]
            refine stepL_one (w0 := W0) (w := w2) (.slice a3 rw1.length c3) rw1 rfl _ _ rfl wF.heap.size (.slice ak nk ck) (fl.take i) rfl rfl horW hb2 hn2k hrw hofW.size htl ?_
            intro v4 w4 hor4 hb4 haside
            have hbel4 := hbel2.trans (hb4.mono hwF)
            have hout4 := haside.blk go _ _ (by decide) hout2
            have hof4 := hof2.then_below hb4
            have hor4k := hor4
            obtain ⟨a4, c4, rfl, -⟩ := hor4.own.rows hrws
            obtain ⟨n4, hn4⟩ : ∃ n4, (fl.take i ++ [rw1]).length = n4 := ⟨_, rfl⟩
            rw [hn4] at hor4k ⊢
            clear hn4
            refine hK36.out _ _ ⟨(HBOX.out _ (hbel4)).cell 1, HROW.out _ (hbel4)⟩ (fun hHeld => ?_)
            clear hK36 K36 HW3 hbel3 hout3
            try simp only [Act.put, qGa, qGb, qGc, qSa, qSb, qSc]
            refine tk (i := 10) (v := ?vq3710) rfl (by kernel_rfl) (fun _ _ _ h => h) (Or.inl ⟨by rfl, ?hyq3710⟩) (by assumption) ?rq3710
            case hyq3710 => (intro w hSw; (try dsimp only at hSw); go_simp; try with_reducible rfl)
            try simp only [Act.put, qGa, qGb, qGc, qSa, qSb, qSc]
            refine wpAnyH_ready (rs := [11]) (by kernel_rfl) (by simp) ?_
            refine AllReadyH.cons rfl (fun K38 hK38 => ?_) AllReadyH.nil
            have zs := hout4.cell 1
            have fs := hout4.frozen 1
            have hout5 : Blk (w4.setCell ⟨go, 1, none⟩ (.slice a4 n4 c4)) go 33 #[.slice an2 nn2 cn2, .slice a4 n4 c4] := by
              have h := hout4.set_ 1 (.slice a4 n4 c4)
              simpa using h
            have hbel5 := hbel4.setCell (p := ⟨go, 1, none⟩) hgo (.slice a4 n4 c4)
            have hO5 := (Only.refl go w4).setCell 1 (.slice a4 n4 c4)
            have hor5 := OwnRowsL.off hor4k hout4 hO5.keeps (by decide) (by decide)
            have hof5 := Keeps.trans hof4 hO5.keeps
            go_simp
            refine hK38.out _ _ ⟨(HBOX.out _ (hbel5)).cell 1, HROW.out _ (hbel5)⟩ (fun hHeld => ?_)
            clear hK38 K38
            try simp only [Act.put, qGa, qGb, qGc, qSa, qSb, qSc]
            refine wpAnyH_done (by kernel_rfl) ?_ _
            go_wp2_with fail
            go_roundw
            case rel => exact ⟨i + 1, _, _, _, by omega, by go_num, hout5, by rw [HTK.out]; exact hor5, hof5, hbel5⟩
            case measure => simp [intOf]; omega
          · go_simp
            refine (HL1.out _ hbW).mono ?_
            rintro e w2 ⟨v2, rfl, hn2, hb2⟩
            have hbel2 := hbW.trans (hb2.mono hbW.size)
            have hn2k := hn2
            have hof2 := hofW.then_below (hb2.mono hofW.size)
            obtain ⟨a3, c3, rfl, -⟩ := hn2.ints hrw
            have hout2 := houtW.below hb2 houtW.lt
            have hor2 := horW.below hb2 (Nat.le_refl _)
            go_wp2_with fail
            refine hK30.out _ _ ⟨(HBOX.out _ (hbel2)).cell 1, HROW.out _ (hbel2)⟩ (fun hHeld => ?_)
            clear hK30 K30
            try simp only [Act.put, qGa, qGb, qGc, qSa, qSb, qSc]
            refine wpAnyH_ready (rs := [1, 8]) (by kernel_rfl) (by simp) ?_
            refine AllReadyH.cons rfl (fun K41 hK41 => ?_) (AllReadyH.cons rfl (fun K42 hK42 => ?_) AllReadyH.nil)
            · have zl := hout2.cell 1
              go_simp
              refine hK41.out _ _ ⟨(HBOX.out _ (hbel2)).cell 1, HROW.out _ (hbel2)⟩ (fun hHeld => ?_)
              clear hK41 K41 zl
              try simp only [Act.put, qGa, qGb, qGc, qSa, qSb, qSc]
              refine wpAnyH_ready (rs := [8]) (by kernel_rfl) (by simp) ?_
              refine AllReadyH.cons rfl (fun K44 hK44 => ?_) AllReadyH.nil
              obtain ⟨W3, hW3⟩ : ∃ x, x = w2.alloc (.cells #[.slice a3 rw1.length c3] 78) := ⟨_, rfl⟩
              have hbel3 : Below wb.heap.size wb W3 := by rw [hW3]; exact hbel2.alloc hbel2.size _
              have hout3 : Blk W3 go 33 #[.slice an2 nn2 cn2, .slice ak nk ck] := by rw [hW3]; exact hout2.alloc _
              have HW3 := Lib.hid hW3; clear hW3
              go_simp
              rw [← HW3.out]
              refine hK44.out _ _ ⟨(HBOX.out _ (hbel3)).cell 1, HROW.out _ (hbel3)⟩ (fun hHeld => ?_)
              clear hK44 K44
              try simp only [Act.put, qGa, qGb, qGc, qSa, qSb, qSc]
              refine wpAnyH_ready (rs := [9]) (by kernel_rfl) (by simp) ?_
              refine AllReadyH.cons rfl (fun K46 hK46 => ?_) AllReadyH.nil
              rw [HW3.out]
              refine stepL_one (w0 := W0) (w := w2) (.slice a3 rw1.length c3) rw1 rfl _ _ rfl wF.heap.size (.slice ak nk ck) (fl.take i) rfl rfl horW hb2 hn2k hrw hofW.size htl ?_
              intro v4 w4 hor4 hb4 haside
              have hbel4 := hbel2.trans (hb4.mono hwF)
              have hout4 := haside.blk go _ _ (by decide) hout2
              have hof4 := hof2.then_below hb4
              have hor4k := hor4
              obtain ⟨a4, c4, rfl, -⟩ := hor4.own.rows hrws
              obtain ⟨n4, hn4⟩ : ∃ n4, (fl.take i ++ [rw1]).length = n4 := ⟨_, rfl⟩
              rw [hn4] at hor4k ⊢
              clear hn4
              refine hK46.out _ _ ⟨(HBOX.out _ (hbel4)).cell 1, HROW.out _ (hbel4)⟩ (fun hHeld => ?_)
              clear hK46 K46 HW3 hbel3 hout3
              try simp only [Act.put, qGa, qGb, qGc, qSa, qSb, qSc]
              refine tk (i := 10) (v := ?vq4710) rfl (by kernel_rfl) (fun _ _ _ h => h) (Or.inl ⟨by rfl, ?hyq4710⟩) (by assumption) ?rq4710
              case hyq4710 => (intro w hSw; (try dsimp only at hSw); go_simp; try with_reducible rfl)
              try simp only [Act.put, qGa, qGb, qGc, qSa, qSb, qSc]
              refine wpAnyH_ready (rs := [11]) (by kernel_rfl) (by simp) ?_
              refine AllReadyH.cons rfl (fun K48 hK48 => ?_) AllReadyH.nil
              have zs := hout4.cell 1
              have fs := hout4.frozen 1
              have hout5 : Blk (w4.setCell ⟨go, 1, none⟩ (.slice a4 n4 c4)) go 33 #[.slice an2 nn2 cn2, .slice a4 n4 c4] := by
                have h := hout4.set_ 1 (.slice a4 n4 c4)
                simpa using h
              have hbel5 := hbel4.setCell (p := ⟨go, 1, none⟩) hgo (.slice a4 n4 c4)
              have hO5 := (Only.refl go w4).setCell 1 (.slice a4 n4 c4)
              have hor5 := OwnRowsL.off hor4k hout4 hO5.keeps (by decide) (by decide)
              have hof5 := Keeps.trans hof4 hO5.keeps
              go_simp
              refine hK48.out _ _ ⟨(HBOX.out _ (hbel5)).cell 1, HROW.out _ (hbel5)⟩ (fun hHeld => ?_)
              clear hK48 K48
              try simp only [Act.put, qGa, qGb, qGc, qSa, qSb, qSc]
              refine wpAnyH_done (by kernel_rfl) ?_ _
              go_wp2_with fail
              go_roundw
              case rel => exact ⟨i + 1, _, _, _, by omega, by go_num, hout5, by rw [HTK.out]; exact hor5, hof5, hbel5⟩
              case measure => simp [intOf]; omega
            · obtain ⟨W3, hW3⟩ : ∃ x, x = w2.alloc (.cells #[.slice a3 rw1.length c3] 78) := ⟨_, rfl⟩
              have hbel3 : Below wb.heap.size wb W3 := by rw [hW3]; exact hbel2.alloc hbel2.size _
              have hout3 : Blk W3 go 33 #[.slice an2 nn2 cn2, .slice ak nk ck] := by rw [hW3]; exact hout2.alloc _
              have HW3 := Lib.hid hW3; clear hW3
              go_simp
              rw [← HW3.out]
              refine hK42.out _ _ ⟨(HBOX.out _ (hbel3)).cell 1, HROW.out _ (hbel3)⟩ (fun hHeld => ?_)
              clear hK42 K42
              try simp only [Act.put, qGa, qGb, qGc, qSa, qSb, qSc]
              refine wpAnyH_ready (rs := [1]) (by kernel_rfl) (by simp) ?_
              refine AllReadyH.cons rfl (fun K51 hK51 => ?_) AllReadyH.nil
              have zl := hout3.cell 1
              go_simp
              refine hK51.out _ _ ⟨(HBOX.out _ (hbel3)).cell 1, HROW.out _ (hbel3)⟩ (fun hHeld => ?_)
              clear hK51 K51 zl
              try simp only [Act.put, qGa, qGb, qGc, qSa, qSb, qSc]
              refine wpAnyH_ready (rs := [9]) (by kernel_rfl) (by simp) ?_
              refine AllReadyH.cons rfl (fun K53 hK53 => ?_) AllReadyH.nil
              rw [HW3.out]
              refine stepL_one (w0 := W0) (w := w2) (.slice a3 rw1.length c3) rw1 rfl _ _ rfl wF.heap.size (.slice ak nk ck) (fl.take i) rfl rfl horW hb2 hn2k hrw hofW.size htl ?_
              intro v4 w4 hor4 hb4 haside
              have hbel4 := hbel2.trans (hb4.mono hwF)
              have hout4 := haside.blk go _ _ (by decide) hout2
              have hof4 := hof2.then_below hb4
              have hor4k := hor4
              obtain ⟨a4, c4, rfl, -⟩ := hor4.own.rows hrws
              obtain ⟨n4, hn4⟩ : ∃ n4, (fl.take i ++ [rw1]).length = n4 := ⟨_, rfl⟩
              rw [hn4] at hor4k ⊢
              clear hn4
              refine hK53.out _ _ ⟨(HBOX.out _ (hbel4)).cell 1, HROW.out _ (hbel4)⟩ (fun hHeld => ?_)
              clear hK53 K53 HW3 hbel3 hout3
              try simp only [Act.put, qGa, qGb, qGc, qSa, qSb, qSc]
              refine tk (i := 10) (v := ?vq5410) rfl (by kernel_rfl) (fun _ _ _ h => h) (Or.inl ⟨by rfl, ?hyq5410⟩) (by assumption) ?rq5410
              case hyq5410 => (intro w hSw; (try dsimp only at hSw); go_simp; try with_reducible rfl)
              try simp only [Act.put, qGa, qGb, qGc, qSa, qSb, qSc]
              refine wpAnyH_ready (rs := [11]) (by kernel_rfl) (by simp) ?_
              refine AllReadyH.cons rfl (fun K55 hK55 => ?_) AllReadyH.nil
              have zs := hout4.cell 1
              have fs := hout4.frozen 1
              have hout5 : Blk (w4.setCell ⟨go, 1, none⟩ (.slice a4 n4 c4)) go 33 #[.slice an2 nn2 cn2, .slice a4 n4 c4] := by
                have h := hout4.set_ 1 (.slice a4 n4 c4)
                simpa using h
              have hbel5 := hbel4.setCell (p := ⟨go, 1, none⟩) hgo (.slice a4 n4 c4)
              have hO5 := (Only.refl go w4).setCell 1 (.slice a4 n4 c4)
              have hor5 := OwnRowsL.off hor4k hout4 hO5.keeps (by decide) (by decide)
              have hof5 := Keeps.trans hof4 hO5.keeps
              go_simp
              refine hK55.out _ _ ⟨(HBOX.out _ (hbel5)).cell 1, HROW.out _ (hbel5)⟩ (fun hHeld => ?_)
              clear hK55 K55
              try simp only [Act.put, qGa, qGb, qGc, qSa, qSb, qSc]
              refine wpAnyH_done (by kernel_rfl) ?_ _
              go_wp2_with fail
              go_roundw
              case rel => exact ⟨i + 1, _, _, _, by omega, by go_num, hout5, by rw [HTK.out]; exact hor5, hof5, hbel5⟩
              case measure => simp [intOf]; omega
        · have ek : i = nf := by omega
          subst ek
          rw [List.take_of_length_le (by have := HFL.out; omega)] at hown
          have i2 : ¬ ((i : Int) < (i : Int)) := by omega
          have hoNr := OwnNdsU.off hoN.upto houtF hoth (by decide) (by decide) (by decide) (by decide)
          have hres3 := HRES.out wr hbel
          have hB3 := HA.out wr hbel
          have o0 := hout.cell 0; have o1 := hout.cell 1
          have z0 := hres3.cell 0; have z1 := hres3.cell 1
          have y0 := hres3.frozen 0; have y1 := hres3.frozen 1
          have hZ := Blk.set2 hres3 (.slice an2 nn2 cn2) (.slice ak nk ck)
          have hBZ := hB3.set2 hgr (.slice an2 nn2 cn2) (.slice ak nk ck)
          have hOZ := Only.set2 gr wr (.slice an2 nn2 cn2) (.slice ak nk ck)
          have p0 := hZ.cell 0; have p1 := hZ.cell 1
          have ho2 := (OwnNdsU.off hoNr hres3 hOZ.keeps (by decide) (by decide) (by decide) (by decide)).mono hs0
          have ho3 := OwnRowsL.off hown hres3 hOZ.keeps (by decide) (by decide)
          have hmid : wF.heap.size ≤ wr.heap.size := hoth.size
          have HBZ := Lib.hid hBZ; have HO2 := Lib.hid ho2; have HO3 := Lib.hid ho3
          clear hBZ ho2 ho3 hOZ hZ
          go_wp2_with fail
          refine bodyPost_ret (v := .agg #[.slice an2 nn2 cn2, .slice ak nk ck]) (by simp [results, Tryz.results51, go_sem, p0, p1]) rfl ?_
          exact ⟨wF.heap.size, _, _, rfl, ⟨by omega, by simpa using hmid, HO2.out, HO3.out⟩, HBZ.out⟩
end Go.Proofs.YtoniahfdjhhalaaGreat
