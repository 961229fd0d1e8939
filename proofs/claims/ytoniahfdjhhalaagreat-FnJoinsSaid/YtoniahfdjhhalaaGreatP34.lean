/- Texts of this claim, put together. -/
import Derived.Test.YtoniahfdjhhalaaGreatP1
import Derived.Test.YtoniahfdjhhalaaGreatP33

namespace Go.Proofs.YtoniahfdjhhalaaGreat
open Go.RowKit
theorem fallen_wf {nd : Nd} (h : NdWf nd) : NdWf (fallen nd) := by
  unfold fallen
  split
  · exact ⟨h.1, zeros_wf⟩
  · exact ⟨fun e he => by simp [zeroNd] at he, fun r hr => by simp [zeroNd] at hr⟩
set_option linter.unusedSimpArgs false in
set_option maxHeartbeats 8000000 in
set_option maxRecDepth 100000 in
theorem moved_fall_none (B : Nat) (an : Option Addr) (cn : Nat) (nds : List Nd) (af : Option Addr) (cf : Nat) (fl : List (List Int)) (dk dn dt dm a b c : Int) (w : World) (hx : Nds B w an nds.length cn nds) (hy : Rws B w af fl.length cf fl) (hB : B ≤ w.heap.size) (hfit : NetFit nds fl) (hok : stepOk ⟨7, dk, dn, dt, dm, a, b, c⟩ = true) (hno : inB a 0 ((nds.length : Int) - 1) = false) :
    Calls Tryz.prog 38 #[.agg #[.slice an nds.length cn, .slice af fl.length cf], .agg #[.int .i64 7, .int .i64 dk, .int .i64 dn, .int .i64 dt, .int .i64 dm, .int .i64 a, .int .i64 b, .int .i64 c]] w (NetSaid w.heap.size w.heap.size nds fl false w) := by
  have hnw := hx.allN
  have hfw := hy.allR
  have hnc := hx.hcap; have hnm := hx.hmax; have hfc := hy.hcap; have hfm := hy.hmax
  unfold maxLen at hnm hfm
  have ht1 := hfit.one; have ht2 := hfit.four; have ht3 := hfit.few
  obtain ⟨w0, hw0⟩ : ∃ x, x = w.alloc (.cells #[.slice an nds.length cn, .slice af fl.length cf] 33) := ⟨_, rfl⟩
  obtain ⟨w00, hw00⟩ : ∃ x, x = w0.alloc (.cells #[.int .i64 7, .int .i64 dk, .int .i64 dn, .int .i64 dt, .int .i64 dm, .int .i64 a, .int .i64 b, .int .i64 c] 62) := ⟨_, rfl⟩
  obtain ⟨wb, hwb⟩ : ∃ wb, wb = ((w.alloc (.cells #[.slice an nds.length cn, .slice af fl.length cf] 33)).alloc (.cells #[.int .i64 7, .int .i64 dk, .int .i64 dn, .int .i64 dt, .int .i64 dm, .int .i64 a, .int .i64 b, .int .i64 c] 62)).alloc (.cells #[.slice none 0 0, .slice none 0 0] 33) := ⟨_, rfl⟩
  obtain ⟨gn, hgn0⟩ : ∃ g, g = w.heap.size := ⟨_, rfl⟩
  obtain ⟨gs, hgs0⟩ : ∃ g, g = w.heap.size + 1 := ⟨_, rfl⟩
  obtain ⟨gr, hgr0⟩ : ∃ gr, gr = w.heap.size + 1 + 1 := ⟨_, rfl⟩
  have hnet : Blk wb gn 33 #[.slice an nds.length cn, .slice af fl.length cf] := by rw [hwb, hgn0]; exact ((Blk.new _ _ _).alloc _).alloc _
  have hstp : Blk wb gs 62 #[.int .i64 7, .int .i64 dk, .int .i64 dn, .int .i64 dt, .int .i64 dm, .int .i64 a, .int .i64 b, .int .i64 c] := by
    have h := Blk.new w0 62 #[.int .i64 7, .int .i64 dk, .int .i64 dn, .int .i64 dt, .int .i64 dm, .int .i64 a, .int .i64 b, .int .i64 c]
    have h1 : w0.heap.size = w.heap.size + 1 := by rw [hw0]; simp
    rw [h1] at h
    rw [hwb, hgs0, ← hw0]
    exact h.alloc _
  have hres : Blk wb gr 33 #[.slice none 0 0, .slice none 0 0] := by
    have h := Blk.new w00 33 #[.slice none 0 0, .slice none 0 0]
    have h1 : w00.heap.size = w.heap.size + 1 + 1 := by rw [hw00, hw0]; simp
    rw [h1] at h
    rw [hwb, hgr0, ← hw0, ← hw00]
    exact h
  have hb0 : Below w.heap.size w wb := by
    rw [hwb]
    exact (((Below.refl _ _).alloc (Nat.le_refl _) _).alloc (by simp) _).alloc (by simp; omega) _
  have hgrb : w.heap.size ≤ gr := by omega
  have hngr : gn ≠ gr := by omega
  have hsgr : gs ≠ gr := by omega
  have hs0 := hb0.size
  have hcp := l16Copy_any B an _ cn nds af _ cf fl wb (hx.below hb0 hB (Nat.le_refl B)) (hy.below hb0 hB (Nat.le_refl B)) (by omega) (by omega) (by omega) hfit.small (fun r hr => Nat.le_trans (hfit.short r hr) (by omega))
  have d0 := hnet.cell 0; have d1 := hnet.cell 1
  clear hw0 hw00
  go_enter Tryz.func38, Tryz.ntmps38
  go_upto_region 1 with fail
  rw [← hwb, ← hgr0, ← hgs0, ← hgn0]
  clear hwb hgr0 hgs0 hgn0
  go_wp2_with fail
  refine hcp.mono ?_
  rintro e w1 ⟨mid, nv, fv, rfl, hN1, hb1⟩
  obtain ⟨gd, cd, rfl, hgd, curd, hbd⟩ := hN1.nodes.own.ptr (by omega)
  obtain ⟨aq, cq, rfl⟩ := hN1.letters.own.slice
  clear hcp d0 d1
  obtain ⟨W2, hW2⟩ : ∃ x, x = w1.alloc (.cells #[.slice (some ⟨gd, 0, none⟩) nds.length cd, .slice aq fl.length cq] 33) := ⟨_, rfl⟩
  obtain ⟨go, hgo0⟩ : ∃ x, x = w1.heap.size := ⟨_, rfl⟩
  have hout2 : Blk W2 go 33 #[.slice (some ⟨gd, 0, none⟩) nds.length cd, .slice aq fl.length cq] := by rw [hW2, hgo0]; exact Blk.new _ _ _
  have hb12 : Below w1.heap.size w1 W2 := by rw [hW2]; exact (Below.refl _ _).alloc (Nat.le_refl _) _
  have hs1 := hb1.size
  have hgo : wb.heap.size ≤ go := by omega
  have hgrg : gr ≠ go := by have := hres.lt; omega
  go_upto_region 2 with fail
  rw [← hW2, ← hgo0]
  clear hW2 hgo0
  have hb02 := hb1.trans (hb12.mono hs1)
  have hstp2 := hstp.below hb02 hstp.lt
  have s0 := hstp2.cell 0; have s1 := hstp2.cell 1; have s2 := hstp2.cell 2; have s3 := hstp2.cell 3
  have s4 := hstp2.cell 4; have s5 := hstp2.cell 5; have s6 := hstp2.cell 6; have s7 := hstp2.cell 7
  have hsk := specStepOk_any ⟨7, dk, dn, dt, dm, a, b, c⟩ W2
  rw [hok] at hsk
  go_wp2_with fail
  refine hsk.mono ?_
  rintro e w3 ⟨rfl, hb3⟩
  have hb13 := hb12.trans (hb3.mono hb12.size)
  have hb03 := hb02.trans (hb3.mono hb02.size)
  have hN3 := hN1.below hb13
  have hnet3 := hnet.below hb03 hnet.lt
  have hstp3 := hstp.below hb03 hstp.lt
  have hres3 := hres.below hb03 hres.lt
  have hout3 := hout2.below hb3 hout2.lt
  have hbel3 := hb0.trans (hb03.mono hs0)
  have hkn3 : KeepNet w w3 := KeepNet.of_below hbel3
  have hsz3 := hb03.size
  have hle := hN3.le
  have hmid := hN3.size
  clear s0 s1 s2 s3 s4 s5 s6 s7 hnet hstp hres hout2 hstp2 hb1 hb12 hb02 hb3 hb13 hb0 hN1 hsk hbd curd
  have s0 := hstp3.cell 0; have s1 := hstp3.cell 1; have s2 := hstp3.cell 2; have s3 := hstp3.cell 3
  have s4 := hstp3.cell 4; have s5 := hstp3.cell 5; have s6 := hstp3.cell 6; have s7 := hstp3.cell 7
  have d0 := hnet3.cell 0; have d1 := hnet3.cell 1
  have o0 := hout3.cell 0; have o1 := hout3.cell 1
  go_wp2_with fail
  refine (l16Has_any an _ cn af _ cf a _ (by omega)).mono ?_
  rintro e w4 ⟨rfl, hb4⟩
  rw [hno]
  have hN4 := hN3.below hb4
  have hres4 := hres3.below hb4 hres3.lt
  have hout4 := hout3.below hb4 hout3.lt
  have hbel4 := hbel3.trans (hb4.mono hbel3.size)
  have hkn4 := hkn3.trans (KeepNet.of_below hb4)
  clear s0 s1 s2 s3 s4 s5 s6 s7 d0 d1 o0 o1
  have o0 := hout4.cell 0; have o1 := hout4.cell 1
  have hstp4 := hstp3.below hb4 hstp3.lt
  have hnet4 := hnet3.below hb4 hnet3.lt
  have s0 := hstp4.cell 0; have s5 := hstp4.cell 5; have d1 := hnet4.cell 1
  have q1 := OwnNds.mono hN4.nodes.own hs0
  have q2 := OwnRows.mono hN4.letters.own (show w.heap.size ≤ mid by omega)
  have z0 := hres4.cell 0; have z1 := hres4.cell 1
  have y0 := hres4.frozen 0; have y1 := hres4.frozen 1
  have hZ := Blk.set2 hres4 (.slice (some ⟨gd, 0, none⟩) nds.length cd) (.slice aq fl.length cq)
  have hBZ := hbel4.set2 hgrb (.slice (some ⟨gd, 0, none⟩) nds.length cd) (.slice aq fl.length cq)
  have hOZ := Only.set2 gr w4 (.slice (some ⟨gd, 0, none⟩) nds.length cd) (.slice aq fl.length cq)
  have p0 := hZ.cell 0; have p1 := hZ.cell 1
  have HQ1 := Lib.hid (OwnNds.off q1 hres4 hOZ.keeps (by decide) (by decide) (by decide) (by decide))
  have HQ2 := Lib.hid (OwnRows.off q2 hres4 hOZ.keeps (by decide) (by decide))
  have HBZ := Lib.hid hBZ
  have HKN := Lib.hid ((hkn4.set_ (p := ⟨gr, 0, none⟩) (by show w.heap.size ≤ gr; omega) (.slice (some ⟨gd, 0, none⟩) nds.length cd)).set_ (p := ⟨gr, 1, none⟩) (by show w.heap.size ≤ gr; omega) (.slice aq fl.length cq))
  clear hBZ hZ hOZ q1 q2
  go_wp2_with fail
  refine bodyPost_ret (v := .tuple #[.agg #[.slice (some ⟨gd, 0, none⟩) nds.length cd, .slice aq fl.length cq], .bool false]) (by simp [results, Tryz.results38, go_sem, p0, p1]) rfl ?_
  exact ⟨_, rfl, ⟨_, _, rfl, HQ1.out, HQ2.out⟩, HBZ.out, HKN.out⟩
set_option linter.unusedSimpArgs false in
set_option maxHeartbeats 8000000 in
set_option maxRecDepth 100000 in
theorem moved_fall (B : Nat) (an : Option Addr) (cn : Nat) (nds : List Nd) (af : Option Addr) (cf : Nat) (fl : List (List Int)) (dk dn dt dm b c : Int) (at0 : Nat) (w : World) (hx : Nds B w an nds.length cn nds) (hy : Rws B w af fl.length cf fl) (hB : B ≤ w.heap.size) (hfit : NetFit nds fl) (hok : stepOk ⟨7, dk, dn, dt, dm, at0, b, c⟩ = true) (hdn : at0 < nds.length) :
    Calls Tryz.prog 38 #[.agg #[.slice an nds.length cn, .slice af fl.length cf], .agg #[.int .i64 7, .int .i64 dk, .int .i64 dn, .int .i64 dt, .int .i64 dm, .int .i64 at0, .int .i64 b, .int .i64 c]] w (NetSaid w.heap.size w.heap.size (nds.set at0 (fallen (ND nds at0))) fl true w) := by
  have hnw := hx.allN
  have hfw := hy.allR
  have hnc := hx.hcap; have hnm := hx.hmax; have hfc := hy.hcap; have hfm := hy.hmax
  unfold maxLen at hnm hfm
  have ht1 := hfit.one; have ht2 := hfit.four; have ht3 := hfit.few
  obtain ⟨w0, hw0⟩ : ∃ x, x = w.alloc (.cells #[.slice an nds.length cn, .slice af fl.length cf] 33) := ⟨_, rfl⟩
  obtain ⟨w00, hw00⟩ : ∃ x, x = w0.alloc (.cells #[.int .i64 7, .int .i64 dk, .int .i64 dn, .int .i64 dt, .int .i64 dm, .int .i64 at0, .int .i64 b, .int .i64 c] 62) := ⟨_, rfl⟩
  obtain ⟨wb, hwb⟩ : ∃ wb, wb = ((w.alloc (.cells #[.slice an nds.length cn, .slice af fl.length cf] 33)).alloc (.cells #[.int .i64 7, .int .i64 dk, .int .i64 dn, .int .i64 dt, .int .i64 dm, .int .i64 at0, .int .i64 b, .int .i64 c] 62)).alloc (.cells #[.slice none 0 0, .slice none 0 0] 33) := ⟨_, rfl⟩
  obtain ⟨gn, hgn0⟩ : ∃ g, g = w.heap.size := ⟨_, rfl⟩
  obtain ⟨gs, hgs0⟩ : ∃ g, g = w.heap.size + 1 := ⟨_, rfl⟩
  obtain ⟨gr, hgr0⟩ : ∃ gr, gr = w.heap.size + 1 + 1 := ⟨_, rfl⟩
  have hnet : Blk wb gn 33 #[.slice an nds.length cn, .slice af fl.length cf] := by rw [hwb, hgn0]; exact ((Blk.new _ _ _).alloc _).alloc _
  have hstp : Blk wb gs 62 #[.int .i64 7, .int .i64 dk, .int .i64 dn, .int .i64 dt, .int .i64 dm, .int .i64 at0, .int .i64 b, .int .i64 c] := by
    have h := Blk.new w0 62 #[.int .i64 7, .int .i64 dk, .int .i64 dn, .int .i64 dt, .int .i64 dm, .int .i64 at0, .int .i64 b, .int .i64 c]
    have h1 : w0.heap.size = w.heap.size + 1 := by rw [hw0]; simp
    rw [h1] at h
    rw [hwb, hgs0, ← hw0]
    exact h.alloc _
  have hres : Blk wb gr 33 #[.slice none 0 0, .slice none 0 0] := by
    have h := Blk.new w00 33 #[.slice none 0 0, .slice none 0 0]
    have h1 : w00.heap.size = w.heap.size + 1 + 1 := by rw [hw00, hw0]; simp
    rw [h1] at h
    rw [hwb, hgr0, ← hw0, ← hw00]
    exact h
  have hb0 : Below w.heap.size w wb := by
    rw [hwb]
    exact (((Below.refl _ _).alloc (Nat.le_refl _) _).alloc (by simp) _).alloc (by simp; omega) _
  have hgrb : w.heap.size ≤ gr := by omega
  have hngr : gn ≠ gr := by omega
  have hsgr : gs ≠ gr := by omega
  have hs0 := hb0.size
  have hcp := l16Copy_any B an _ cn nds af _ cf fl wb (hx.below hb0 hB (Nat.le_refl B)) (hy.below hb0 hB (Nat.le_refl B)) (by omega) (by omega) (by omega) hfit.small (fun r hr => Nat.le_trans (hfit.short r hr) (by omega))
  have d0 := hnet.cell 0; have d1 := hnet.cell 1
  clear hw0 hw00
  go_enter Tryz.func38, Tryz.ntmps38
  go_upto_region 1 with fail
  rw [← hwb, ← hgr0, ← hgs0, ← hgn0]
  clear hwb hgr0 hgs0 hgn0
  go_wp2_with fail
  refine hcp.mono ?_
  rintro e w1 ⟨mid, nv, fv, rfl, hN1, hb1⟩
  obtain ⟨gd, cd, rfl, hgd, curd, hbd⟩ := hN1.nodes.own.ptr (by omega)
  obtain ⟨aq, cq, rfl⟩ := hN1.letters.own.slice
  clear hcp d0 d1
  obtain ⟨W2, hW2⟩ : ∃ x, x = w1.alloc (.cells #[.slice (some ⟨gd, 0, none⟩) nds.length cd, .slice aq fl.length cq] 33) := ⟨_, rfl⟩
  obtain ⟨go, hgo0⟩ : ∃ x, x = w1.heap.size := ⟨_, rfl⟩
  have hout2 : Blk W2 go 33 #[.slice (some ⟨gd, 0, none⟩) nds.length cd, .slice aq fl.length cq] := by rw [hW2, hgo0]; exact Blk.new _ _ _
  have hb12 : Below w1.heap.size w1 W2 := by rw [hW2]; exact (Below.refl _ _).alloc (Nat.le_refl _) _
  have hs1 := hb1.size
  have hgo : wb.heap.size ≤ go := by omega
  have hgrg : gr ≠ go := by have := hres.lt; omega
  go_upto_region 2 with fail
  rw [← hW2, ← hgo0]
  clear hW2 hgo0
  have hb02 := hb1.trans (hb12.mono hs1)
  have hstp2 := hstp.below hb02 hstp.lt
  have s0 := hstp2.cell 0; have s1 := hstp2.cell 1; have s2 := hstp2.cell 2; have s3 := hstp2.cell 3
  have s4 := hstp2.cell 4; have s5 := hstp2.cell 5; have s6 := hstp2.cell 6; have s7 := hstp2.cell 7
  have hsk := specStepOk_any ⟨7, dk, dn, dt, dm, at0, b, c⟩ W2
  rw [hok] at hsk
  go_wp2_with fail
  refine hsk.mono ?_
  rintro e w3 ⟨rfl, hb3⟩
  have hb13 := hb12.trans (hb3.mono hb12.size)
  have hb03 := hb02.trans (hb3.mono hb02.size)
  have hN3 := hN1.below hb13
  have hnet3 := hnet.below hb03 hnet.lt
  have hstp3 := hstp.below hb03 hstp.lt
  have hres3 := hres.below hb03 hres.lt
  have hout3 := hout2.below hb3 hout2.lt
  have hbel3 := hb0.trans (hb03.mono hs0)
  have hkn3 : KeepNet w w3 := KeepNet.of_below hbel3
  have hsz3 := hb03.size
  have hle := hN3.le
  have hmid := hN3.size
  clear s0 s1 s2 s3 s4 s5 s6 s7 hnet hstp hres hout2 hstp2 hb1 hb12 hb02 hb3 hb13 hb0 hN1 hsk hbd curd
  have s0 := hstp3.cell 0; have s1 := hstp3.cell 1; have s2 := hstp3.cell 2; have s3 := hstp3.cell 3
  have s4 := hstp3.cell 4; have s5 := hstp3.cell 5; have s6 := hstp3.cell 6; have s7 := hstp3.cell 7
  have d0 := hnet3.cell 0; have d1 := hnet3.cell 1
  have o0 := hout3.cell 0; have o1 := hout3.cell 1
  go_wp2_with fail
  refine (l16Has_any an _ cn af _ cf at0 _ (by omega)).mono ?_
  rintro e w4 ⟨rfl, hb4⟩
  have hin : inB (at0 : Int) 0 ((nds.length : Int) - 1) = true := by simp [inB]; omega
  rw [hin]
  clear hin
  have hN4 := hN3.below hb4
  have hres4 := hres3.below hb4 hres3.lt
  have hout4 := hout3.below hb4 hout3.lt
  have hstp4 := hstp3.below hb4 hstp3.lt
  have hbel4 := hbel3.trans (hb4.mono hbel3.size)
  have hkn4 := hkn3.trans (KeepNet.of_below hb4)
  clear s0 s1 s2 s3 s4 s5 s6 s7 d0 d1 o0 o1
  go_upto_region 11 with fail
  have hwf := fallen_wf (hnw at0 hdn)
  have i0 : (0 : Int) ≤ at0 := by omega
  have i1 : (at0 : Int) < nds.length := by omega
  have hgdw : w.heap.size ≤ gd := by omega
  refine wp_region_held_drew (S := (fun w' => w'.cell? ⟨go, 0, none⟩ = some (.slice (some ⟨gd, 0, none⟩) nds.length cd) ∧ w'.cell? ⟨gs, 5, none⟩ = some (.int .i64 at0))) (by kernel_rfl) ⟨(hout4.drewN 1).cell 0, (hstp4.drewN 1).cell 5⟩ (fun hHeld => ?_)
  obtain ⟨W0, hW0⟩ : ∃ x, x = w4.drew := ⟨_, rfl⟩
  have hbW : Below w4.heap.size w4 W0 := by rw [hW0]; exact (Below.refl _ _).drew
  rw [← hW0] at hHeld ⊢
  clear hW0
  have hN0 := hN4.below hbW
  have hres0 := hres4.below hbW hres4.lt
  have hout0 := hout4.below hbW hout4.lt
  have hstp0 := hstp4.below hbW hstp4.lt
  obtain ⟨ab, cb, aa, ca, c0, c1, c2, -, -, -, hei, hez, hri⟩ := hN0.nodes.own.spot hnw at0 hdn
  have hfal := specFallen_any W0.heap.size (ND nds at0).me ab _ cb (ND nds at0).book aa _ ca (ND nds at0).acks W0 hei hez hri (Nat.le_refl _)
  have hnd' : (⟨(ND nds at0).me, (ND nds at0).book, (ND nds at0).acks⟩ : Nd) = ND nds at0 := rfl
  rw [hnd'] at hfal
  clear hnd'
  obtain ⟨nd', hr⟩ : ∃ r, fallen (ND nds at0) = r := ⟨_, rfl⟩
  have HR := Lib.hid hr
  rw [hr] at hwf hfal
  clear hr
  generalize ND nds at0 = nd at c0 c1 c2 hei hri hfal
  have HFAL := Lib.hid hfal; clear hfal hei hri
  refine tk (i := 0) (v := ?vf0) rfl (by kernel_rfl) (fun _ _ _ h => h) (Or.inl ⟨by rfl, ?hyf0⟩) (by assumption) ?rf0
  case hyf0 => (intro w hSw; (try dsimp only at hSw); go_simp; try with_reducible rfl)
  try simp only [Act.put, qGa, qGb, qGc, qSa, qSb, qSc]
  refine tk (i := 1) (v := ?vf1) rfl (by kernel_rfl) (fun _ _ _ h => h) (Or.inl ⟨by rfl, ?hyf1⟩) (by assumption) ?rf1
  case hyf1 => (intro w hSw; (try dsimp only at hSw); go_simp; try with_reducible rfl)
  try simp only [Act.put, qGa, qGb, qGc, qSa, qSb, qSc]
  refine tk (i := 2) (v := ?vf2) rfl (by kernel_rfl) (fun _ _ _ h => h) (Or.inl ⟨by rfl, ?hyf2⟩) (by assumption) ?rf2
  case hyf2 => (intro w hSw; (try dsimp only at hSw); go_simp; try with_reducible rfl)
  try simp only [Act.put, qGa, qGb, qGc, qSa, qSb, qSc]
  refine tk (i := 3) (v := ?vf3) rfl (by kernel_rfl) (fun _ _ _ h => h) (Or.inl ⟨by rfl, ?hyf3⟩) (by assumption) ?rf3
  case hyf3 => (intro w hSw; (try dsimp only at hSw); go_simp; try with_reducible rfl)
  try simp only [Act.put, qGa, qGb, qGc, qSa, qSb, qSc]
  refine tk (i := 4) (v := ?vf4) rfl (by kernel_rfl) (fun _ _ _ h => h) (Or.inl ⟨by rfl, ?hyf4⟩) (by assumption) ?rf4
  case hyf4 => (intro w hSw; (try dsimp only at hSw); go_simp; try with_reducible rfl)
  try simp only [Act.put, qGa, qGb, qGc, qSa, qSb, qSc]
  refine tk (i := 5) (v := ?vf5) rfl (by kernel_rfl) (fun _ _ _ h => h) (Or.inl ⟨by rfl, ?hyf5⟩) (by assumption) ?rf5
  case hyf5 => (intro w hSw; (try dsimp only at hSw); go_simp; try with_reducible rfl)
  try simp only [Act.put, qGa, qGb, qGc, qSa, qSb, qSc]
  refine tk (i := 6) (v := ?vf6) rfl (by kernel_rfl) (fun _ _ _ h => h) (Or.inl ⟨by rfl, ?hyf6⟩) (by assumption) ?rf6
  case hyf6 => (intro w hSw; (try dsimp only at hSw); go_simp; try with_reducible rfl)
  try simp only [Act.put, qGa, qGb, qGc, qSa, qSb, qSc]
  refine tk (i := 7) (v := ?vf7) rfl (by kernel_rfl) (fun _ _ _ h => h) (Or.inl ⟨by rfl, ?hyf7⟩) (by assumption) ?rf7
  case hyf7 => (intro w hSw; (try dsimp only at hSw); go_simp; try with_reducible rfl)
  try simp only [Act.put, qGa, qGb, qGc, qSa, qSb, qSc]
  refine tk (i := 8) (v := ?vf8) rfl (by kernel_rfl) (fun _ _ _ h => h) (Or.inl ⟨by rfl, ?hyf8⟩) (by assumption) ?rf8
  case hyf8 => (intro w hSw; (try dsimp only at hSw); go_simp; try with_reducible rfl)
  try simp only [Act.put, qGa, qGb, qGc, qSa, qSb, qSc]
  refine wpAnyH_ready (rs := [9]) (by kernel_rfl) (by simp) ?_
  refine AllReadyH.cons rfl (fun Ka hKa => ?_) AllReadyH.nil
  go_simp
  refine hKa.out _ _ ⟨(hout0).cell 0, (hstp0).cell 5⟩ (fun hHeld => ?_)
  clear hKa Ka
  try simp only [Act.put, qGa, qGb, qGc, qSa, qSb, qSc]
  clear c0 c1 c2
  refine wpAnyH_ready (rs := [10]) (by kernel_rfl) (by simp) ?_
  refine AllReadyH.cons rfl (fun Kb hKb => ?_) AllReadyH.nil
  go_simp
  refine HFAL.out.mono ?_
  rintro e w5 ⟨bv, av, rfl, hob, hoa, hb5⟩
  have hobk := hob
  have hoak := hoa
  obtain ⟨a2, k2, rfl, -⟩ := hob.ents hwf.1
  obtain ⟨a3, k3, rfl, -⟩ := hoa.rows hwf.2
  have hout5 := hout0.below hb5 hout0.lt
  have hstp5 := hstp0.below hb5 hstp0.lt
  go_wp2_with fail
  refine hKb.out _ _ ⟨(hout5).cell 0, (hstp5).cell 5⟩ (fun hHeld => ?_)
  clear hKb Kb
  try simp only [Act.put, qGa, qGb, qGc, qSa, qSb, qSc]
  refine tk (i := 11) (v := ?vg11) rfl (by kernel_rfl) (fun _ _ _ h => h) (Or.inl ⟨by rfl, ?hyg11⟩) (by assumption) ?rg11
  case hyg11 => (intro w hSw; (try dsimp only at hSw); go_simp; try with_reducible rfl)
  try simp only [Act.put, qGa, qGb, qGc, qSa, qSb, qSc]
  have hb45 := hbW.trans (hb5.mono hbW.size)
  have hnod5 := hN0.nodes.own.below hb5 (Nat.le_refl _)
  have hlet5 := hN0.letters.own.below hb5 (Nat.le_refl _)
  have hres5 := hres0.below hb5 hres0.lt
  have hbel5 := hbel4.trans (hb45.mono hbel4.size)
  have hkn5 := hkn4.trans (KeepNet.of_below hb45)
  have hbw : wb.heap.size ≤ W0.heap.size := by have := hbW.size; have := hb4.size; omega
  obtain ⟨gd', cap', he', -, cur, hblk⟩ := hnod5.ptr (by omega)
  cases he'
  have g0 : w5.frozen? ⟨gd, at0 * 3, none⟩ = false := hblk.frozen _
  have g1 : w5.frozen? ⟨gd, at0 * 3 + 1, none⟩ = false := hblk.frozen _
  have g2 : w5.frozen? ⟨gd, at0 * 3 + 2, none⟩ = false := hblk.frozen _
  obtain ⟨_, _, _, _, u0, u1, u2, -⟩ := hnod5.spot hnw at0 hdn
  have hk := keeps_set3 (g := gd) (o := at0 * 3) w5 (.int .i64 nd'.me) (.slice a2 nd'.book.length k2) (.slice a3 nd'.acks.length k3)
  have q1 := hnod5.put at0 hdn nd' _ _ (hobk.mono hbw) (hoak.mono hbw)
  have q2 := hlet5.off hblk hk (by decide) (by decide)
  have hres7 := hres5.offT hblk hk (by decide)
  have hout7 := hout5.offT hblk hk (by decide)
  have hstp7 := hstp5.offT hblk hk (by decide)
  have hbel7 := ((hbel5.setCell (p := ⟨gd, at0 * 3, none⟩) hgdw (.int .i64 nd'.me)).setCell (p := ⟨gd, at0 * 3 + 1, none⟩) hgdw (.slice a2 nd'.book.length k2)).setCell (p := ⟨gd, at0 * 3 + 2, none⟩) hgdw (.slice a3 nd'.acks.length k3)
  have hkn7 := hkn5.trans (fun g t cs ht h => h.offT hblk hk (by rcases ht with rfl | rfl <;> decide))
  clear hblk hk
  refine wpAnyH_ready (rs := [12]) (by kernel_rfl) (by simp) ?_
  refine AllReadyH.cons rfl (fun Kc hKc => ?_) AllReadyH.nil
  go_simp
  refine hKc.out _ _ ⟨(hout7).cell 0, (hstp7).cell 5⟩ (fun hHeld => ?_)
  clear hKc Kc
  try simp only [Act.put, qGa, qGb, qGc, qSa, qSb, qSc]
  refine wpAnyH_done (by kernel_rfl) ?_ _
  obtain ⟨W7, hW7⟩ : ∃ x, x = ((w5.setCell ⟨gd, at0 * 3, none⟩ (.int .i64 nd'.me)).setCell ⟨gd, at0 * 3 + 1, none⟩ (.slice a2 nd'.book.length k2)).setCell ⟨gd, at0 * 3 + 2, none⟩ (.slice a3 nd'.acks.length k3) := ⟨_, rfl⟩
  rw [← hW7] at q1 q2 hres7 hout7 hbel7 hkn7 ⊢
  clear hW7 g0 g1 g2 u0 u1 u2
  replace q1 := OwnNds.mono q1 hs0
  replace q2 := OwnRows.mono q2 (show w.heap.size ≤ mid by omega)
  have o0 := hout7.cell 0; have o1 := hout7.cell 1
  have z0 := hres7.cell 0; have z1 := hres7.cell 1
  have y0 := hres7.frozen 0; have y1 := hres7.frozen 1
  have hZ := Blk.set2 hres7 (.slice (some ⟨gd, 0, none⟩) nds.length cd) (.slice aq fl.length cq)
  have hBZ := hbel7.set2 hgrb (.slice (some ⟨gd, 0, none⟩) nds.length cd) (.slice aq fl.length cq)
  have hOZ := Only.set2 gr W7 (.slice (some ⟨gd, 0, none⟩) nds.length cd) (.slice aq fl.length cq)
  have p0 := hZ.cell 0; have p1 := hZ.cell 1
  have HQ1 := Lib.hid (OwnNds.off q1 hres7 hOZ.keeps (by decide) (by decide) (by decide) (by decide))
  have HQ2 := Lib.hid (OwnRows.off q2 hres7 hOZ.keeps (by decide) (by decide))
  have HBZ := Lib.hid hBZ
  have HKN := Lib.hid ((hkn7.set_ (p := ⟨gr, 0, none⟩) (by show w.heap.size ≤ gr; omega) (.slice (some ⟨gd, 0, none⟩) nds.length cd)).set_ (p := ⟨gr, 1, none⟩) (by show w.heap.size ≤ gr; omega) (.slice aq fl.length cq))
  clear hBZ hZ hOZ q1 q2
  go_wp2_with fail
  refine bodyPost_ret (v := .tuple #[.agg #[.slice (some ⟨gd, 0, none⟩) nds.length cd, .slice aq fl.length cq], .bool true]) (by simp [results, Tryz.results38, go_sem, p0, p1]) rfl ?_
  exact ⟨_, rfl, ⟨_, _, rfl, by rw [HR.out]; exact HQ1.out, HQ2.out⟩, HBZ.out, HKN.out⟩
end Go.Proofs.YtoniahfdjhhalaaGreat
