/- Texts of this claim, put together. -/
import Derived.Test.YtoniahfdjhhalaaGreatP1
import Derived.Test.YtoniahfdjhhalaaGreatP33

namespace Go.Proofs.YtoniahfdjhhalaaGreat
open Go.RowKit
theorem RW_mem {rows : List (List Int)} {j : Nat} (h : j < rows.length) : RW rows j ∈ rows := by
  rw [RW_get h]
  exact List.getElem_mem _
set_option linter.unusedSimpArgs false in
set_option maxHeartbeats 8000000 in
set_option maxRecDepth 100000 in
theorem moved_hand (B : Nat) (an : Option Addr) (cn : Nat) (nds : List Nd) (af : Option Addr) (cf : Nat) (fl : List (List Int)) (dk dn dt dm c : Int) (at0 bt0 : Nat) (w : World) (hx : Nds B w an nds.length cn nds) (hy : Rws B w af fl.length cf fl) (hB : B ≤ w.heap.size) (hfit : NetFit nds fl) (hok : stepOk ⟨3, dk, dn, dt, dm, at0, bt0, c⟩ = true) (hat : at0 < fl.length) :
    Calls Tryz.prog 38 #[.agg #[.slice an nds.length cn, .slice af fl.length cf], .agg #[.int .i64 3, .int .i64 dk, .int .i64 dn, .int .i64 dt, .int .i64 dm, .int .i64 at0, .int .i64 bt0, .int .i64 c]] w (NetSaid w.heap.size w.heap.size (hearAll nds (RW fl at0)) (fl.eraseIdx at0) (hearSome nds (RW fl at0)) w) := by
  have hnw := hx.allN
  have hfw := hy.allR
  have hnc := hx.hcap; have hnm := hx.hmax; have hfc := hy.hcap; have hfm := hy.hmax
  unfold maxLen at hnm hfm
  have ht1 := hfit.one; have ht2 := hfit.four; have ht3 := hfit.few
  obtain ⟨w0, hw0⟩ : ∃ x, x = w.alloc (.cells #[.slice an nds.length cn, .slice af fl.length cf] 33) := ⟨_, rfl⟩
  obtain ⟨w00, hw00⟩ : ∃ x, x = w0.alloc (.cells #[.int .i64 3, .int .i64 dk, .int .i64 dn, .int .i64 dt, .int .i64 dm, .int .i64 at0, .int .i64 bt0, .int .i64 c] 62) := ⟨_, rfl⟩
  obtain ⟨wb, hwb⟩ : ∃ wb, wb = ((w.alloc (.cells #[.slice an nds.length cn, .slice af fl.length cf] 33)).alloc (.cells #[.int .i64 3, .int .i64 dk, .int .i64 dn, .int .i64 dt, .int .i64 dm, .int .i64 at0, .int .i64 bt0, .int .i64 c] 62)).alloc (.cells #[.slice none 0 0, .slice none 0 0] 33) := ⟨_, rfl⟩
  obtain ⟨gn, hgn0⟩ : ∃ g, g = w.heap.size := ⟨_, rfl⟩
  obtain ⟨gs, hgs0⟩ : ∃ g, g = w.heap.size + 1 := ⟨_, rfl⟩
  obtain ⟨gr, hgr0⟩ : ∃ gr, gr = w.heap.size + 1 + 1 := ⟨_, rfl⟩
  have hnet : Blk wb gn 33 #[.slice an nds.length cn, .slice af fl.length cf] := by rw [hwb, hgn0]; exact ((Blk.new _ _ _).alloc _).alloc _
  have hstp : Blk wb gs 62 #[.int .i64 3, .int .i64 dk, .int .i64 dn, .int .i64 dt, .int .i64 dm, .int .i64 at0, .int .i64 bt0, .int .i64 c] := by
    have h := Blk.new w0 62 #[.int .i64 3, .int .i64 dk, .int .i64 dn, .int .i64 dt, .int .i64 dm, .int .i64 at0, .int .i64 bt0, .int .i64 c]
    have h1 : w0.heap.size = w.heap.size + 1 := by rw [hw0]; simp
    rw [h1] at h
    rw [hwb, hgs0, ← hw0]
    exact h.alloc _
  have hres : Blk wb gr 33 #[.slice none 0 0, .slice none 0 0] := by
    have h := Blk.new w00 33 #[.slice none 0 0, .slice none 0 0]
    have h1 : w00.heap.size = w.heap.size + 1 + 1 := by rw [hw00, hw0]; simp
    rw [h1] at h
    rw [hwb, hgr0, ← hw0, ← hw00]
    exact h
  have hb0 : Below w.heap.size w wb := by
    rw [hwb]
    exact (((Below.refl _ _).alloc (Nat.le_refl _) _).alloc (by simp) _).alloc (by simp; omega) _
  have hgrb : w.heap.size ≤ gr := by omega
  have hngr : gn ≠ gr := by omega
  have hsgr : gs ≠ gr := by omega
  have hs0 := hb0.size
  have hcp := l16Copy_any B an _ cn nds af _ cf fl wb (hx.below hb0 hB (Nat.le_refl B)) (hy.below hb0 hB (Nat.le_refl B)) (by omega) (by omega) (by omega) hfit.small (fun r hr => Nat.le_trans (hfit.short r hr) (by omega))
  have d0 := hnet.cell 0; have d1 := hnet.cell 1
  clear hw0 hw00
  go_enter Tryz.func38, Tryz.ntmps38
  go_upto_region 1 with fail
  rw [← hwb, ← hgr0, ← hgs0, ← hgn0]
  clear hwb hgr0 hgs0 hgn0
  go_wp2_with fail
  refine hcp.mono ?_
  rintro e w1 ⟨mid, nv, fv, rfl, hN1, hb1⟩
  obtain ⟨gd, cd, rfl, hgd, curd, hbd⟩ := hN1.nodes.own.ptr (by omega)
  obtain ⟨aq, cq, rfl⟩ := hN1.letters.own.slice
  clear hcp d0 d1
  obtain ⟨W2, hW2⟩ : ∃ x, x = w1.alloc (.cells #[.slice (some ⟨gd, 0, none⟩) nds.length cd, .slice aq fl.length cq] 33) := ⟨_, rfl⟩
  obtain ⟨go, hgo0⟩ : ∃ x, x = w1.heap.size := ⟨_, rfl⟩
  have hout2 : Blk W2 go 33 #[.slice (some ⟨gd, 0, none⟩) nds.length cd, .slice aq fl.length cq] := by rw [hW2, hgo0]; exact Blk.new _ _ _
  have hb12 : Below w1.heap.size w1 W2 := by rw [hW2]; exact (Below.refl _ _).alloc (Nat.le_refl _) _
  have hs1 := hb1.size
  have hgo : wb.heap.size ≤ go := by omega
  have hgrg : gr ≠ go := by have := hres.lt; omega
  go_upto_region 2 with fail
  rw [← hW2, ← hgo0]
  clear hW2 hgo0
  have hb02 := hb1.trans (hb12.mono hs1)
  have hstp2 := hstp.below hb02 hstp.lt
  have s0 := hstp2.cell 0; have s1 := hstp2.cell 1; have s2 := hstp2.cell 2; have s3 := hstp2.cell 3
  have s4 := hstp2.cell 4; have s5 := hstp2.cell 5; have s6 := hstp2.cell 6; have s7 := hstp2.cell 7
  have hsk := specStepOk_any ⟨3, dk, dn, dt, dm, at0, bt0, c⟩ W2
  rw [hok] at hsk
  go_wp2_with fail
  refine hsk.mono ?_
  rintro e w3 ⟨rfl, hb3⟩
  have hb13 := hb12.trans (hb3.mono hb12.size)
  have hb03 := hb02.trans (hb3.mono hb02.size)
  have hN3 := hN1.below hb13
  have hnet3 := hnet.below hb03 hnet.lt
  have hstp3 := hstp.below hb03 hstp.lt
  have hres3 := hres.below hb03 hres.lt
  have hout3 := hout2.below hb3 hout2.lt
  have hbel3 := hb0.trans (hb03.mono hs0)
  have hkn3 : KeepNet w w3 := KeepNet.of_below hbel3
  have hsz3 := hb03.size
  have hle := hN3.le
  have hmid := hN3.size
  clear s0 s1 s2 s3 s4 s5 s6 s7 hnet hstp hres hout2 hstp2 hb1 hb12 hb02 hb3 hb13 hb0 hN1 hsk hbd curd
  have s0 := hstp3.cell 0; have s1 := hstp3.cell 1; have s2 := hstp3.cell 2; have s3 := hstp3.cell 3
  have s4 := hstp3.cell 4; have s5 := hstp3.cell 5; have s6 := hstp3.cell 6; have s7 := hstp3.cell 7
  have d0 := hnet3.cell 0; have d1 := hnet3.cell 1
  have o0 := hout3.cell 0; have o1 := hout3.cell 1
  have i0 : (at0 : Int) < fl.length := by omega
  have hlm : w.heap.size ≤ wb.heap.size := hs0
  have hNL := hN3
  have hlet := letter_hand wb.heap.size mid nds fl _ _ dk dn dt dm c at0 bt0 w3 hNL hnw hfw (by omega) (by omega) hat (by omega) (Nat.le_trans (hfit.short _ (RW_mem hat)) (by omega))
  go_wp2_with fail
  refine hlet.mono ?_
  rintro e w4 ⟨v, rfl, ⟨nv1, fv1, rfl, q1, q2⟩, hb4, hk4⟩
  obtain ⟨nds1, hnds1⟩ : ∃ x, hearAll nds (RW fl at0) = x := ⟨_, rfl⟩
  rw [hnds1] at q1
  have HN1 := Lib.hid hnds1; clear hnds1
  obtain ⟨a1, k1, rfl⟩ := q1.slice
  obtain ⟨a2, k2, rfl⟩ := q2.slice
  have hres4 := hk4.net hres3
  have hbel4 := hbel3.trans (hb4.mono hs0)
  have hkn4 := hkn3.trans hk4
  clear s0 s1 s2 s3 s4 s5 s6 s7 d0 d1 o0 o1
  replace q1 := OwnNds.mono q1 hs0
  replace q2 := OwnRows.mono q2 hs0
  have z0 := hres4.cell 0; have z1 := hres4.cell 1
  have y0 := hres4.frozen 0; have y1 := hres4.frozen 1
  have hZ := Blk.set2 hres4 (.slice a1 nds1.length k1) (.slice a2 (fl.eraseIdx at0).length k2)
  have hBZ := hbel4.set2 hgrb (.slice a1 nds1.length k1) (.slice a2 (fl.eraseIdx at0).length k2)
  have hOZ := Only.set2 gr w4 (.slice a1 nds1.length k1) (.slice a2 (fl.eraseIdx at0).length k2)
  have p0 := hZ.cell 0; have p1 := hZ.cell 1
  have HQ1 := Lib.hid (OwnNds.off q1 hres4 hOZ.keeps (by decide) (by decide) (by decide) (by decide))
  have HQ2 := Lib.hid (OwnRows.off q2 hres4 hOZ.keeps (by decide) (by decide))
  have HBZ := Lib.hid hBZ
  have HKN := Lib.hid ((hkn4.set_ (p := ⟨gr, 0, none⟩) (by show w.heap.size ≤ gr; omega) (.slice a1 nds1.length k1)).set_ (p := ⟨gr, 1, none⟩) (by show w.heap.size ≤ gr; omega) (.slice a2 (fl.eraseIdx at0).length k2))
  clear hBZ hZ hOZ q1 q2
  go_wp2_with fail
  refine bodyPost_ret (v := .tuple #[.agg #[.slice a1 nds1.length k1, .slice a2 (fl.eraseIdx at0).length k2], .bool (hearSome nds (RW fl at0))]) (by simp [results, Tryz.results38, go_sem, p0, p1]) rfl ?_
  exact ⟨_, rfl, ⟨_, _, rfl, by rw [HN1.out]; exact HQ1.out, HQ2.out⟩, HBZ.out, HKN.out⟩
set_option linter.unusedSimpArgs false in
set_option maxHeartbeats 8000000 in
set_option maxRecDepth 100000 in
theorem moved_twice (B : Nat) (an : Option Addr) (cn : Nat) (nds : List Nd) (af : Option Addr) (cf : Nat) (fl : List (List Int)) (dk dn dt dm c : Int) (at0 bt0 : Nat) (w : World) (hx : Nds B w an nds.length cn nds) (hy : Rws B w af fl.length cf fl) (hB : B ≤ w.heap.size) (hfit : NetFit nds fl) (hok : stepOk ⟨4, dk, dn, dt, dm, at0, bt0, c⟩ = true) (hat : at0 < fl.length) :
    Calls Tryz.prog 38 #[.agg #[.slice an nds.length cn, .slice af fl.length cf], .agg #[.int .i64 4, .int .i64 dk, .int .i64 dn, .int .i64 dt, .int .i64 dm, .int .i64 at0, .int .i64 bt0, .int .i64 c]] w (NetSaid w.heap.size w.heap.size nds (sent fl (RW fl at0)) (decide (fl.length < 30)) w) := by
  have hnw := hx.allN
  have hfw := hy.allR
  have hnc := hx.hcap; have hnm := hx.hmax; have hfc := hy.hcap; have hfm := hy.hmax
  unfold maxLen at hnm hfm
  have ht1 := hfit.one; have ht2 := hfit.four; have ht3 := hfit.few
  obtain ⟨w0, hw0⟩ : ∃ x, x = w.alloc (.cells #[.slice an nds.length cn, .slice af fl.length cf] 33) := ⟨_, rfl⟩
  obtain ⟨w00, hw00⟩ : ∃ x, x = w0.alloc (.cells #[.int .i64 4, .int .i64 dk, .int .i64 dn, .int .i64 dt, .int .i64 dm, .int .i64 at0, .int .i64 bt0, .int .i64 c] 62) := ⟨_, rfl⟩
  obtain ⟨wb, hwb⟩ : ∃ wb, wb = ((w.alloc (.cells #[.slice an nds.length cn, .slice af fl.length cf] 33)).alloc (.cells #[.int .i64 4, .int .i64 dk, .int .i64 dn, .int .i64 dt, .int .i64 dm, .int .i64 at0, .int .i64 bt0, .int .i64 c] 62)).alloc (.cells #[.slice none 0 0, .slice none 0 0] 33) := ⟨_, rfl⟩
  obtain ⟨gn, hgn0⟩ : ∃ g, g = w.heap.size := ⟨_, rfl⟩
  obtain ⟨gs, hgs0⟩ : ∃ g, g = w.heap.size + 1 := ⟨_, rfl⟩
  obtain ⟨gr, hgr0⟩ : ∃ gr, gr = w.heap.size + 1 + 1 := ⟨_, rfl⟩
  have hnet : Blk wb gn 33 #[.slice an nds.length cn, .slice af fl.length cf] := by rw [hwb, hgn0]; exact ((Blk.new _ _ _).alloc _).alloc _
  have hstp : Blk wb gs 62 #[.int .i64 4, .int .i64 dk, .int .i64 dn, .int .i64 dt, .int .i64 dm, .int .i64 at0, .int .i64 bt0, .int .i64 c] := by
    have h := Blk.new w0 62 #[.int .i64 4, .int .i64 dk, .int .i64 dn, .int .i64 dt, .int .i64 dm, .int .i64 at0, .int .i64 bt0, .int .i64 c]
    have h1 : w0.heap.size = w.heap.size + 1 := by rw [hw0]; simp
    rw [h1] at h
    rw [hwb, hgs0, ← hw0]
    exact h.alloc _
  have hres : Blk wb gr 33 #[.slice none 0 0, .slice none 0 0] := by
    have h := Blk.new w00 33 #[.slice none 0 0, .slice none 0 0]
    have h1 : w00.heap.size = w.heap.size + 1 + 1 := by rw [hw00, hw0]; simp
    rw [h1] at h
    rw [hwb, hgr0, ← hw0, ← hw00]
    exact h
  have hb0 : Below w.heap.size w wb := by
    rw [hwb]
    exact (((Below.refl _ _).alloc (Nat.le_refl _) _).alloc (by simp) _).alloc (by simp; omega) _
  have hgrb : w.heap.size ≤ gr := by omega
  have hngr : gn ≠ gr := by omega
  have hsgr : gs ≠ gr := by omega
  have hs0 := hb0.size
  have hcp := l16Copy_any B an _ cn nds af _ cf fl wb (hx.below hb0 hB (Nat.le_refl B)) (hy.below hb0 hB (Nat.le_refl B)) (by omega) (by omega) (by omega) hfit.small (fun r hr => Nat.le_trans (hfit.short r hr) (by omega))
  have d0 := hnet.cell 0; have d1 := hnet.cell 1
  clear hw0 hw00
  go_enter Tryz.func38, Tryz.ntmps38
  go_upto_region 1 with fail
  rw [← hwb, ← hgr0, ← hgs0, ← hgn0]
  clear hwb hgr0 hgs0 hgn0
  go_wp2_with fail
  refine hcp.mono ?_
  rintro e w1 ⟨mid, nv, fv, rfl, hN1, hb1⟩
  obtain ⟨gd, cd, rfl, hgd, curd, hbd⟩ := hN1.nodes.own.ptr (by omega)
  obtain ⟨aq, cq, rfl⟩ := hN1.letters.own.slice
  clear hcp d0 d1
  obtain ⟨W2, hW2⟩ : ∃ x, x = w1.alloc (.cells #[.slice (some ⟨gd, 0, none⟩) nds.length cd, .slice aq fl.length cq] 33) := ⟨_, rfl⟩
  obtain ⟨go, hgo0⟩ : ∃ x, x = w1.heap.size := ⟨_, rfl⟩
  have hout2 : Blk W2 go 33 #[.slice (some ⟨gd, 0, none⟩) nds.length cd, .slice aq fl.length cq] := by rw [hW2, hgo0]; exact Blk.new _ _ _
  have hb12 : Below w1.heap.size w1 W2 := by rw [hW2]; exact (Below.refl _ _).alloc (Nat.le_refl _) _
  have hs1 := hb1.size
  have hgo : wb.heap.size ≤ go := by omega
  have hgrg : gr ≠ go := by have := hres.lt; omega
  go_upto_region 2 with fail
  rw [← hW2, ← hgo0]
  clear hW2 hgo0
  have hb02 := hb1.trans (hb12.mono hs1)
  have hstp2 := hstp.below hb02 hstp.lt
  have s0 := hstp2.cell 0; have s1 := hstp2.cell 1; have s2 := hstp2.cell 2; have s3 := hstp2.cell 3
  have s4 := hstp2.cell 4; have s5 := hstp2.cell 5; have s6 := hstp2.cell 6; have s7 := hstp2.cell 7
  have hsk := specStepOk_any ⟨4, dk, dn, dt, dm, at0, bt0, c⟩ W2
  rw [hok] at hsk
  go_wp2_with fail
  refine hsk.mono ?_
  rintro e w3 ⟨rfl, hb3⟩
  have hb13 := hb12.trans (hb3.mono hb12.size)
  have hb03 := hb02.trans (hb3.mono hb02.size)
  have hN3 := hN1.below hb13
  have hnet3 := hnet.below hb03 hnet.lt
  have hstp3 := hstp.below hb03 hstp.lt
  have hres3 := hres.below hb03 hres.lt
  have hout3 := hout2.below hb3 hout2.lt
  have hbel3 := hb0.trans (hb03.mono hs0)
  have hkn3 : KeepNet w w3 := KeepNet.of_below hbel3
  have hsz3 := hb03.size
  have hle := hN3.le
  have hmid := hN3.size
  clear s0 s1 s2 s3 s4 s5 s6 s7 hnet hstp hres hout2 hstp2 hb1 hb12 hb02 hb3 hb13 hb0 hN1 hsk hbd curd
  have s0 := hstp3.cell 0; have s1 := hstp3.cell 1; have s2 := hstp3.cell 2; have s3 := hstp3.cell 3
  have s4 := hstp3.cell 4; have s5 := hstp3.cell 5; have s6 := hstp3.cell 6; have s7 := hstp3.cell 7
  have d0 := hnet3.cell 0; have d1 := hnet3.cell 1
  have o0 := hout3.cell 0; have o1 := hout3.cell 1
  have i0 : (at0 : Int) < fl.length := by omega
  have hlm : w.heap.size ≤ wb.heap.size := hs0
  have hNL := hN3
  have hlet := letter_twice wb.heap.size mid nds fl _ _ dk dn dt dm c at0 bt0 w3 hNL hnw hfw (by omega) (by omega) hat (by omega) (Nat.le_trans (hfit.short _ (RW_mem hat)) (by omega))
  go_wp2_with fail
  refine hlet.mono ?_
  rintro e w4 ⟨v, rfl, ⟨nv1, fv1, rfl, q1, q2⟩, hb4, hk4⟩
  obtain ⟨a1, k1, rfl⟩ := q1.slice
  obtain ⟨a2, k2, rfl⟩ := q2.slice
  have hres4 := hk4.net hres3
  have hbel4 := hbel3.trans (hb4.mono hs0)
  have hkn4 := hkn3.trans hk4
  clear s0 s1 s2 s3 s4 s5 s6 s7 d0 d1 o0 o1
  replace q1 := OwnNds.mono q1 hs0
  replace q2 := OwnRows.mono q2 hs0
  have z0 := hres4.cell 0; have z1 := hres4.cell 1
  have y0 := hres4.frozen 0; have y1 := hres4.frozen 1
  have hZ := Blk.set2 hres4 (.slice a1 nds.length k1) (.slice a2 (sent fl (RW fl at0)).length k2)
  have hBZ := hbel4.set2 hgrb (.slice a1 nds.length k1) (.slice a2 (sent fl (RW fl at0)).length k2)
  have hOZ := Only.set2 gr w4 (.slice a1 nds.length k1) (.slice a2 (sent fl (RW fl at0)).length k2)
  have p0 := hZ.cell 0; have p1 := hZ.cell 1
  have HQ1 := Lib.hid (OwnNds.off q1 hres4 hOZ.keeps (by decide) (by decide) (by decide) (by decide))
  have HQ2 := Lib.hid (OwnRows.off q2 hres4 hOZ.keeps (by decide) (by decide))
  have HBZ := Lib.hid hBZ
  have HKN := Lib.hid ((hkn4.set_ (p := ⟨gr, 0, none⟩) (by show w.heap.size ≤ gr; omega) (.slice a1 nds.length k1)).set_ (p := ⟨gr, 1, none⟩) (by show w.heap.size ≤ gr; omega) (.slice a2 (sent fl (RW fl at0)).length k2))
  clear hBZ hZ hOZ q1 q2
  go_wp2_with fail
  refine bodyPost_ret (v := .tuple #[.agg #[.slice a1 nds.length k1, .slice a2 (sent fl (RW fl at0)).length k2], .bool (decide (fl.length < 30))]) (by simp [results, Tryz.results38, go_sem, p0, p1]) rfl ?_
  exact ⟨_, rfl, ⟨_, _, rfl, HQ1.out, HQ2.out⟩, HBZ.out, HKN.out⟩
set_option linter.unusedSimpArgs false in
set_option maxHeartbeats 8000000 in
set_option maxRecDepth 100000 in
theorem moved_lose (B : Nat) (an : Option Addr) (cn : Nat) (nds : List Nd) (af : Option Addr) (cf : Nat) (fl : List (List Int)) (dk dn dt dm c : Int) (at0 bt0 : Nat) (w : World) (hx : Nds B w an nds.length cn nds) (hy : Rws B w af fl.length cf fl) (hB : B ≤ w.heap.size) (hfit : NetFit nds fl) (hok : stepOk ⟨5, dk, dn, dt, dm, at0, bt0, c⟩ = true) (hat : at0 < fl.length) :
    Calls Tryz.prog 38 #[.agg #[.slice an nds.length cn, .slice af fl.length cf], .agg #[.int .i64 5, .int .i64 dk, .int .i64 dn, .int .i64 dt, .int .i64 dm, .int .i64 at0, .int .i64 bt0, .int .i64 c]] w (NetSaid w.heap.size w.heap.size nds (fl.eraseIdx at0) true w) := by
  have hnw := hx.allN
  have hfw := hy.allR
  have hnc := hx.hcap; have hnm := hx.hmax; have hfc := hy.hcap; have hfm := hy.hmax
  unfold maxLen at hnm hfm
  have ht1 := hfit.one; have ht2 := hfit.four; have ht3 := hfit.few
  obtain ⟨w0, hw0⟩ : ∃ x, x = w.alloc (.cells #[.slice an nds.length cn, .slice af fl.length cf] 33) := ⟨_, rfl⟩
  obtain ⟨w00, hw00⟩ : ∃ x, x = w0.alloc (.cells #[.int .i64 5, .int .i64 dk, .int .i64 dn, .int .i64 dt, .int .i64 dm, .int .i64 at0, .int .i64 bt0, .int .i64 c] 62) := ⟨_, rfl⟩
  obtain ⟨wb, hwb⟩ : ∃ wb, wb = ((w.alloc (.cells #[.slice an nds.length cn, .slice af fl.length cf] 33)).alloc (.cells #[.int .i64 5, .int .i64 dk, .int .i64 dn, .int .i64 dt, .int .i64 dm, .int .i64 at0, .int .i64 bt0, .int .i64 c] 62)).alloc (.cells #[.slice none 0 0, .slice none 0 0] 33) := ⟨_, rfl⟩
  obtain ⟨gn, hgn0⟩ : ∃ g, g = w.heap.size := ⟨_, rfl⟩
  obtain ⟨gs, hgs0⟩ : ∃ g, g = w.heap.size + 1 := ⟨_, rfl⟩
  obtain ⟨gr, hgr0⟩ : ∃ gr, gr = w.heap.size + 1 + 1 := ⟨_, rfl⟩
  have hnet : Blk wb gn 33 #[.slice an nds.length cn, .slice af fl.length cf] := by rw [hwb, hgn0]; exact ((Blk.new _ _ _).alloc _).alloc _
  have hstp : Blk wb gs 62 #[.int .i64 5, .int .i64 dk, .int .i64 dn, .int .i64 dt, .int .i64 dm, .int .i64 at0, .int .i64 bt0, .int .i64 c] := by
    have h := Blk.new w0 62 #[.int .i64 5, .int .i64 dk, .int .i64 dn, .int .i64 dt, .int .i64 dm, .int .i64 at0, .int .i64 bt0, .int .i64 c]
    have h1 : w0.heap.size = w.heap.size + 1 := by rw [hw0]; simp
    rw [h1] at h
    rw [hwb, hgs0, ← hw0]
    exact h.alloc _
  have hres : Blk wb gr 33 #[.slice none 0 0, .slice none 0 0] := by
    have h := Blk.new w00 33 #[.slice none 0 0, .slice none 0 0]
    have h1 : w00.heap.size = w.heap.size + 1 + 1 := by rw [hw00, hw0]; simp
    rw [h1] at h
    rw [hwb, hgr0, ← hw0, ← hw00]
    exact h
  have hb0 : Below w.heap.size w wb := by
    rw [hwb]
    exact (((Below.refl _ _).alloc (Nat.le_refl _) _).alloc (by simp) _).alloc (by simp; omega) _
  have hgrb : w.heap.size ≤ gr := by omega
  have hngr : gn ≠ gr := by omega
  have hsgr : gs ≠ gr := by omega
  have hs0 := hb0.size
  have hcp := l16Copy_any B an _ cn nds af _ cf fl wb (hx.below hb0 hB (Nat.le_refl B)) (hy.below hb0 hB (Nat.le_refl B)) (by omega) (by omega) (by omega) hfit.small (fun r hr => Nat.le_trans (hfit.short r hr) (by omega))
  have d0 := hnet.cell 0; have d1 := hnet.cell 1
  clear hw0 hw00
  go_enter Tryz.func38, Tryz.ntmps38
  go_upto_region 1 with fail
  rw [← hwb, ← hgr0, ← hgs0, ← hgn0]
  clear hwb hgr0 hgs0 hgn0
  go_wp2_with fail
  refine hcp.mono ?_
  rintro e w1 ⟨mid, nv, fv, rfl, hN1, hb1⟩
  obtain ⟨gd, cd, rfl, hgd, curd, hbd⟩ := hN1.nodes.own.ptr (by omega)
  obtain ⟨aq, cq, rfl⟩ := hN1.letters.own.slice
  clear hcp d0 d1
  obtain ⟨W2, hW2⟩ : ∃ x, x = w1.alloc (.cells #[.slice (some ⟨gd, 0, none⟩) nds.length cd, .slice aq fl.length cq] 33) := ⟨_, rfl⟩
  obtain ⟨go, hgo0⟩ : ∃ x, x = w1.heap.size := ⟨_, rfl⟩
  have hout2 : Blk W2 go 33 #[.slice (some ⟨gd, 0, none⟩) nds.length cd, .slice aq fl.length cq] := by rw [hW2, hgo0]; exact Blk.new _ _ _
  have hb12 : Below w1.heap.size w1 W2 := by rw [hW2]; exact (Below.refl _ _).alloc (Nat.le_refl _) _
  have hs1 := hb1.size
  have hgo : wb.heap.size ≤ go := by omega
  have hgrg : gr ≠ go := by have := hres.lt; omega
  go_upto_region 2 with fail
  rw [← hW2, ← hgo0]
  clear hW2 hgo0
  have hb02 := hb1.trans (hb12.mono hs1)
  have hstp2 := hstp.below hb02 hstp.lt
  have s0 := hstp2.cell 0; have s1 := hstp2.cell 1; have s2 := hstp2.cell 2; have s3 := hstp2.cell 3
  have s4 := hstp2.cell 4; have s5 := hstp2.cell 5; have s6 := hstp2.cell 6; have s7 := hstp2.cell 7
  have hsk := specStepOk_any ⟨5, dk, dn, dt, dm, at0, bt0, c⟩ W2
  rw [hok] at hsk
  go_wp2_with fail
  refine hsk.mono ?_
  rintro e w3 ⟨rfl, hb3⟩
  have hb13 := hb12.trans (hb3.mono hb12.size)
  have hb03 := hb02.trans (hb3.mono hb02.size)
  have hN3 := hN1.below hb13
  have hnet3 := hnet.below hb03 hnet.lt
  have hstp3 := hstp.below hb03 hstp.lt
  have hres3 := hres.below hb03 hres.lt
  have hout3 := hout2.below hb3 hout2.lt
  have hbel3 := hb0.trans (hb03.mono hs0)
  have hkn3 : KeepNet w w3 := KeepNet.of_below hbel3
  have hsz3 := hb03.size
  have hle := hN3.le
  have hmid := hN3.size
  clear s0 s1 s2 s3 s4 s5 s6 s7 hnet hstp hres hout2 hstp2 hb1 hb12 hb02 hb3 hb13 hb0 hN1 hsk hbd curd
  have s0 := hstp3.cell 0; have s1 := hstp3.cell 1; have s2 := hstp3.cell 2; have s3 := hstp3.cell 3
  have s4 := hstp3.cell 4; have s5 := hstp3.cell 5; have s6 := hstp3.cell 6; have s7 := hstp3.cell 7
  have d0 := hnet3.cell 0; have d1 := hnet3.cell 1
  have o0 := hout3.cell 0; have o1 := hout3.cell 1
  have i0 : (at0 : Int) < fl.length := by omega
  have hlm : w.heap.size ≤ wb.heap.size := hs0
  have hNL := hN3
  have hlet := letter_lose wb.heap.size mid nds fl _ _ dk dn dt dm c at0 bt0 w3 hNL hnw hfw (by omega) (by omega) hat (by omega) (Nat.le_trans (hfit.short _ (RW_mem hat)) (by omega))
  go_wp2_with fail
  refine hlet.mono ?_
  rintro e w4 ⟨v, rfl, ⟨nv1, fv1, rfl, q1, q2⟩, hb4, hk4⟩
  obtain ⟨a1, k1, rfl⟩ := q1.slice
  obtain ⟨a2, k2, rfl⟩ := q2.slice
  have hres4 := hk4.net hres3
  have hbel4 := hbel3.trans (hb4.mono hs0)
  have hkn4 := hkn3.trans hk4
  clear s0 s1 s2 s3 s4 s5 s6 s7 d0 d1 o0 o1
  replace q1 := OwnNds.mono q1 hs0
  replace q2 := OwnRows.mono q2 hs0
  have z0 := hres4.cell 0; have z1 := hres4.cell 1
  have y0 := hres4.frozen 0; have y1 := hres4.frozen 1
  have hZ := Blk.set2 hres4 (.slice a1 nds.length k1) (.slice a2 (fl.eraseIdx at0).length k2)
  have hBZ := hbel4.set2 hgrb (.slice a1 nds.length k1) (.slice a2 (fl.eraseIdx at0).length k2)
  have hOZ := Only.set2 gr w4 (.slice a1 nds.length k1) (.slice a2 (fl.eraseIdx at0).length k2)
  have p0 := hZ.cell 0; have p1 := hZ.cell 1
  have HQ1 := Lib.hid (OwnNds.off q1 hres4 hOZ.keeps (by decide) (by decide) (by decide) (by decide))
  have HQ2 := Lib.hid (OwnRows.off q2 hres4 hOZ.keeps (by decide) (by decide))
  have HBZ := Lib.hid hBZ
  have HKN := Lib.hid ((hkn4.set_ (p := ⟨gr, 0, none⟩) (by show w.heap.size ≤ gr; omega) (.slice a1 nds.length k1)).set_ (p := ⟨gr, 1, none⟩) (by show w.heap.size ≤ gr; omega) (.slice a2 (fl.eraseIdx at0).length k2))
  clear hBZ hZ hOZ q1 q2
  go_wp2_with fail
  refine bodyPost_ret (v := .tuple #[.agg #[.slice a1 nds.length k1, .slice a2 (fl.eraseIdx at0).length k2], .bool true]) (by simp [results, Tryz.results38, go_sem, p0, p1]) rfl ?_
  exact ⟨_, rfl, ⟨_, _, rfl, HQ1.out, HQ2.out⟩, HBZ.out, HKN.out⟩
set_option linter.unusedSimpArgs false in
set_option maxHeartbeats 8000000 in
set_option maxRecDepth 100000 in
theorem moved_bend_no (B : Nat) (an : Option Addr) (cn : Nat) (nds : List Nd) (af : Option Addr) (cf : Nat) (fl : List (List Int)) (dk dn dt dm c : Int) (at0 bt0 : Nat) (w : World) (hx : Nds B w an nds.length cn nds) (hy : Rws B w af fl.length cf fl) (hB : B ≤ w.heap.size) (hfit : NetFit nds fl) (hok : stepOk ⟨6, dk, dn, dt, dm, at0, bt0, c⟩ = true) (hat : at0 < fl.length) (hlt : (RW fl at0).length ≤ bt0) :
    Calls Tryz.prog 38 #[.agg #[.slice an nds.length cn, .slice af fl.length cf], .agg #[.int .i64 6, .int .i64 dk, .int .i64 dn, .int .i64 dt, .int .i64 dm, .int .i64 at0, .int .i64 bt0, .int .i64 c]] w (NetSaid w.heap.size w.heap.size nds fl false w) := by
  have hnw := hx.allN
  have hfw := hy.allR
  have hnc := hx.hcap; have hnm := hx.hmax; have hfc := hy.hcap; have hfm := hy.hmax
  unfold maxLen at hnm hfm
  have ht1 := hfit.one; have ht2 := hfit.four; have ht3 := hfit.few
  obtain ⟨w0, hw0⟩ : ∃ x, x = w.alloc (.cells #[.slice an nds.length cn, .slice af fl.length cf] 33) := ⟨_, rfl⟩
  obtain ⟨w00, hw00⟩ : ∃ x, x = w0.alloc (.cells #[.int .i64 6, .int .i64 dk, .int .i64 dn, .int .i64 dt, .int .i64 dm, .int .i64 at0, .int .i64 bt0, .int .i64 c] 62) := ⟨_, rfl⟩
  obtain ⟨wb, hwb⟩ : ∃ wb, wb = ((w.alloc (.cells #[.slice an nds.length cn, .slice af fl.length cf] 33)).alloc (.cells #[.int .i64 6, .int .i64 dk, .int .i64 dn, .int .i64 dt, .int .i64 dm, .int .i64 at0, .int .i64 bt0, .int .i64 c] 62)).alloc (.cells #[.slice none 0 0, .slice none 0 0] 33) := ⟨_, rfl⟩
  obtain ⟨gn, hgn0⟩ : ∃ g, g = w.heap.size := ⟨_, rfl⟩
  obtain ⟨gs, hgs0⟩ : ∃ g, g = w.heap.size + 1 := ⟨_, rfl⟩
  obtain ⟨gr, hgr0⟩ : ∃ gr, gr = w.heap.size + 1 + 1 := ⟨_, rfl⟩
  have hnet : Blk wb gn 33 #[.slice an nds.length cn, .slice af fl.length cf] := by rw [hwb, hgn0]; exact ((Blk.new _ _ _).alloc _).alloc _
  have hstp : Blk wb gs 62 #[.int .i64 6, .int .i64 dk, .int .i64 dn, .int .i64 dt, .int .i64 dm, .int .i64 at0, .int .i64 bt0, .int .i64 c] := by
    have h := Blk.new w0 62 #[.int .i64 6, .int .i64 dk, .int .i64 dn, .int .i64 dt, .int .i64 dm, .int .i64 at0, .int .i64 bt0, .int .i64 c]
    have h1 : w0.heap.size = w.heap.size + 1 := by rw [hw0]; simp
    rw [h1] at h
    rw [hwb, hgs0, ← hw0]
    exact h.alloc _
  have hres : Blk wb gr 33 #[.slice none 0 0, .slice none 0 0] := by
    have h := Blk.new w00 33 #[.slice none 0 0, .slice none 0 0]
    have h1 : w00.heap.size = w.heap.size + 1 + 1 := by rw [hw00, hw0]; simp
    rw [h1] at h
    rw [hwb, hgr0, ← hw0, ← hw00]
    exact h
  have hb0 : Below w.heap.size w wb := by
    rw [hwb]
    exact (((Below.refl _ _).alloc (Nat.le_refl _) _).alloc (by simp) _).alloc (by simp; omega) _
  have hgrb : w.heap.size ≤ gr := by omega
  have hngr : gn ≠ gr := by omega
  have hsgr : gs ≠ gr := by omega
  have hs0 := hb0.size
  have hcp := l16Copy_any B an _ cn nds af _ cf fl wb (hx.below hb0 hB (Nat.le_refl B)) (hy.below hb0 hB (Nat.le_refl B)) (by omega) (by omega) (by omega) hfit.small (fun r hr => Nat.le_trans (hfit.short r hr) (by omega))
  have d0 := hnet.cell 0; have d1 := hnet.cell 1
  clear hw0 hw00
  go_enter Tryz.func38, Tryz.ntmps38
  go_upto_region 1 with fail
  rw [← hwb, ← hgr0, ← hgs0, ← hgn0]
  clear hwb hgr0 hgs0 hgn0
  go_wp2_with fail
  refine hcp.mono ?_
  rintro e w1 ⟨mid, nv, fv, rfl, hN1, hb1⟩
  obtain ⟨gd, cd, rfl, hgd, curd, hbd⟩ := hN1.nodes.own.ptr (by omega)
  obtain ⟨aq, cq, rfl⟩ := hN1.letters.own.slice
  clear hcp d0 d1
  obtain ⟨W2, hW2⟩ : ∃ x, x = w1.alloc (.cells #[.slice (some ⟨gd, 0, none⟩) nds.length cd, .slice aq fl.length cq] 33) := ⟨_, rfl⟩
  obtain ⟨go, hgo0⟩ : ∃ x, x = w1.heap.size := ⟨_, rfl⟩
  have hout2 : Blk W2 go 33 #[.slice (some ⟨gd, 0, none⟩) nds.length cd, .slice aq fl.length cq] := by rw [hW2, hgo0]; exact Blk.new _ _ _
  have hb12 : Below w1.heap.size w1 W2 := by rw [hW2]; exact (Below.refl _ _).alloc (Nat.le_refl _) _
  have hs1 := hb1.size
  have hgo : wb.heap.size ≤ go := by omega
  have hgrg : gr ≠ go := by have := hres.lt; omega
  go_upto_region 2 with fail
  rw [← hW2, ← hgo0]
  clear hW2 hgo0
  have hb02 := hb1.trans (hb12.mono hs1)
  have hstp2 := hstp.below hb02 hstp.lt
  have s0 := hstp2.cell 0; have s1 := hstp2.cell 1; have s2 := hstp2.cell 2; have s3 := hstp2.cell 3
  have s4 := hstp2.cell 4; have s5 := hstp2.cell 5; have s6 := hstp2.cell 6; have s7 := hstp2.cell 7
  have hsk := specStepOk_any ⟨6, dk, dn, dt, dm, at0, bt0, c⟩ W2
  rw [hok] at hsk
  go_wp2_with fail
  refine hsk.mono ?_
  rintro e w3 ⟨rfl, hb3⟩
  have hb13 := hb12.trans (hb3.mono hb12.size)
  have hb03 := hb02.trans (hb3.mono hb02.size)
  have hN3 := hN1.below hb13
  have hnet3 := hnet.below hb03 hnet.lt
  have hstp3 := hstp.below hb03 hstp.lt
  have hres3 := hres.below hb03 hres.lt
  have hout3 := hout2.below hb3 hout2.lt
  have hbel3 := hb0.trans (hb03.mono hs0)
  have hkn3 : KeepNet w w3 := KeepNet.of_below hbel3
  have hsz3 := hb03.size
  have hle := hN3.le
  have hmid := hN3.size
  clear s0 s1 s2 s3 s4 s5 s6 s7 hnet hstp hres hout2 hstp2 hb1 hb12 hb02 hb3 hb13 hb0 hN1 hsk hbd curd
  have s0 := hstp3.cell 0; have s1 := hstp3.cell 1; have s2 := hstp3.cell 2; have s3 := hstp3.cell 3
  have s4 := hstp3.cell 4; have s5 := hstp3.cell 5; have s6 := hstp3.cell 6; have s7 := hstp3.cell 7
  have d0 := hnet3.cell 0; have d1 := hnet3.cell 1
  have o0 := hout3.cell 0; have o1 := hout3.cell 1
  have i0 : (at0 : Int) < fl.length := by omega
  have hlm : w.heap.size ≤ wb.heap.size := hs0
  have hNL := hN3
  have hlet := letter_no wb.heap.size mid nds fl _ _ 6 dk dn dt dm c at0 bt0 w3 hNL hnw hfw (by omega) (by omega) hat (by omega) (Nat.le_trans (hfit.short _ (RW_mem hat)) (by omega)) (by omega) hlt
  go_wp2_with fail
  refine hlet.mono ?_
  rintro e w4 ⟨v, rfl, ⟨nv1, fv1, rfl, q1, q2⟩, hb4, hk4⟩
  obtain ⟨a1, k1, rfl⟩ := q1.slice
  obtain ⟨a2, k2, rfl⟩ := q2.slice
  have hres4 := hk4.net hres3
  have hbel4 := hbel3.trans (hb4.mono hs0)
  have hkn4 := hkn3.trans hk4
  clear s0 s1 s2 s3 s4 s5 s6 s7 d0 d1 o0 o1
  replace q1 := OwnNds.mono q1 hs0
  replace q2 := OwnRows.mono q2 hs0
  have z0 := hres4.cell 0; have z1 := hres4.cell 1
  have y0 := hres4.frozen 0; have y1 := hres4.frozen 1
  have hZ := Blk.set2 hres4 (.slice a1 nds.length k1) (.slice a2 fl.length k2)
  have hBZ := hbel4.set2 hgrb (.slice a1 nds.length k1) (.slice a2 fl.length k2)
  have hOZ := Only.set2 gr w4 (.slice a1 nds.length k1) (.slice a2 fl.length k2)
  have p0 := hZ.cell 0; have p1 := hZ.cell 1
  have HQ1 := Lib.hid (OwnNds.off q1 hres4 hOZ.keeps (by decide) (by decide) (by decide) (by decide))
  have HQ2 := Lib.hid (OwnRows.off q2 hres4 hOZ.keeps (by decide) (by decide))
  have HBZ := Lib.hid hBZ
  have HKN := Lib.hid ((hkn4.set_ (p := ⟨gr, 0, none⟩) (by show w.heap.size ≤ gr; omega) (.slice a1 nds.length k1)).set_ (p := ⟨gr, 1, none⟩) (by show w.heap.size ≤ gr; omega) (.slice a2 fl.length k2))
  clear hBZ hZ hOZ q1 q2
  go_wp2_with fail
  refine bodyPost_ret (v := .tuple #[.agg #[.slice a1 nds.length k1, .slice a2 fl.length k2], .bool false]) (by simp [results, Tryz.results38, go_sem, p0, p1]) rfl ?_
  exact ⟨_, rfl, ⟨_, _, rfl, HQ1.out, HQ2.out⟩, HBZ.out, HKN.out⟩
set_option linter.unusedSimpArgs false in
set_option maxHeartbeats 8000000 in
set_option maxRecDepth 100000 in
theorem moved_bend (B : Nat) (an : Option Addr) (cn : Nat) (nds : List Nd) (af : Option Addr) (cf : Nat) (fl : List (List Int)) (dk dn dt dm c : Int) (at0 bt0 : Nat) (w : World) (hx : Nds B w an nds.length cn nds) (hy : Rws B w af fl.length cf fl) (hB : B ≤ w.heap.size) (hfit : NetFit nds fl) (hok : stepOk ⟨6, dk, dn, dt, dm, at0, bt0, c⟩ = true) (hat : at0 < fl.length) (hlt : bt0 < (RW fl at0).length) :
    Calls Tryz.prog 38 #[.agg #[.slice an nds.length cn, .slice af fl.length cf], .agg #[.int .i64 6, .int .i64 dk, .int .i64 dn, .int .i64 dt, .int .i64 dm, .int .i64 at0, .int .i64 bt0, .int .i64 c]] w (NetSaid w.heap.size w.heap.size nds (fl.set at0 (bendAt (RW fl at0) bt0 c)) true w) := by
  have hnw := hx.allN
  have hfw := hy.allR
  have hnc := hx.hcap; have hnm := hx.hmax; have hfc := hy.hcap; have hfm := hy.hmax
  unfold maxLen at hnm hfm
  have ht1 := hfit.one; have ht2 := hfit.four; have ht3 := hfit.few
  obtain ⟨w0, hw0⟩ : ∃ x, x = w.alloc (.cells #[.slice an nds.length cn, .slice af fl.length cf] 33) := ⟨_, rfl⟩
  obtain ⟨w00, hw00⟩ : ∃ x, x = w0.alloc (.cells #[.int .i64 6, .int .i64 dk, .int .i64 dn, .int .i64 dt, .int .i64 dm, .int .i64 at0, .int .i64 bt0, .int .i64 c] 62) := ⟨_, rfl⟩
  obtain ⟨wb, hwb⟩ : ∃ wb, wb = ((w.alloc (.cells #[.slice an nds.length cn, .slice af fl.length cf] 33)).alloc (.cells #[.int .i64 6, .int .i64 dk, .int .i64 dn, .int .i64 dt, .int .i64 dm, .int .i64 at0, .int .i64 bt0, .int .i64 c] 62)).alloc (.cells #[.slice none 0 0, .slice none 0 0] 33) := ⟨_, rfl⟩
  obtain ⟨gn, hgn0⟩ : ∃ g, g = w.heap.size := ⟨_, rfl⟩
  obtain ⟨gs, hgs0⟩ : ∃ g, g = w.heap.size + 1 := ⟨_, rfl⟩
  obtain ⟨gr, hgr0⟩ : ∃ gr, gr = w.heap.size + 1 + 1 := ⟨_, rfl⟩
  have hnet : Blk wb gn 33 #[.slice an nds.length cn, .slice af fl.length cf] := by rw [hwb, hgn0]; exact ((Blk.new _ _ _).alloc _).alloc _
  have hstp : Blk wb gs 62 #[.int .i64 6, .int .i64 dk, .int .i64 dn, .int .i64 dt, .int .i64 dm, .int .i64 at0, .int .i64 bt0, .int .i64 c] := by
    have h := Blk.new w0 62 #[.int .i64 6, .int .i64 dk, .int .i64 dn, .int .i64 dt, .int .i64 dm, .int .i64 at0, .int .i64 bt0, .int .i64 c]
    have h1 : w0.heap.size = w.heap.size + 1 := by rw [hw0]; simp
    rw [h1] at h
    rw [hwb, hgs0, ← hw0]
    exact h.alloc _
  have hres : Blk wb gr 33 #[.slice none 0 0, .slice none 0 0] := by
    have h := Blk.new w00 33 #[.slice none 0 0, .slice none 0 0]
    have h1 : w00.heap.size = w.heap.size + 1 + 1 := by rw [hw00, hw0]; simp
    rw [h1] at h
    rw [hwb, hgr0, ← hw0, ← hw00]
    exact h
  have hb0 : Below w.heap.size w wb := by
    rw [hwb]
    exact (((Below.refl _ _).alloc (Nat.le_refl _) _).alloc (by simp) _).alloc (by simp; omega) _
  have hgrb : w.heap.size ≤ gr := by omega
  have hngr : gn ≠ gr := by omega
  have hsgr : gs ≠ gr := by omega
  have hs0 := hb0.size
  have hcp := l16Copy_any B an _ cn nds af _ cf fl wb (hx.below hb0 hB (Nat.le_refl B)) (hy.below hb0 hB (Nat.le_refl B)) (by omega) (by omega) (by omega) hfit.small (fun r hr => Nat.le_trans (hfit.short r hr) (by omega))
  have d0 := hnet.cell 0; have d1 := hnet.cell 1
  clear hw0 hw00
  go_enter Tryz.func38, Tryz.ntmps38
  go_upto_region 1 with fail
  rw [← hwb, ← hgr0, ← hgs0, ← hgn0]
  clear hwb hgr0 hgs0 hgn0
  go_wp2_with fail
  refine hcp.mono ?_
  rintro e w1 ⟨mid, nv, fv, rfl, hN1, hb1⟩
  obtain ⟨gd, cd, rfl, hgd, curd, hbd⟩ := hN1.nodes.own.ptr (by omega)
  obtain ⟨aq, cq, rfl⟩ := hN1.letters.own.slice
  clear hcp d0 d1
  obtain ⟨W2, hW2⟩ : ∃ x, x = w1.alloc (.cells #[.slice (some ⟨gd, 0, none⟩) nds.length cd, .slice aq fl.length cq] 33) := ⟨_, rfl⟩
  obtain ⟨go, hgo0⟩ : ∃ x, x = w1.heap.size := ⟨_, rfl⟩
  have hout2 : Blk W2 go 33 #[.slice (some ⟨gd, 0, none⟩) nds.length cd, .slice aq fl.length cq] := by rw [hW2, hgo0]; exact Blk.new _ _ _
  have hb12 : Below w1.heap.size w1 W2 := by rw [hW2]; exact (Below.refl _ _).alloc (Nat.le_refl _) _
  have hs1 := hb1.size
  have hgo : wb.heap.size ≤ go := by omega
  have hgrg : gr ≠ go := by have := hres.lt; omega
  go_upto_region 2 with fail
  rw [← hW2, ← hgo0]
  clear hW2 hgo0
  have hb02 := hb1.trans (hb12.mono hs1)
  have hstp2 := hstp.below hb02 hstp.lt
  have s0 := hstp2.cell 0; have s1 := hstp2.cell 1; have s2 := hstp2.cell 2; have s3 := hstp2.cell 3
  have s4 := hstp2.cell 4; have s5 := hstp2.cell 5; have s6 := hstp2.cell 6; have s7 := hstp2.cell 7
  have hsk := specStepOk_any ⟨6, dk, dn, dt, dm, at0, bt0, c⟩ W2
  rw [hok] at hsk
  go_wp2_with fail
  refine hsk.mono ?_
  rintro e w3 ⟨rfl, hb3⟩
  have hb13 := hb12.trans (hb3.mono hb12.size)
  have hb03 := hb02.trans (hb3.mono hb02.size)
  have hN3 := hN1.below hb13
  have hnet3 := hnet.below hb03 hnet.lt
  have hstp3 := hstp.below hb03 hstp.lt
  have hres3 := hres.below hb03 hres.lt
  have hout3 := hout2.below hb3 hout2.lt
  have hbel3 := hb0.trans (hb03.mono hs0)
  have hkn3 : KeepNet w w3 := KeepNet.of_below hbel3
  have hsz3 := hb03.size
  have hle := hN3.le
  have hmid := hN3.size
  clear s0 s1 s2 s3 s4 s5 s6 s7 hnet hstp hres hout2 hstp2 hb1 hb12 hb02 hb3 hb13 hb0 hN1 hsk hbd curd
  have s0 := hstp3.cell 0; have s1 := hstp3.cell 1; have s2 := hstp3.cell 2; have s3 := hstp3.cell 3
  have s4 := hstp3.cell 4; have s5 := hstp3.cell 5; have s6 := hstp3.cell 6; have s7 := hstp3.cell 7
  have d0 := hnet3.cell 0; have d1 := hnet3.cell 1
  have o0 := hout3.cell 0; have o1 := hout3.cell 1
  have i0 : (at0 : Int) < fl.length := by omega
  have hlm : w.heap.size ≤ wb.heap.size := hs0
  have hNL := hN3
  have hlet := letter_bend wb.heap.size mid nds fl _ _ 6 dk dn dt dm c at0 bt0 w3 hNL hnw hfw (by omega) (by omega) hat (by omega) (Nat.le_trans (hfit.short _ (RW_mem hat)) (by omega)) (by omega) hlt
  go_wp2_with fail
  refine hlet.mono ?_
  rintro e w4 ⟨v, rfl, ⟨nv1, fv1, rfl, q1, q2⟩, hb4, hk4⟩
  obtain ⟨a1, k1, rfl⟩ := q1.slice
  obtain ⟨a2, k2, hq2⟩ := q2.slice
  rw [List.length_set] at hq2
  subst hq2
  have hres4 := hk4.net hres3
  have hbel4 := hbel3.trans (hb4.mono hs0)
  have hkn4 := hkn3.trans hk4
  clear s0 s1 s2 s3 s4 s5 s6 s7 d0 d1 o0 o1
  replace q1 := OwnNds.mono q1 hs0
  replace q2 := OwnRows.mono q2 hs0
  have z0 := hres4.cell 0; have z1 := hres4.cell 1
  have y0 := hres4.frozen 0; have y1 := hres4.frozen 1
  have hZ := Blk.set2 hres4 (.slice a1 nds.length k1) (.slice a2 fl.length k2)
  have hBZ := hbel4.set2 hgrb (.slice a1 nds.length k1) (.slice a2 fl.length k2)
  have hOZ := Only.set2 gr w4 (.slice a1 nds.length k1) (.slice a2 fl.length k2)
  have p0 := hZ.cell 0; have p1 := hZ.cell 1
  have HQ1 := Lib.hid (OwnNds.off q1 hres4 hOZ.keeps (by decide) (by decide) (by decide) (by decide))
  have HQ2 := Lib.hid (OwnRows.off q2 hres4 hOZ.keeps (by decide) (by decide))
  have HBZ := Lib.hid hBZ
  have HKN := Lib.hid ((hkn4.set_ (p := ⟨gr, 0, none⟩) (by show w.heap.size ≤ gr; omega) (.slice a1 nds.length k1)).set_ (p := ⟨gr, 1, none⟩) (by show w.heap.size ≤ gr; omega) (.slice a2 fl.length k2))
  clear hBZ hZ hOZ q1 q2
  go_wp2_with fail
  refine bodyPost_ret (v := .tuple #[.agg #[.slice a1 nds.length k1, .slice a2 fl.length k2], .bool true]) (by simp [results, Tryz.results38, go_sem, p0, p1]) rfl ?_
  exact ⟨_, rfl, ⟨_, _, rfl, HQ1.out, HQ2.out⟩, HBZ.out, HKN.out⟩
set_option linter.unusedSimpArgs false in
set_option maxHeartbeats 8000000 in
set_option maxRecDepth 100000 in
theorem moved_letter_none3 (B : Nat) (an : Option Addr) (cn : Nat) (nds : List Nd) (af : Option Addr) (cf : Nat) (fl : List (List Int)) (dk dn dt dm b c : Int) (at0 : Nat) (w : World) (hx : Nds B w an nds.length cn nds) (hy : Rws B w af fl.length cf fl) (hB : B ≤ w.heap.size) (hfit : NetFit nds fl) (hok : stepOk ⟨3, dk, dn, dt, dm, at0, b, c⟩ = true) (hat : fl.length ≤ at0) :
    Calls Tryz.prog 38 #[.agg #[.slice an nds.length cn, .slice af fl.length cf], .agg #[.int .i64 3, .int .i64 dk, .int .i64 dn, .int .i64 dt, .int .i64 dm, .int .i64 at0, .int .i64 b, .int .i64 c]] w (NetSaid w.heap.size w.heap.size nds fl false w) := by
  have hnw := hx.allN
  have hfw := hy.allR
  have hnc := hx.hcap; have hnm := hx.hmax; have hfc := hy.hcap; have hfm := hy.hmax
  unfold maxLen at hnm hfm
  have ht1 := hfit.one; have ht2 := hfit.four; have ht3 := hfit.few
  obtain ⟨w0, hw0⟩ : ∃ x, x = w.alloc (.cells #[.slice an nds.length cn, .slice af fl.length cf] 33) := ⟨_, rfl⟩
  obtain ⟨w00, hw00⟩ : ∃ x, x = w0.alloc (.cells #[.int .i64 3, .int .i64 dk, .int .i64 dn, .int .i64 dt, .int .i64 dm, .int .i64 at0, .int .i64 b, .int .i64 c] 62) := ⟨_, rfl⟩
  obtain ⟨wb, hwb⟩ : ∃ wb, wb = ((w.alloc (.cells #[.slice an nds.length cn, .slice af fl.length cf] 33)).alloc (.cells #[.int .i64 3, .int .i64 dk, .int .i64 dn, .int .i64 dt, .int .i64 dm, .int .i64 at0, .int .i64 b, .int .i64 c] 62)).alloc (.cells #[.slice none 0 0, .slice none 0 0] 33) := ⟨_, rfl⟩
  obtain ⟨gn, hgn0⟩ : ∃ g, g = w.heap.size := ⟨_, rfl⟩
  obtain ⟨gs, hgs0⟩ : ∃ g, g = w.heap.size + 1 := ⟨_, rfl⟩
  obtain ⟨gr, hgr0⟩ : ∃ gr, gr = w.heap.size + 1 + 1 := ⟨_, rfl⟩
  have hnet : Blk wb gn 33 #[.slice an nds.length cn, .slice af fl.length cf] := by rw [hwb, hgn0]; exact ((Blk.new _ _ _).alloc _).alloc _
  have hstp : Blk wb gs 62 #[.int .i64 3, .int .i64 dk, .int .i64 dn, .int .i64 dt, .int .i64 dm, .int .i64 at0, .int .i64 b, .int .i64 c] := by
    have h := Blk.new w0 62 #[.int .i64 3, .int .i64 dk, .int .i64 dn, .int .i64 dt, .int .i64 dm, .int .i64 at0, .int .i64 b, .int .i64 c]
    have h1 : w0.heap.size = w.heap.size + 1 := by rw [hw0]; simp
    rw [h1] at h
    rw [hwb, hgs0, ← hw0]
    exact h.alloc _
  have hres : Blk wb gr 33 #[.slice none 0 0, .slice none 0 0] := by
    have h := Blk.new w00 33 #[.slice none 0 0, .slice none 0 0]
    have h1 : w00.heap.size = w.heap.size + 1 + 1 := by rw [hw00, hw0]; simp
    rw [h1] at h
    rw [hwb, hgr0, ← hw0, ← hw00]
    exact h
  have hb0 : Below w.heap.size w wb := by
    rw [hwb]
    exact (((Below.refl _ _).alloc (Nat.le_refl _) _).alloc (by simp) _).alloc (by simp; omega) _
  have hgrb : w.heap.size ≤ gr := by omega
  have hngr : gn ≠ gr := by omega
  have hsgr : gs ≠ gr := by omega
  have hs0 := hb0.size
  have hcp := l16Copy_any B an _ cn nds af _ cf fl wb (hx.below hb0 hB (Nat.le_refl B)) (hy.below hb0 hB (Nat.le_refl B)) (by omega) (by omega) (by omega) hfit.small (fun r hr => Nat.le_trans (hfit.short r hr) (by omega))
  have d0 := hnet.cell 0; have d1 := hnet.cell 1
  clear hw0 hw00
  go_enter Tryz.func38, Tryz.ntmps38
  go_upto_region 1 with fail
  rw [← hwb, ← hgr0, ← hgs0, ← hgn0]
  clear hwb hgr0 hgs0 hgn0
  go_wp2_with fail
  refine hcp.mono ?_
  rintro e w1 ⟨mid, nv, fv, rfl, hN1, hb1⟩
  obtain ⟨gd, cd, rfl, hgd, curd, hbd⟩ := hN1.nodes.own.ptr (by omega)
  obtain ⟨aq, cq, rfl⟩ := hN1.letters.own.slice
  clear hcp d0 d1
  obtain ⟨W2, hW2⟩ : ∃ x, x = w1.alloc (.cells #[.slice (some ⟨gd, 0, none⟩) nds.length cd, .slice aq fl.length cq] 33) := ⟨_, rfl⟩
  obtain ⟨go, hgo0⟩ : ∃ x, x = w1.heap.size := ⟨_, rfl⟩
  have hout2 : Blk W2 go 33 #[.slice (some ⟨gd, 0, none⟩) nds.length cd, .slice aq fl.length cq] := by rw [hW2, hgo0]; exact Blk.new _ _ _
  have hb12 : Below w1.heap.size w1 W2 := by rw [hW2]; exact (Below.refl _ _).alloc (Nat.le_refl _) _
  have hs1 := hb1.size
  have hgo : wb.heap.size ≤ go := by omega
  have hgrg : gr ≠ go := by have := hres.lt; omega
  go_upto_region 2 with fail
  rw [← hW2, ← hgo0]
  clear hW2 hgo0
  have hb02 := hb1.trans (hb12.mono hs1)
  have hstp2 := hstp.below hb02 hstp.lt
  have s0 := hstp2.cell 0; have s1 := hstp2.cell 1; have s2 := hstp2.cell 2; have s3 := hstp2.cell 3
  have s4 := hstp2.cell 4; have s5 := hstp2.cell 5; have s6 := hstp2.cell 6; have s7 := hstp2.cell 7
  have hsk := specStepOk_any ⟨3, dk, dn, dt, dm, at0, b, c⟩ W2
  rw [hok] at hsk
  go_wp2_with fail
  refine hsk.mono ?_
  rintro e w3 ⟨rfl, hb3⟩
  have hb13 := hb12.trans (hb3.mono hb12.size)
  have hb03 := hb02.trans (hb3.mono hb02.size)
  have hN3 := hN1.below hb13
  have hnet3 := hnet.below hb03 hnet.lt
  have hstp3 := hstp.below hb03 hstp.lt
  have hres3 := hres.below hb03 hres.lt
  have hout3 := hout2.below hb3 hout2.lt
  have hbel3 := hb0.trans (hb03.mono hs0)
  have hkn3 : KeepNet w w3 := KeepNet.of_below hbel3
  have hsz3 := hb03.size
  have hle := hN3.le
  have hmid := hN3.size
  clear s0 s1 s2 s3 s4 s5 s6 s7 hnet hstp hres hout2 hstp2 hb1 hb12 hb02 hb3 hb13 hb0 hN1 hsk hbd curd
  have s0 := hstp3.cell 0; have s1 := hstp3.cell 1; have s2 := hstp3.cell 2; have s3 := hstp3.cell 3
  have s4 := hstp3.cell 4; have s5 := hstp3.cell 5; have s6 := hstp3.cell 6; have s7 := hstp3.cell 7
  have d0 := hnet3.cell 0; have d1 := hnet3.cell 1
  have o0 := hout3.cell 0; have o1 := hout3.cell 1
  have i0 : ¬ (at0 : Int) < fl.length := by omega
  have q1 := OwnNds.mono hN3.nodes.own hs0
  have q2 := OwnRows.mono hN3.letters.own (show w.heap.size ≤ mid by omega)
  have z0 := hres3.cell 0; have z1 := hres3.cell 1
  have y0 := hres3.frozen 0; have y1 := hres3.frozen 1
  have hZ := Blk.set2 hres3 (.slice (some ⟨gd, 0, none⟩) nds.length cd) (.slice aq fl.length cq)
  have hBZ := hbel3.set2 hgrb (.slice (some ⟨gd, 0, none⟩) nds.length cd) (.slice aq fl.length cq)
  have hOZ := Only.set2 gr w3 (.slice (some ⟨gd, 0, none⟩) nds.length cd) (.slice aq fl.length cq)
  have p0 := hZ.cell 0; have p1 := hZ.cell 1
  have HQ1 := Lib.hid (OwnNds.off q1 hres3 hOZ.keeps (by decide) (by decide) (by decide) (by decide))
  have HQ2 := Lib.hid (OwnRows.off q2 hres3 hOZ.keeps (by decide) (by decide))
  have HBZ := Lib.hid hBZ
  have HKN := Lib.hid ((hkn3.set_ (p := ⟨gr, 0, none⟩) (by show w.heap.size ≤ gr; omega) (.slice (some ⟨gd, 0, none⟩) nds.length cd)).set_ (p := ⟨gr, 1, none⟩) (by show w.heap.size ≤ gr; omega) (.slice aq fl.length cq))
  clear hBZ hZ hOZ q1 q2
  go_wp2_with fail
  refine bodyPost_ret (v := .tuple #[.agg #[.slice (some ⟨gd, 0, none⟩) nds.length cd, .slice aq fl.length cq], .bool false]) (by simp [results, Tryz.results38, go_sem, p0, p1]) rfl ?_
  exact ⟨_, rfl, ⟨_, _, rfl, HQ1.out, HQ2.out⟩, HBZ.out, HKN.out⟩
set_option linter.unusedSimpArgs false in
set_option maxHeartbeats 8000000 in
set_option maxRecDepth 100000 in
theorem moved_letter_none4 (B : Nat) (an : Option Addr) (cn : Nat) (nds : List Nd) (af : Option Addr) (cf : Nat) (fl : List (List Int)) (dk dn dt dm b c : Int) (at0 : Nat) (w : World) (hx : Nds B w an nds.length cn nds) (hy : Rws B w af fl.length cf fl) (hB : B ≤ w.heap.size) (hfit : NetFit nds fl) (hok : stepOk ⟨4, dk, dn, dt, dm, at0, b, c⟩ = true) (hat : fl.length ≤ at0) :
    Calls Tryz.prog 38 #[.agg #[.slice an nds.length cn, .slice af fl.length cf], .agg #[.int .i64 4, .int .i64 dk, .int .i64 dn, .int .i64 dt, .int .i64 dm, .int .i64 at0, .int .i64 b, .int .i64 c]] w (NetSaid w.heap.size w.heap.size nds fl false w) := by
  have hnw := hx.allN
  have hfw := hy.allR
  have hnc := hx.hcap; have hnm := hx.hmax; have hfc := hy.hcap; have hfm := hy.hmax
  unfold maxLen at hnm hfm
  have ht1 := hfit.one; have ht2 := hfit.four; have ht3 := hfit.few
  obtain ⟨w0, hw0⟩ : ∃ x, x = w.alloc (.cells #[.slice an nds.length cn, .slice af fl.length cf] 33) := ⟨_, rfl⟩
  obtain ⟨w00, hw00⟩ : ∃ x, x = w0.alloc (.cells #[.int .i64 4, .int .i64 dk, .int .i64 dn, .int .i64 dt, .int .i64 dm, .int .i64 at0, .int .i64 b, .int .i64 c] 62) := ⟨_, rfl⟩
  obtain ⟨wb, hwb⟩ : ∃ wb, wb = ((w.alloc (.cells #[.slice an nds.length cn, .slice af fl.length cf] 33)).alloc (.cells #[.int .i64 4, .int .i64 dk, .int .i64 dn, .int .i64 dt, .int .i64 dm, .int .i64 at0, .int .i64 b, .int .i64 c] 62)).alloc (.cells #[.slice none 0 0, .slice none 0 0] 33) := ⟨_, rfl⟩
  obtain ⟨gn, hgn0⟩ : ∃ g, g = w.heap.size := ⟨_, rfl⟩
  obtain ⟨gs, hgs0⟩ : ∃ g, g = w.heap.size + 1 := ⟨_, rfl⟩
  obtain ⟨gr, hgr0⟩ : ∃ gr, gr = w.heap.size + 1 + 1 := ⟨_, rfl⟩
  have hnet : Blk wb gn 33 #[.slice an nds.length cn, .slice af fl.length cf] := by rw [hwb, hgn0]; exact ((Blk.new _ _ _).alloc _).alloc _
  have hstp : Blk wb gs 62 #[.int .i64 4, .int .i64 dk, .int .i64 dn, .int .i64 dt, .int .i64 dm, .int .i64 at0, .int .i64 b, .int .i64 c] := by
    have h := Blk.new w0 62 #[.int .i64 4, .int .i64 dk, .int .i64 dn, .int .i64 dt, .int .i64 dm, .int .i64 at0, .int .i64 b, .int .i64 c]
    have h1 : w0.heap.size = w.heap.size + 1 := by rw [hw0]; simp
    rw [h1] at h
    rw [hwb, hgs0, ← hw0]
    exact h.alloc _
  have hres : Blk wb gr 33 #[.slice none 0 0, .slice none 0 0] := by
    have h := Blk.new w00 33 #[.slice none 0 0, .slice none 0 0]
    have h1 : w00.heap.size = w.heap.size + 1 + 1 := by rw [hw00, hw0]; simp
    rw [h1] at h
    rw [hwb, hgr0, ← hw0, ← hw00]
    exact h
  have hb0 : Below w.heap.size w wb := by
    rw [hwb]
    exact (((Below.refl _ _).alloc (Nat.le_refl _) _).alloc (by simp) _).alloc (by simp; omega) _
  have hgrb : w.heap.size ≤ gr := by omega
  have hngr : gn ≠ gr := by omega
  have hsgr : gs ≠ gr := by omega
  have hs0 := hb0.size
  have hcp := l16Copy_any B an _ cn nds af _ cf fl wb (hx.below hb0 hB (Nat.le_refl B)) (hy.below hb0 hB (Nat.le_refl B)) (by omega) (by omega) (by omega) hfit.small (fun r hr => Nat.le_trans (hfit.short r hr) (by omega))
  have d0 := hnet.cell 0; have d1 := hnet.cell 1
  clear hw0 hw00
  go_enter Tryz.func38, Tryz.ntmps38
  go_upto_region 1 with fail
  rw [← hwb, ← hgr0, ← hgs0, ← hgn0]
  clear hwb hgr0 hgs0 hgn0
  go_wp2_with fail
  refine hcp.mono ?_
  rintro e w1 ⟨mid, nv, fv, rfl, hN1, hb1⟩
  obtain ⟨gd, cd, rfl, hgd, curd, hbd⟩ := hN1.nodes.own.ptr (by omega)
  obtain ⟨aq, cq, rfl⟩ := hN1.letters.own.slice
  clear hcp d0 d1
  obtain ⟨W2, hW2⟩ : ∃ x, x = w1.alloc (.cells #[.slice (some ⟨gd, 0, none⟩) nds.length cd, .slice aq fl.length cq] 33) := ⟨_, rfl⟩
  obtain ⟨go, hgo0⟩ : ∃ x, x = w1.heap.size := ⟨_, rfl⟩
  have hout2 : Blk W2 go 33 #[.slice (some ⟨gd, 0, none⟩) nds.length cd, .slice aq fl.length cq] := by rw [hW2, hgo0]; exact Blk.new _ _ _
  have hb12 : Below w1.heap.size w1 W2 := by rw [hW2]; exact (Below.refl _ _).alloc (Nat.le_refl _) _
  have hs1 := hb1.size
  have hgo : wb.heap.size ≤ go := by omega
  have hgrg : gr ≠ go := by have := hres.lt; omega
  go_upto_region 2 with fail
  rw [← hW2, ← hgo0]
  clear hW2 hgo0
  have hb02 := hb1.trans (hb12.mono hs1)
  have hstp2 := hstp.below hb02 hstp.lt
  have s0 := hstp2.cell 0; have s1 := hstp2.cell 1; have s2 := hstp2.cell 2; have s3 := hstp2.cell 3
  have s4 := hstp2.cell 4; have s5 := hstp2.cell 5; have s6 := hstp2.cell 6; have s7 := hstp2.cell 7
  have hsk := specStepOk_any ⟨4, dk, dn, dt, dm, at0, b, c⟩ W2
  rw [hok] at hsk
  go_wp2_with fail
  refine hsk.mono ?_
  rintro e w3 ⟨rfl, hb3⟩
  have hb13 := hb12.trans (hb3.mono hb12.size)
  have hb03 := hb02.trans (hb3.mono hb02.size)
  have hN3 := hN1.below hb13
  have hnet3 := hnet.below hb03 hnet.lt
  have hstp3 := hstp.below hb03 hstp.lt
  have hres3 := hres.below hb03 hres.lt
  have hout3 := hout2.below hb3 hout2.lt
  have hbel3 := hb0.trans (hb03.mono hs0)
  have hkn3 : KeepNet w w3 := KeepNet.of_below hbel3
  have hsz3 := hb03.size
  have hle := hN3.le
  have hmid := hN3.size
  clear s0 s1 s2 s3 s4 s5 s6 s7 hnet hstp hres hout2 hstp2 hb1 hb12 hb02 hb3 hb13 hb0 hN1 hsk hbd curd
  have s0 := hstp3.cell 0; have s1 := hstp3.cell 1; have s2 := hstp3.cell 2; have s3 := hstp3.cell 3
  have s4 := hstp3.cell 4; have s5 := hstp3.cell 5; have s6 := hstp3.cell 6; have s7 := hstp3.cell 7
  have d0 := hnet3.cell 0; have d1 := hnet3.cell 1
  have o0 := hout3.cell 0; have o1 := hout3.cell 1
  have i0 : ¬ (at0 : Int) < fl.length := by omega
  have q1 := OwnNds.mono hN3.nodes.own hs0
  have q2 := OwnRows.mono hN3.letters.own (show w.heap.size ≤ mid by omega)
  have z0 := hres3.cell 0; have z1 := hres3.cell 1
  have y0 := hres3.frozen 0; have y1 := hres3.frozen 1
  have hZ := Blk.set2 hres3 (.slice (some ⟨gd, 0, none⟩) nds.length cd) (.slice aq fl.length cq)
  have hBZ := hbel3.set2 hgrb (.slice (some ⟨gd, 0, none⟩) nds.length cd) (.slice aq fl.length cq)
  have hOZ := Only.set2 gr w3 (.slice (some ⟨gd, 0, none⟩) nds.length cd) (.slice aq fl.length cq)
  have p0 := hZ.cell 0; have p1 := hZ.cell 1
  have HQ1 := Lib.hid (OwnNds.off q1 hres3 hOZ.keeps (by decide) (by decide) (by decide) (by decide))
  have HQ2 := Lib.hid (OwnRows.off q2 hres3 hOZ.keeps (by decide) (by decide))
  have HBZ := Lib.hid hBZ
  have HKN := Lib.hid ((hkn3.set_ (p := ⟨gr, 0, none⟩) (by show w.heap.size ≤ gr; omega) (.slice (some ⟨gd, 0, none⟩) nds.length cd)).set_ (p := ⟨gr, 1, none⟩) (by show w.heap.size ≤ gr; omega) (.slice aq fl.length cq))
  clear hBZ hZ hOZ q1 q2
  go_wp2_with fail
  refine bodyPost_ret (v := .tuple #[.agg #[.slice (some ⟨gd, 0, none⟩) nds.length cd, .slice aq fl.length cq], .bool false]) (by simp [results, Tryz.results38, go_sem, p0, p1]) rfl ?_
  exact ⟨_, rfl, ⟨_, _, rfl, HQ1.out, HQ2.out⟩, HBZ.out, HKN.out⟩
set_option linter.unusedSimpArgs false in
set_option maxHeartbeats 8000000 in
set_option maxRecDepth 100000 in
theorem moved_letter_none5 (B : Nat) (an : Option Addr) (cn : Nat) (nds : List Nd) (af : Option Addr) (cf : Nat) (fl : List (List Int)) (dk dn dt dm b c : Int) (at0 : Nat) (w : World) (hx : Nds B w an nds.length cn nds) (hy : Rws B w af fl.length cf fl) (hB : B ≤ w.heap.size) (hfit : NetFit nds fl) (hok : stepOk ⟨5, dk, dn, dt, dm, at0, b, c⟩ = true) (hat : fl.length ≤ at0) :
    Calls Tryz.prog 38 #[.agg #[.slice an nds.length cn, .slice af fl.length cf], .agg #[.int .i64 5, .int .i64 dk, .int .i64 dn, .int .i64 dt, .int .i64 dm, .int .i64 at0, .int .i64 b, .int .i64 c]] w (NetSaid w.heap.size w.heap.size nds fl false w) := by
  have hnw := hx.allN
  have hfw := hy.allR
  have hnc := hx.hcap; have hnm := hx.hmax; have hfc := hy.hcap; have hfm := hy.hmax
  unfold maxLen at hnm hfm
  have ht1 := hfit.one; have ht2 := hfit.four; have ht3 := hfit.few
  obtain ⟨w0, hw0⟩ : ∃ x, x = w.alloc (.cells #[.slice an nds.length cn, .slice af fl.length cf] 33) := ⟨_, rfl⟩
  obtain ⟨w00, hw00⟩ : ∃ x, x = w0.alloc (.cells #[.int .i64 5, .int .i64 dk, .int .i64 dn, .int .i64 dt, .int .i64 dm, .int .i64 at0, .int .i64 b, .int .i64 c] 62) := ⟨_, rfl⟩
  obtain ⟨wb, hwb⟩ : ∃ wb, wb = ((w.alloc (.cells #[.slice an nds.length cn, .slice af fl.length cf] 33)).alloc (.cells #[.int .i64 5, .int .i64 dk, .int .i64 dn, .int .i64 dt, .int .i64 dm, .int .i64 at0, .int .i64 b, .int .i64 c] 62)).alloc (.cells #[.slice none 0 0, .slice none 0 0] 33) := ⟨_, rfl⟩
  obtain ⟨gn, hgn0⟩ : ∃ g, g = w.heap.size := ⟨_, rfl⟩
  obtain ⟨gs, hgs0⟩ : ∃ g, g = w.heap.size + 1 := ⟨_, rfl⟩
  obtain ⟨gr, hgr0⟩ : ∃ gr, gr = w.heap.size + 1 + 1 := ⟨_, rfl⟩
  have hnet : Blk wb gn 33 #[.slice an nds.length cn, .slice af fl.length cf] := by rw [hwb, hgn0]; exact ((Blk.new _ _ _).alloc _).alloc _
  have hstp : Blk wb gs 62 #[.int .i64 5, .int .i64 dk, .int .i64 dn, .int .i64 dt, .int .i64 dm, .int .i64 at0, .int .i64 b, .int .i64 c] := by
    have h := Blk.new w0 62 #[.int .i64 5, .int .i64 dk, .int .i64 dn, .int .i64 dt, .int .i64 dm, .int .i64 at0, .int .i64 b, .int .i64 c]
    have h1 : w0.heap.size = w.heap.size + 1 := by rw [hw0]; simp
    rw [h1] at h
    rw [hwb, hgs0, ← hw0]
    exact h.alloc _
  have hres : Blk wb gr 33 #[.slice none 0 0, .slice none 0 0] := by
    have h := Blk.new w00 33 #[.slice none 0 0, .slice none 0 0]
    have h1 : w00.heap.size = w.heap.size + 1 + 1 := by rw [hw00, hw0]; simp
    rw [h1] at h
    rw [hwb, hgr0, ← hw0, ← hw00]
    exact h
  have hb0 : Below w.heap.size w wb := by
    rw [hwb]
    exact (((Below.refl _ _).alloc (Nat.le_refl _) _).alloc (by simp) _).alloc (by simp; omega) _
  have hgrb : w.heap.size ≤ gr := by omega
  have hngr : gn ≠ gr := by omega
  have hsgr : gs ≠ gr := by omega
  have hs0 := hb0.size
  have hcp := l16Copy_any B an _ cn nds af _ cf fl wb (hx.below hb0 hB (Nat.le_refl B)) (hy.below hb0 hB (Nat.le_refl B)) (by omega) (by omega) (by omega) hfit.small (fun r hr => Nat.le_trans (hfit.short r hr) (by omega))
  have d0 := hnet.cell 0; have d1 := hnet.cell 1
  clear hw0 hw00
  go_enter Tryz.func38, Tryz.ntmps38
  go_upto_region 1 with fail
  rw [← hwb, ← hgr0, ← hgs0, ← hgn0]
  clear hwb hgr0 hgs0 hgn0
  go_wp2_with fail
  refine hcp.mono ?_
  rintro e w1 ⟨mid, nv, fv, rfl, hN1, hb1⟩
  obtain ⟨gd, cd, rfl, hgd, curd, hbd⟩ := hN1.nodes.own.ptr (by omega)
  obtain ⟨aq, cq, rfl⟩ := hN1.letters.own.slice
  clear hcp d0 d1
  obtain ⟨W2, hW2⟩ : ∃ x, x = w1.alloc (.cells #[.slice (some ⟨gd, 0, none⟩) nds.length cd, .slice aq fl.length cq] 33) := ⟨_, rfl⟩
  obtain ⟨go, hgo0⟩ : ∃ x, x = w1.heap.size := ⟨_, rfl⟩
  have hout2 : Blk W2 go 33 #[.slice (some ⟨gd, 0, none⟩) nds.length cd, .slice aq fl.length cq] := by rw [hW2, hgo0]; exact Blk.new _ _ _
  have hb12 : Below w1.heap.size w1 W2 := by rw [hW2]; exact (Below.refl _ _).alloc (Nat.le_refl _) _
  have hs1 := hb1.size
  have hgo : wb.heap.size ≤ go := by omega
  have hgrg : gr ≠ go := by have := hres.lt; omega
  go_upto_region 2 with fail
  rw [← hW2, ← hgo0]
  clear hW2 hgo0
  have hb02 := hb1.trans (hb12.mono hs1)
  have hstp2 := hstp.below hb02 hstp.lt
  have s0 := hstp2.cell 0; have s1 := hstp2.cell 1; have s2 := hstp2.cell 2; have s3 := hstp2.cell 3
  have s4 := hstp2.cell 4; have s5 := hstp2.cell 5; have s6 := hstp2.cell 6; have s7 := hstp2.cell 7
  have hsk := specStepOk_any ⟨5, dk, dn, dt, dm, at0, b, c⟩ W2
  rw [hok] at hsk
  go_wp2_with fail
  refine hsk.mono ?_
  rintro e w3 ⟨rfl, hb3⟩
  have hb13 := hb12.trans (hb3.mono hb12.size)
  have hb03 := hb02.trans (hb3.mono hb02.size)
  have hN3 := hN1.below hb13
  have hnet3 := hnet.below hb03 hnet.lt
  have hstp3 := hstp.below hb03 hstp.lt
  have hres3 := hres.below hb03 hres.lt
  have hout3 := hout2.below hb3 hout2.lt
  have hbel3 := hb0.trans (hb03.mono hs0)
  have hkn3 : KeepNet w w3 := KeepNet.of_below hbel3
  have hsz3 := hb03.size
  have hle := hN3.le
  have hmid := hN3.size
  clear s0 s1 s2 s3 s4 s5 s6 s7 hnet hstp hres hout2 hstp2 hb1 hb12 hb02 hb3 hb13 hb0 hN1 hsk hbd curd
  have s0 := hstp3.cell 0; have s1 := hstp3.cell 1; have s2 := hstp3.cell 2; have s3 := hstp3.cell 3
  have s4 := hstp3.cell 4; have s5 := hstp3.cell 5; have s6 := hstp3.cell 6; have s7 := hstp3.cell 7
  have d0 := hnet3.cell 0; have d1 := hnet3.cell 1
  have o0 := hout3.cell 0; have o1 := hout3.cell 1
  have i0 : ¬ (at0 : Int) < fl.length := by omega
  have q1 := OwnNds.mono hN3.nodes.own hs0
  have q2 := OwnRows.mono hN3.letters.own (show w.heap.size ≤ mid by omega)
  have z0 := hres3.cell 0; have z1 := hres3.cell 1
  have y0 := hres3.frozen 0; have y1 := hres3.frozen 1
  have hZ := Blk.set2 hres3 (.slice (some ⟨gd, 0, none⟩) nds.length cd) (.slice aq fl.length cq)
  have hBZ := hbel3.set2 hgrb (.slice (some ⟨gd, 0, none⟩) nds.length cd) (.slice aq fl.length cq)
  have hOZ := Only.set2 gr w3 (.slice (some ⟨gd, 0, none⟩) nds.length cd) (.slice aq fl.length cq)
  have p0 := hZ.cell 0; have p1 := hZ.cell 1
  have HQ1 := Lib.hid (OwnNds.off q1 hres3 hOZ.keeps (by decide) (by decide) (by decide) (by decide))
  have HQ2 := Lib.hid (OwnRows.off q2 hres3 hOZ.keeps (by decide) (by decide))
  have HBZ := Lib.hid hBZ
  have HKN := Lib.hid ((hkn3.set_ (p := ⟨gr, 0, none⟩) (by show w.heap.size ≤ gr; omega) (.slice (some ⟨gd, 0, none⟩) nds.length cd)).set_ (p := ⟨gr, 1, none⟩) (by show w.heap.size ≤ gr; omega) (.slice aq fl.length cq))
  clear hBZ hZ hOZ q1 q2
  go_wp2_with fail
  refine bodyPost_ret (v := .tuple #[.agg #[.slice (some ⟨gd, 0, none⟩) nds.length cd, .slice aq fl.length cq], .bool false]) (by simp [results, Tryz.results38, go_sem, p0, p1]) rfl ?_
  exact ⟨_, rfl, ⟨_, _, rfl, HQ1.out, HQ2.out⟩, HBZ.out, HKN.out⟩
set_option linter.unusedSimpArgs false in
set_option maxHeartbeats 8000000 in
set_option maxRecDepth 100000 in
theorem moved_letter_none6 (B : Nat) (an : Option Addr) (cn : Nat) (nds : List Nd) (af : Option Addr) (cf : Nat) (fl : List (List Int)) (dk dn dt dm b c : Int) (at0 : Nat) (w : World) (hx : Nds B w an nds.length cn nds) (hy : Rws B w af fl.length cf fl) (hB : B ≤ w.heap.size) (hfit : NetFit nds fl) (hok : stepOk ⟨6, dk, dn, dt, dm, at0, b, c⟩ = true) (hat : fl.length ≤ at0) :
    Calls Tryz.prog 38 #[.agg #[.slice an nds.length cn, .slice af fl.length cf], .agg #[.int .i64 6, .int .i64 dk, .int .i64 dn, .int .i64 dt, .int .i64 dm, .int .i64 at0, .int .i64 b, .int .i64 c]] w (NetSaid w.heap.size w.heap.size nds fl false w) := by
  have hnw := hx.allN
  have hfw := hy.allR
  have hnc := hx.hcap; have hnm := hx.hmax; have hfc := hy.hcap; have hfm := hy.hmax
  unfold maxLen at hnm hfm
  have ht1 := hfit.one; have ht2 := hfit.four; have ht3 := hfit.few
  obtain ⟨w0, hw0⟩ : ∃ x, x = w.alloc (.cells #[.slice an nds.length cn, .slice af fl.length cf] 33) := ⟨_, rfl⟩
  obtain ⟨w00, hw00⟩ : ∃ x, x = w0.alloc (.cells #[.int .i64 6, .int .i64 dk, .int .i64 dn, .int .i64 dt, .int .i64 dm, .int .i64 at0, .int .i64 b, .int .i64 c] 62) := ⟨_, rfl⟩
  obtain ⟨wb, hwb⟩ : ∃ wb, wb = ((w.alloc (.cells #[.slice an nds.length cn, .slice af fl.length cf] 33)).alloc (.cells #[.int .i64 6, .int .i64 dk, .int .i64 dn, .int .i64 dt, .int .i64 dm, .int .i64 at0, .int .i64 b, .int .i64 c] 62)).alloc (.cells #[.slice none 0 0, .slice none 0 0] 33) := ⟨_, rfl⟩
  obtain ⟨gn, hgn0⟩ : ∃ g, g = w.heap.size := ⟨_, rfl⟩
  obtain ⟨gs, hgs0⟩ : ∃ g, g = w.heap.size + 1 := ⟨_, rfl⟩
  obtain ⟨gr, hgr0⟩ : ∃ gr, gr = w.heap.size + 1 + 1 := ⟨_, rfl⟩
  have hnet : Blk wb gn 33 #[.slice an nds.length cn, .slice af fl.length cf] := by rw [hwb, hgn0]; exact ((Blk.new _ _ _).alloc _).alloc _
  have hstp : Blk wb gs 62 #[.int .i64 6, .int .i64 dk, .int .i64 dn, .int .i64 dt, .int .i64 dm, .int .i64 at0, .int .i64 b, .int .i64 c] := by
    have h := Blk.new w0 62 #[.int .i64 6, .int .i64 dk, .int .i64 dn, .int .i64 dt, .int .i64 dm, .int .i64 at0, .int .i64 b, .int .i64 c]
    have h1 : w0.heap.size = w.heap.size + 1 := by rw [hw0]; simp
    rw [h1] at h
    rw [hwb, hgs0, ← hw0]
    exact h.alloc _
  have hres : Blk wb gr 33 #[.slice none 0 0, .slice none 0 0] := by
    have h := Blk.new w00 33 #[.slice none 0 0, .slice none 0 0]
    have h1 : w00.heap.size = w.heap.size + 1 + 1 := by rw [hw00, hw0]; simp
    rw [h1] at h
    rw [hwb, hgr0, ← hw0, ← hw00]
    exact h
  have hb0 : Below w.heap.size w wb := by
    rw [hwb]
    exact (((Below.refl _ _).alloc (Nat.le_refl _) _).alloc (by simp) _).alloc (by simp; omega) _
  have hgrb : w.heap.size ≤ gr := by omega
  have hngr : gn ≠ gr := by omega
  have hsgr : gs ≠ gr := by omega
  have hs0 := hb0.size
  have hcp := l16Copy_any B an _ cn nds af _ cf fl wb (hx.below hb0 hB (Nat.le_refl B)) (hy.below hb0 hB (Nat.le_refl B)) (by omega) (by omega) (by omega) hfit.small (fun r hr => Nat.le_trans (hfit.short r hr) (by omega))
  have d0 := hnet.cell 0; have d1 := hnet.cell 1
  clear hw0 hw00
  go_enter Tryz.func38, Tryz.ntmps38
  go_upto_region 1 with fail
  rw [← hwb, ← hgr0, ← hgs0, ← hgn0]
  clear hwb hgr0 hgs0 hgn0
  go_wp2_with fail
  refine hcp.mono ?_
  rintro e w1 ⟨mid, nv, fv, rfl, hN1, hb1⟩
  obtain ⟨gd, cd, rfl, hgd, curd, hbd⟩ := hN1.nodes.own.ptr (by omega)
  obtain ⟨aq, cq, rfl⟩ := hN1.letters.own.slice
  clear hcp d0 d1
  obtain ⟨W2, hW2⟩ : ∃ x, x = w1.alloc (.cells #[.slice (some ⟨gd, 0, none⟩) nds.length cd, .slice aq fl.length cq] 33) := ⟨_, rfl⟩
  obtain ⟨go, hgo0⟩ : ∃ x, x = w1.heap.size := ⟨_, rfl⟩
  have hout2 : Blk W2 go 33 #[.slice (some ⟨gd, 0, none⟩) nds.length cd, .slice aq fl.length cq] := by rw [hW2, hgo0]; exact Blk.new _ _ _
  have hb12 : Below w1.heap.size w1 W2 := by rw [hW2]; exact (Below.refl _ _).alloc (Nat.le_refl _) _
  have hs1 := hb1.size
  have hgo : wb.heap.size ≤ go := by omega
  have hgrg : gr ≠ go := by have := hres.lt; omega
  go_upto_region 2 with fail
  rw [← hW2, ← hgo0]
  clear hW2 hgo0
  have hb02 := hb1.trans (hb12.mono hs1)
  have hstp2 := hstp.below hb02 hstp.lt
  have s0 := hstp2.cell 0; have s1 := hstp2.cell 1; have s2 := hstp2.cell 2; have s3 := hstp2.cell 3
  have s4 := hstp2.cell 4; have s5 := hstp2.cell 5; have s6 := hstp2.cell 6; have s7 := hstp2.cell 7
  have hsk := specStepOk_any ⟨6, dk, dn, dt, dm, at0, b, c⟩ W2
  rw [hok] at hsk
  go_wp2_with fail
  refine hsk.mono ?_
  rintro e w3 ⟨rfl, hb3⟩
  have hb13 := hb12.trans (hb3.mono hb12.size)
  have hb03 := hb02.trans (hb3.mono hb02.size)
  have hN3 := hN1.below hb13
  have hnet3 := hnet.below hb03 hnet.lt
  have hstp3 := hstp.below hb03 hstp.lt
  have hres3 := hres.below hb03 hres.lt
  have hout3 := hout2.below hb3 hout2.lt
  have hbel3 := hb0.trans (hb03.mono hs0)
  have hkn3 : KeepNet w w3 := KeepNet.of_below hbel3
  have hsz3 := hb03.size
  have hle := hN3.le
  have hmid := hN3.size
  clear s0 s1 s2 s3 s4 s5 s6 s7 hnet hstp hres hout2 hstp2 hb1 hb12 hb02 hb3 hb13 hb0 hN1 hsk hbd curd
  have s0 := hstp3.cell 0; have s1 := hstp3.cell 1; have s2 := hstp3.cell 2; have s3 := hstp3.cell 3
  have s4 := hstp3.cell 4; have s5 := hstp3.cell 5; have s6 := hstp3.cell 6; have s7 := hstp3.cell 7
  have d0 := hnet3.cell 0; have d1 := hnet3.cell 1
  have o0 := hout3.cell 0; have o1 := hout3.cell 1
  have i0 : ¬ (at0 : Int) < fl.length := by omega
  have q1 := OwnNds.mono hN3.nodes.own hs0
  have q2 := OwnRows.mono hN3.letters.own (show w.heap.size ≤ mid by omega)
  have z0 := hres3.cell 0; have z1 := hres3.cell 1
  have y0 := hres3.frozen 0; have y1 := hres3.frozen 1
  have hZ := Blk.set2 hres3 (.slice (some ⟨gd, 0, none⟩) nds.length cd) (.slice aq fl.length cq)
  have hBZ := hbel3.set2 hgrb (.slice (some ⟨gd, 0, none⟩) nds.length cd) (.slice aq fl.length cq)
  have hOZ := Only.set2 gr w3 (.slice (some ⟨gd, 0, none⟩) nds.length cd) (.slice aq fl.length cq)
  have p0 := hZ.cell 0; have p1 := hZ.cell 1
  have HQ1 := Lib.hid (OwnNds.off q1 hres3 hOZ.keeps (by decide) (by decide) (by decide) (by decide))
  have HQ2 := Lib.hid (OwnRows.off q2 hres3 hOZ.keeps (by decide) (by decide))
  have HBZ := Lib.hid hBZ
  have HKN := Lib.hid ((hkn3.set_ (p := ⟨gr, 0, none⟩) (by show w.heap.size ≤ gr; omega) (.slice (some ⟨gd, 0, none⟩) nds.length cd)).set_ (p := ⟨gr, 1, none⟩) (by show w.heap.size ≤ gr; omega) (.slice aq fl.length cq))
  clear hBZ hZ hOZ q1 q2
  go_wp2_with fail
  refine bodyPost_ret (v := .tuple #[.agg #[.slice (some ⟨gd, 0, none⟩) nds.length cd, .slice aq fl.length cq], .bool false]) (by simp [results, Tryz.results38, go_sem, p0, p1]) rfl ?_
  exact ⟨_, rfl, ⟨_, _, rfl, HQ1.out, HQ2.out⟩, HBZ.out, HKN.out⟩
end Go.Proofs.YtoniahfdjhhalaaGreat
