/- Texts of this claim, put together. -/
import Derived.Test.YtoniahfdjhhalaaGreatP1
import Derived.Test.YtoniahfdjhhalaaGreatP33

namespace Go.Proofs.YtoniahfdjhhalaaGreat
open Go.RowKit
theorem vec_i64T (es : List Ent) (h : vecOk (vec es) = true) : AllI64 (vec es) := fun x hx => by
  have := vec_mem h x hx
  unfold I64
  omega
theorem vec_ok {es : List Ent} (h : bookOk es = true) : vecOk (vec es) = true := by
  have hall : ∀ e ∈ es, e.ok = true := fun e he => by
    obtain ⟨i, hi, rfl⟩ := List.mem_iff_getElem.1 he
    have := (book_right h i hi).1
    rwa [E_get hi] at this
  have r0 := mx_range hall 0; have r1 := mx_range hall 1; have r2 := mx_range hall 2; have r3 := mx_range hall 3
  simp [vecOk, vec]
  omega
theorem sealed_len (f t : Int) (vs : List Int) (es : List Ent) : (sealed f t vs es).length ≤ 4000 := withSum_len _
theorem sealed_i64 (f t : Int) (vs : List Int) (es : List Ent) : AllI64 (sealed f t vs es) := bytes_i64 (withSum_bytes _)
set_option linter.unusedSimpArgs false in
set_option maxHeartbeats 8000000 in
set_option maxRecDepth 100000 in
theorem moved_tell_none1 (B : Nat) (an : Option Addr) (cn : Nat) (nds : List Nd) (af : Option Addr) (cf : Nat) (fl : List (List Int)) (dk dn dt dm a b c : Int) (w : World) (hx : Nds B w an nds.length cn nds) (hy : Rws B w af fl.length cf fl) (hB : B ≤ w.heap.size) (hfit : NetFit nds fl) (hok : stepOk ⟨2, dk, dn, dt, dm, a, b, c⟩ = true) (hno : inB a 0 ((nds.length : Int) - 1) = false) :
    Calls Tryz.prog 38 #[.agg #[.slice an nds.length cn, .slice af fl.length cf], .agg #[.int .i64 2, .int .i64 dk, .int .i64 dn, .int .i64 dt, .int .i64 dm, .int .i64 a, .int .i64 b, .int .i64 c]] w (NetSaid w.heap.size w.heap.size nds fl false w) := by
  have hnw := hx.allN
  have hfw := hy.allR
  have hnc := hx.hcap; have hnm := hx.hmax; have hfc := hy.hcap; have hfm := hy.hmax
  unfold maxLen at hnm hfm
  have ht1 := hfit.one; have ht2 := hfit.four; have ht3 := hfit.few
  obtain ⟨w0, hw0⟩ : ∃ x, x = w.alloc (.cells #[.slice an nds.length cn, .slice af fl.length cf] 33) := ⟨_, rfl⟩
  obtain ⟨w00, hw00⟩ : ∃ x, x = w0.alloc (.cells #[.int .i64 2, .int .i64 dk, .int .i64 dn, .int .i64 dt, .int .i64 dm, .int .i64 a, .int .i64 b, .int .i64 c] 62) := ⟨_, rfl⟩
  obtain ⟨wb, hwb⟩ : ∃ wb, wb = ((w.alloc (.cells #[.slice an nds.length cn, .slice af fl.length cf] 33)).alloc (.cells #[.int .i64 2, .int .i64 dk, .int .i64 dn, .int .i64 dt, .int .i64 dm, .int .i64 a, .int .i64 b, .int .i64 c] 62)).alloc (.cells #[.slice none 0 0, .slice none 0 0] 33) := ⟨_, rfl⟩
  obtain ⟨gn, hgn0⟩ : ∃ g, g = w.heap.size := ⟨_, rfl⟩
  obtain ⟨gs, hgs0⟩ : ∃ g, g = w.heap.size + 1 := ⟨_, rfl⟩
  obtain ⟨gr, hgr0⟩ : ∃ gr, gr = w.heap.size + 1 + 1 := ⟨_, rfl⟩
  have hnet : Blk wb gn 33 #[.slice an nds.length cn, .slice af fl.length cf] := by rw [hwb, hgn0]; exact ((Blk.new _ _ _).alloc _).alloc _
  have hstp : Blk wb gs 62 #[.int .i64 2, .int .i64 dk, .int .i64 dn, .int .i64 dt, .int .i64 dm, .int .i64 a, .int .i64 b, .int .i64 c] := by
    have h := Blk.new w0 62 #[.int .i64 2, .int .i64 dk, .int .i64 dn, .int .i64 dt, .int .i64 dm, .int .i64 a, .int .i64 b, .int .i64 c]
    have h1 : w0.heap.size = w.heap.size + 1 := by rw [hw0]; simp
    rw [h1] at h
    rw [hwb, hgs0, ← hw0]
    exact h.alloc _
  have hres : Blk wb gr 33 #[.slice none 0 0, .slice none 0 0] := by
    have h := Blk.new w00 33 #[.slice none 0 0, .slice none 0 0]
    have h1 : w00.heap.size = w.heap.size + 1 + 1 := by rw [hw00, hw0]; simp
    rw [h1] at h
    rw [hwb, hgr0, ← hw0, ← hw00]
    exact h
  have hb0 : Below w.heap.size w wb := by
    rw [hwb]
    exact (((Below.refl _ _).alloc (Nat.le_refl _) _).alloc (by simp) _).alloc (by simp; omega) _
  have hgrb : w.heap.size ≤ gr := by omega
  have hngr : gn ≠ gr := by omega
  have hsgr : gs ≠ gr := by omega
  have hs0 := hb0.size
  have hcp := l16Copy_any B an _ cn nds af _ cf fl wb (hx.below hb0 hB (Nat.le_refl B)) (hy.below hb0 hB (Nat.le_refl B)) (by omega) (by omega) (by omega) hfit.small (fun r hr => Nat.le_trans (hfit.short r hr) (by omega))
  have d0 := hnet.cell 0; have d1 := hnet.cell 1
  clear hw0 hw00
  go_enter Tryz.func38, Tryz.ntmps38
  go_upto_region 1 with fail
  rw [← hwb, ← hgr0, ← hgs0, ← hgn0]
  clear hwb hgr0 hgs0 hgn0
  go_wp2_with fail
  refine hcp.mono ?_
  rintro e w1 ⟨mid, nv, fv, rfl, hN1, hb1⟩
  obtain ⟨gd, cd, rfl, hgd, curd, hbd⟩ := hN1.nodes.own.ptr (by omega)
  obtain ⟨aq, cq, rfl⟩ := hN1.letters.own.slice
  clear hcp d0 d1
  obtain ⟨W2, hW2⟩ : ∃ x, x = w1.alloc (.cells #[.slice (some ⟨gd, 0, none⟩) nds.length cd, .slice aq fl.length cq] 33) := ⟨_, rfl⟩
  obtain ⟨go, hgo0⟩ : ∃ x, x = w1.heap.size := ⟨_, rfl⟩
  have hout2 : Blk W2 go 33 #[.slice (some ⟨gd, 0, none⟩) nds.length cd, .slice aq fl.length cq] := by rw [hW2, hgo0]; exact Blk.new _ _ _
  have hb12 : Below w1.heap.size w1 W2 := by rw [hW2]; exact (Below.refl _ _).alloc (Nat.le_refl _) _
  have hs1 := hb1.size
  have hgo : wb.heap.size ≤ go := by omega
  have hgrg : gr ≠ go := by have := hres.lt; omega
  go_upto_region 2 with fail
  rw [← hW2, ← hgo0]
  clear hW2 hgo0
  have hb02 := hb1.trans (hb12.mono hs1)
  have hstp2 := hstp.below hb02 hstp.lt
  have s0 := hstp2.cell 0; have s1 := hstp2.cell 1; have s2 := hstp2.cell 2; have s3 := hstp2.cell 3
  have s4 := hstp2.cell 4; have s5 := hstp2.cell 5; have s6 := hstp2.cell 6; have s7 := hstp2.cell 7
  have hsk := specStepOk_any ⟨2, dk, dn, dt, dm, a, b, c⟩ W2
  rw [hok] at hsk
  go_wp2_with fail
  refine hsk.mono ?_
  rintro e w3 ⟨rfl, hb3⟩
  have hb13 := hb12.trans (hb3.mono hb12.size)
  have hb03 := hb02.trans (hb3.mono hb02.size)
  have hN3 := hN1.below hb13
  have hnet3 := hnet.below hb03 hnet.lt
  have hstp3 := hstp.below hb03 hstp.lt
  have hres3 := hres.below hb03 hres.lt
  have hout3 := hout2.below hb3 hout2.lt
  have hbel3 := hb0.trans (hb03.mono hs0)
  have hkn3 : KeepNet w w3 := KeepNet.of_below hbel3
  have hsz3 := hb03.size
  have hle := hN3.le
  have hmid := hN3.size
  clear s0 s1 s2 s3 s4 s5 s6 s7 hnet hstp hres hout2 hstp2 hb1 hb12 hb02 hb3 hb13 hb0 hN1 hsk hbd curd
  have s0 := hstp3.cell 0; have s1 := hstp3.cell 1; have s2 := hstp3.cell 2; have s3 := hstp3.cell 3
  have s4 := hstp3.cell 4; have s5 := hstp3.cell 5; have s6 := hstp3.cell 6; have s7 := hstp3.cell 7
  have d0 := hnet3.cell 0; have d1 := hnet3.cell 1
  have o0 := hout3.cell 0; have o1 := hout3.cell 1
  go_wp2_with fail
  refine (l16Has_any an _ cn af _ cf a _ (by omega)).mono ?_
  rintro e w4 ⟨rfl, hb4⟩
  rw [hno]
  have hN4 := hN3.below hb4
  have hres4 := hres3.below hb4 hres3.lt
  have hout4 := hout3.below hb4 hout3.lt
  have hbel4 := hbel3.trans (hb4.mono hbel3.size)
  have hkn4 := hkn3.trans (KeepNet.of_below hb4)
  clear s0 s1 s2 s3 s4 s5 s6 s7 d0 d1 o0 o1
  have o0 := hout4.cell 0; have o1 := hout4.cell 1
  have hstp4 := hstp3.below hb4 hstp3.lt
  have hnet4 := hnet3.below hb4 hnet3.lt
  have s0 := hstp4.cell 0; have s5 := hstp4.cell 5; have d1 := hnet4.cell 1
  have q1 := OwnNds.mono hN4.nodes.own hs0
  have q2 := OwnRows.mono hN4.letters.own (show w.heap.size ≤ mid by omega)
  have z0 := hres4.cell 0; have z1 := hres4.cell 1
  have y0 := hres4.frozen 0; have y1 := hres4.frozen 1
  have hZ := Blk.set2 hres4 (.slice (some ⟨gd, 0, none⟩) nds.length cd) (.slice aq fl.length cq)
  have hBZ := hbel4.set2 hgrb (.slice (some ⟨gd, 0, none⟩) nds.length cd) (.slice aq fl.length cq)
  have hOZ := Only.set2 gr w4 (.slice (some ⟨gd, 0, none⟩) nds.length cd) (.slice aq fl.length cq)
  have p0 := hZ.cell 0; have p1 := hZ.cell 1
  have HQ1 := Lib.hid (OwnNds.off q1 hres4 hOZ.keeps (by decide) (by decide) (by decide) (by decide))
  have HQ2 := Lib.hid (OwnRows.off q2 hres4 hOZ.keeps (by decide) (by decide))
  have HBZ := Lib.hid hBZ
  have HKN := Lib.hid ((hkn4.set_ (p := ⟨gr, 0, none⟩) (by show w.heap.size ≤ gr; omega) (.slice (some ⟨gd, 0, none⟩) nds.length cd)).set_ (p := ⟨gr, 1, none⟩) (by show w.heap.size ≤ gr; omega) (.slice aq fl.length cq))
  clear hBZ hZ hOZ q1 q2
  go_wp2_with fail
  refine bodyPost_ret (v := .tuple #[.agg #[.slice (some ⟨gd, 0, none⟩) nds.length cd, .slice aq fl.length cq], .bool false]) (by simp [results, Tryz.results38, go_sem, p0, p1]) rfl ?_
  exact ⟨_, rfl, ⟨_, _, rfl, HQ1.out, HQ2.out⟩, HBZ.out, HKN.out⟩
set_option linter.unusedSimpArgs false in
set_option maxHeartbeats 8000000 in
set_option maxRecDepth 100000 in
theorem moved_tell_none2 (B : Nat) (an : Option Addr) (cn : Nat) (nds : List Nd) (af : Option Addr) (cf : Nat) (fl : List (List Int)) (dk dn dt dm a b c : Int) (w : World) (hx : Nds B w an nds.length cn nds) (hy : Rws B w af fl.length cf fl) (hB : B ≤ w.heap.size) (hfit : NetFit nds fl) (hok : stepOk ⟨2, dk, dn, dt, dm, a, b, c⟩ = true) (hya : inB a 0 ((nds.length : Int) - 1) = true) (hno : inB b 0 ((nds.length : Int) - 1) = false) :
    Calls Tryz.prog 38 #[.agg #[.slice an nds.length cn, .slice af fl.length cf], .agg #[.int .i64 2, .int .i64 dk, .int .i64 dn, .int .i64 dt, .int .i64 dm, .int .i64 a, .int .i64 b, .int .i64 c]] w (NetSaid w.heap.size w.heap.size nds fl false w) := by
  have hnw := hx.allN
  have hfw := hy.allR
  have hnc := hx.hcap; have hnm := hx.hmax; have hfc := hy.hcap; have hfm := hy.hmax
  unfold maxLen at hnm hfm
  have ht1 := hfit.one; have ht2 := hfit.four; have ht3 := hfit.few
  obtain ⟨w0, hw0⟩ : ∃ x, x = w.alloc (.cells #[.slice an nds.length cn, .slice af fl.length cf] 33) := ⟨_, rfl⟩
  obtain ⟨w00, hw00⟩ : ∃ x, x = w0.alloc (.cells #[.int .i64 2, .int .i64 dk, .int .i64 dn, .int .i64 dt, .int .i64 dm, .int .i64 a, .int .i64 b, .int .i64 c] 62) := ⟨_, rfl⟩
  obtain ⟨wb, hwb⟩ : ∃ wb, wb = ((w.alloc (.cells #[.slice an nds.length cn, .slice af fl.length cf] 33)).alloc (.cells #[.int .i64 2, .int .i64 dk, .int .i64 dn, .int .i64 dt, .int .i64 dm, .int .i64 a, .int .i64 b, .int .i64 c] 62)).alloc (.cells #[.slice none 0 0, .slice none 0 0] 33) := ⟨_, rfl⟩
  obtain ⟨gn, hgn0⟩ : ∃ g, g = w.heap.size := ⟨_, rfl⟩
  obtain ⟨gs, hgs0⟩ : ∃ g, g = w.heap.size + 1 := ⟨_, rfl⟩
  obtain ⟨gr, hgr0⟩ : ∃ gr, gr = w.heap.size + 1 + 1 := ⟨_, rfl⟩
  have hnet : Blk wb gn 33 #[.slice an nds.length cn, .slice af fl.length cf] := by rw [hwb, hgn0]; exact ((Blk.new _ _ _).alloc _).alloc _
  have hstp : Blk wb gs 62 #[.int .i64 2, .int .i64 dk, .int .i64 dn, .int .i64 dt, .int .i64 dm, .int .i64 a, .int .i64 b, .int .i64 c] := by
    have h := Blk.new w0 62 #[.int .i64 2, .int .i64 dk, .int .i64 dn, .int .i64 dt, .int .i64 dm, .int .i64 a, .int .i64 b, .int .i64 c]
    have h1 : w0.heap.size = w.heap.size + 1 := by rw [hw0]; simp
    rw [h1] at h
    rw [hwb, hgs0, ← hw0]
    exact h.alloc _
  have hres : Blk wb gr 33 #[.slice none 0 0, .slice none 0 0] := by
    have h := Blk.new w00 33 #[.slice none 0 0, .slice none 0 0]
    have h1 : w00.heap.size = w.heap.size + 1 + 1 := by rw [hw00, hw0]; simp
    rw [h1] at h
    rw [hwb, hgr0, ← hw0, ← hw00]
    exact h
  have hb0 : Below w.heap.size w wb := by
    rw [hwb]
    exact (((Below.refl _ _).alloc (Nat.le_refl _) _).alloc (by simp) _).alloc (by simp; omega) _
  have hgrb : w.heap.size ≤ gr := by omega
  have hngr : gn ≠ gr := by omega
  have hsgr : gs ≠ gr := by omega
  have hs0 := hb0.size
  have hcp := l16Copy_any B an _ cn nds af _ cf fl wb (hx.below hb0 hB (Nat.le_refl B)) (hy.below hb0 hB (Nat.le_refl B)) (by omega) (by omega) (by omega) hfit.small (fun r hr => Nat.le_trans (hfit.short r hr) (by omega))
  have d0 := hnet.cell 0; have d1 := hnet.cell 1
  clear hw0 hw00
  go_enter Tryz.func38, Tryz.ntmps38
  go_upto_region 1 with fail
  rw [← hwb, ← hgr0, ← hgs0, ← hgn0]
  clear hwb hgr0 hgs0 hgn0
  go_wp2_with fail
  refine hcp.mono ?_
  rintro e w1 ⟨mid, nv, fv, rfl, hN1, hb1⟩
  obtain ⟨gd, cd, rfl, hgd, curd, hbd⟩ := hN1.nodes.own.ptr (by omega)
  obtain ⟨aq, cq, rfl⟩ := hN1.letters.own.slice
  clear hcp d0 d1
  obtain ⟨W2, hW2⟩ : ∃ x, x = w1.alloc (.cells #[.slice (some ⟨gd, 0, none⟩) nds.length cd, .slice aq fl.length cq] 33) := ⟨_, rfl⟩
  obtain ⟨go, hgo0⟩ : ∃ x, x = w1.heap.size := ⟨_, rfl⟩
  have hout2 : Blk W2 go 33 #[.slice (some ⟨gd, 0, none⟩) nds.length cd, .slice aq fl.length cq] := by rw [hW2, hgo0]; exact Blk.new _ _ _
  have hb12 : Below w1.heap.size w1 W2 := by rw [hW2]; exact (Below.refl _ _).alloc (Nat.le_refl _) _
  have hs1 := hb1.size
  have hgo : wb.heap.size ≤ go := by omega
  have hgrg : gr ≠ go := by have := hres.lt; omega
  go_upto_region 2 with fail
  rw [← hW2, ← hgo0]
  clear hW2 hgo0
  have hb02 := hb1.trans (hb12.mono hs1)
  have hstp2 := hstp.below hb02 hstp.lt
  have s0 := hstp2.cell 0; have s1 := hstp2.cell 1; have s2 := hstp2.cell 2; have s3 := hstp2.cell 3
  have s4 := hstp2.cell 4; have s5 := hstp2.cell 5; have s6 := hstp2.cell 6; have s7 := hstp2.cell 7
  have hsk := specStepOk_any ⟨2, dk, dn, dt, dm, a, b, c⟩ W2
  rw [hok] at hsk
  go_wp2_with fail
  refine hsk.mono ?_
  rintro e w3 ⟨rfl, hb3⟩
  have hb13 := hb12.trans (hb3.mono hb12.size)
  have hb03 := hb02.trans (hb3.mono hb02.size)
  have hN3 := hN1.below hb13
  have hnet3 := hnet.below hb03 hnet.lt
  have hstp3 := hstp.below hb03 hstp.lt
  have hres3 := hres.below hb03 hres.lt
  have hout3 := hout2.below hb3 hout2.lt
  have hbel3 := hb0.trans (hb03.mono hs0)
  have hkn3 : KeepNet w w3 := KeepNet.of_below hbel3
  have hsz3 := hb03.size
  have hle := hN3.le
  have hmid := hN3.size
  clear s0 s1 s2 s3 s4 s5 s6 s7 hnet hstp hres hout2 hstp2 hb1 hb12 hb02 hb3 hb13 hb0 hN1 hsk hbd curd
  have s0 := hstp3.cell 0; have s1 := hstp3.cell 1; have s2 := hstp3.cell 2; have s3 := hstp3.cell 3
  have s4 := hstp3.cell 4; have s5 := hstp3.cell 5; have s6 := hstp3.cell 6; have s7 := hstp3.cell 7
  have d0 := hnet3.cell 0; have d1 := hnet3.cell 1
  have o0 := hout3.cell 0; have o1 := hout3.cell 1
  go_wp2_with fail
  refine (l16Has_any an _ cn af _ cf a _ (by omega)).mono ?_
  rintro e w4 ⟨rfl, hb4⟩
  rw [hya]
  clear s0 s1 s2 s3 s4 s5 s6 s7 d0 d1 o0 o1
  have hstp3b := hstp3.below hb4 hstp3.lt
  have hnet3b := hnet3.below hb4 hnet3.lt
  have hout3b := hout3.below hb4 hout3.lt
  have s0 := hstp3b.cell 0; have s1 := hstp3b.cell 1; have s2 := hstp3b.cell 2; have s3 := hstp3b.cell 3
  have s4 := hstp3b.cell 4; have s5 := hstp3b.cell 5; have s6 := hstp3b.cell 6; have s7 := hstp3b.cell 7
  have d0 := hnet3b.cell 0; have d1 := hnet3b.cell 1
  have o0 := hout3b.cell 0; have o1 := hout3b.cell 1
  go_wp2_with fail
  refine (l16Has_any an _ cn af _ cf b _ (by omega)).mono ?_
  rintro e w5 ⟨rfl, hb5⟩
  rw [hno]
  have hb35 := hb4.trans (hb5.mono hb4.size)
  clear hstp3b hnet3b hout3b
  have hN4 := hN3.below hb35
  have hres4 := hres3.below hb35 hres3.lt
  have hout4 := hout3.below hb35 hout3.lt
  have hbel4 := hbel3.trans (hb35.mono hbel3.size)
  have hkn4 := hkn3.trans (KeepNet.of_below hb35)
  clear s0 s1 s2 s3 s4 s5 s6 s7 d0 d1 o0 o1
  have o0 := hout4.cell 0; have o1 := hout4.cell 1
  have hstp4 := hstp3.below hb35 hstp3.lt
  have hnet4 := hnet3.below hb35 hnet3.lt
  have s0 := hstp4.cell 0; have s5 := hstp4.cell 5; have d1 := hnet4.cell 1
  have q1 := OwnNds.mono hN4.nodes.own hs0
  have q2 := OwnRows.mono hN4.letters.own (show w.heap.size ≤ mid by omega)
  have z0 := hres4.cell 0; have z1 := hres4.cell 1
  have y0 := hres4.frozen 0; have y1 := hres4.frozen 1
  have hZ := Blk.set2 hres4 (.slice (some ⟨gd, 0, none⟩) nds.length cd) (.slice aq fl.length cq)
  have hBZ := hbel4.set2 hgrb (.slice (some ⟨gd, 0, none⟩) nds.length cd) (.slice aq fl.length cq)
  have hOZ := Only.set2 gr w5 (.slice (some ⟨gd, 0, none⟩) nds.length cd) (.slice aq fl.length cq)
  have p0 := hZ.cell 0; have p1 := hZ.cell 1
  have HQ1 := Lib.hid (OwnNds.off q1 hres4 hOZ.keeps (by decide) (by decide) (by decide) (by decide))
  have HQ2 := Lib.hid (OwnRows.off q2 hres4 hOZ.keeps (by decide) (by decide))
  have HBZ := Lib.hid hBZ
  have HKN := Lib.hid ((hkn4.set_ (p := ⟨gr, 0, none⟩) (by show w.heap.size ≤ gr; omega) (.slice (some ⟨gd, 0, none⟩) nds.length cd)).set_ (p := ⟨gr, 1, none⟩) (by show w.heap.size ≤ gr; omega) (.slice aq fl.length cq))
  clear hBZ hZ hOZ q1 q2
  go_wp2_with fail
  refine bodyPost_ret (v := .tuple #[.agg #[.slice (some ⟨gd, 0, none⟩) nds.length cd, .slice aq fl.length cq], .bool false]) (by simp [results, Tryz.results38, go_sem, p0, p1]) rfl ?_
  exact ⟨_, rfl, ⟨_, _, rfl, HQ1.out, HQ2.out⟩, HBZ.out, HKN.out⟩
set_option linter.unusedSimpArgs false in
set_option maxHeartbeats 8000000 in
set_option maxRecDepth 100000 in
theorem moved_tell_none3 (B : Nat) (an : Option Addr) (cn : Nat) (nds : List Nd) (af : Option Addr) (cf : Nat) (fl : List (List Int)) (dk dn dt dm a c : Int) (w : World) (hx : Nds B w an nds.length cn nds) (hy : Rws B w af fl.length cf fl) (hB : B ≤ w.heap.size) (hfit : NetFit nds fl) (hok : stepOk ⟨2, dk, dn, dt, dm, a, a, c⟩ = true) (hya : inB a 0 ((nds.length : Int) - 1) = true) :
    Calls Tryz.prog 38 #[.agg #[.slice an nds.length cn, .slice af fl.length cf], .agg #[.int .i64 2, .int .i64 dk, .int .i64 dn, .int .i64 dt, .int .i64 dm, .int .i64 a, .int .i64 a, .int .i64 c]] w (NetSaid w.heap.size w.heap.size nds fl false w) := by
  have hnw := hx.allN
  have hfw := hy.allR
  have hnc := hx.hcap; have hnm := hx.hmax; have hfc := hy.hcap; have hfm := hy.hmax
  unfold maxLen at hnm hfm
  have ht1 := hfit.one; have ht2 := hfit.four; have ht3 := hfit.few
  obtain ⟨w0, hw0⟩ : ∃ x, x = w.alloc (.cells #[.slice an nds.length cn, .slice af fl.length cf] 33) := ⟨_, rfl⟩
  obtain ⟨w00, hw00⟩ : ∃ x, x = w0.alloc (.cells #[.int .i64 2, .int .i64 dk, .int .i64 dn, .int .i64 dt, .int .i64 dm, .int .i64 a, .int .i64 a, .int .i64 c] 62) := ⟨_, rfl⟩
  obtain ⟨wb, hwb⟩ : ∃ wb, wb = ((w.alloc (.cells #[.slice an nds.length cn, .slice af fl.length cf] 33)).alloc (.cells #[.int .i64 2, .int .i64 dk, .int .i64 dn, .int .i64 dt, .int .i64 dm, .int .i64 a, .int .i64 a, .int .i64 c] 62)).alloc (.cells #[.slice none 0 0, .slice none 0 0] 33) := ⟨_, rfl⟩
  obtain ⟨gn, hgn0⟩ : ∃ g, g = w.heap.size := ⟨_, rfl⟩
  obtain ⟨gs, hgs0⟩ : ∃ g, g = w.heap.size + 1 := ⟨_, rfl⟩
  obtain ⟨gr, hgr0⟩ : ∃ gr, gr = w.heap.size + 1 + 1 := ⟨_, rfl⟩
  have hnet : Blk wb gn 33 #[.slice an nds.length cn, .slice af fl.length cf] := by rw [hwb, hgn0]; exact ((Blk.new _ _ _).alloc _).alloc _
  have hstp : Blk wb gs 62 #[.int .i64 2, .int .i64 dk, .int .i64 dn, .int .i64 dt, .int .i64 dm, .int .i64 a, .int .i64 a, .int .i64 c] := by
    have h := Blk.new w0 62 #[.int .i64 2, .int .i64 dk, .int .i64 dn, .int .i64 dt, .int .i64 dm, .int .i64 a, .int .i64 a, .int .i64 c]
    have h1 : w0.heap.size = w.heap.size + 1 := by rw [hw0]; simp
    rw [h1] at h
    rw [hwb, hgs0, ← hw0]
    exact h.alloc _
  have hres : Blk wb gr 33 #[.slice none 0 0, .slice none 0 0] := by
    have h := Blk.new w00 33 #[.slice none 0 0, .slice none 0 0]
    have h1 : w00.heap.size = w.heap.size + 1 + 1 := by rw [hw00, hw0]; simp
    rw [h1] at h
    rw [hwb, hgr0, ← hw0, ← hw00]
    exact h
  have hb0 : Below w.heap.size w wb := by
    rw [hwb]
    exact (((Below.refl _ _).alloc (Nat.le_refl _) _).alloc (by simp) _).alloc (by simp; omega) _
  have hgrb : w.heap.size ≤ gr := by omega
  have hngr : gn ≠ gr := by omega
  have hsgr : gs ≠ gr := by omega
  have hs0 := hb0.size
  have hcp := l16Copy_any B an _ cn nds af _ cf fl wb (hx.below hb0 hB (Nat.le_refl B)) (hy.below hb0 hB (Nat.le_refl B)) (by omega) (by omega) (by omega) hfit.small (fun r hr => Nat.le_trans (hfit.short r hr) (by omega))
  have d0 := hnet.cell 0; have d1 := hnet.cell 1
  clear hw0 hw00
  go_enter Tryz.func38, Tryz.ntmps38
  go_upto_region 1 with fail
  rw [← hwb, ← hgr0, ← hgs0, ← hgn0]
  clear hwb hgr0 hgs0 hgn0
  go_wp2_with fail
  refine hcp.mono ?_
  rintro e w1 ⟨mid, nv, fv, rfl, hN1, hb1⟩
  obtain ⟨gd, cd, rfl, hgd, curd, hbd⟩ := hN1.nodes.own.ptr (by omega)
  obtain ⟨aq, cq, rfl⟩ := hN1.letters.own.slice
  clear hcp d0 d1
  obtain ⟨W2, hW2⟩ : ∃ x, x = w1.alloc (.cells #[.slice (some ⟨gd, 0, none⟩) nds.length cd, .slice aq fl.length cq] 33) := ⟨_, rfl⟩
  obtain ⟨go, hgo0⟩ : ∃ x, x = w1.heap.size := ⟨_, rfl⟩
  have hout2 : Blk W2 go 33 #[.slice (some ⟨gd, 0, none⟩) nds.length cd, .slice aq fl.length cq] := by rw [hW2, hgo0]; exact Blk.new _ _ _
  have hb12 : Below w1.heap.size w1 W2 := by rw [hW2]; exact (Below.refl _ _).alloc (Nat.le_refl _) _
  have hs1 := hb1.size
  have hgo : wb.heap.size ≤ go := by omega
  have hgrg : gr ≠ go := by have := hres.lt; omega
  go_upto_region 2 with fail
  rw [← hW2, ← hgo0]
  clear hW2 hgo0
  have hb02 := hb1.trans (hb12.mono hs1)
  have hstp2 := hstp.below hb02 hstp.lt
  have s0 := hstp2.cell 0; have s1 := hstp2.cell 1; have s2 := hstp2.cell 2; have s3 := hstp2.cell 3
  have s4 := hstp2.cell 4; have s5 := hstp2.cell 5; have s6 := hstp2.cell 6; have s7 := hstp2.cell 7
  have hsk := specStepOk_any ⟨2, dk, dn, dt, dm, a, a, c⟩ W2
  rw [hok] at hsk
  go_wp2_with fail
  refine hsk.mono ?_
  rintro e w3 ⟨rfl, hb3⟩
  have hb13 := hb12.trans (hb3.mono hb12.size)
  have hb03 := hb02.trans (hb3.mono hb02.size)
  have hN3 := hN1.below hb13
  have hnet3 := hnet.below hb03 hnet.lt
  have hstp3 := hstp.below hb03 hstp.lt
  have hres3 := hres.below hb03 hres.lt
  have hout3 := hout2.below hb3 hout2.lt
  have hbel3 := hb0.trans (hb03.mono hs0)
  have hkn3 : KeepNet w w3 := KeepNet.of_below hbel3
  have hsz3 := hb03.size
  have hle := hN3.le
  have hmid := hN3.size
  clear s0 s1 s2 s3 s4 s5 s6 s7 hnet hstp hres hout2 hstp2 hb1 hb12 hb02 hb3 hb13 hb0 hN1 hsk hbd curd
  have s0 := hstp3.cell 0; have s1 := hstp3.cell 1; have s2 := hstp3.cell 2; have s3 := hstp3.cell 3
  have s4 := hstp3.cell 4; have s5 := hstp3.cell 5; have s6 := hstp3.cell 6; have s7 := hstp3.cell 7
  have d0 := hnet3.cell 0; have d1 := hnet3.cell 1
  have o0 := hout3.cell 0; have o1 := hout3.cell 1
  go_wp2_with fail
  refine (l16Has_any an _ cn af _ cf a _ (by omega)).mono ?_
  rintro e w4 ⟨rfl, hb4⟩
  rw [hya]
  clear s0 s1 s2 s3 s4 s5 s6 s7 d0 d1 o0 o1
  have hstp3b := hstp3.below hb4 hstp3.lt
  have hnet3b := hnet3.below hb4 hnet3.lt
  have hout3b := hout3.below hb4 hout3.lt
  have s0 := hstp3b.cell 0; have s1 := hstp3b.cell 1; have s2 := hstp3b.cell 2; have s3 := hstp3b.cell 3
  have s4 := hstp3b.cell 4; have s5 := hstp3b.cell 5; have s6 := hstp3b.cell 6; have s7 := hstp3b.cell 7
  have d0 := hnet3b.cell 0; have d1 := hnet3b.cell 1
  have o0 := hout3b.cell 0; have o1 := hout3b.cell 1
  go_wp2_with fail
  refine (l16Has_any an _ cn af _ cf a _ (by omega)).mono ?_
  rintro e w5 ⟨rfl, hb5⟩
  rw [hya]
  have hb35 := hb4.trans (hb5.mono hb4.size)
  clear hstp3b hnet3b hout3b
  have hne : ((a : Int) != a) = false := by simp
  have hN4 := hN3.below hb35
  have hres4 := hres3.below hb35 hres3.lt
  have hout4 := hout3.below hb35 hout3.lt
  have hbel4 := hbel3.trans (hb35.mono hbel3.size)
  have hkn4 := hkn3.trans (KeepNet.of_below hb35)
  clear s0 s1 s2 s3 s4 s5 s6 s7 d0 d1 o0 o1
  have o0 := hout4.cell 0; have o1 := hout4.cell 1
  have hstp4 := hstp3.below hb35 hstp3.lt
  have hnet4 := hnet3.below hb35 hnet3.lt
  have s0 := hstp4.cell 0; have s5 := hstp4.cell 5; have s6 := hstp4.cell 6; have d1 := hnet4.cell 1
  have q1 := OwnNds.mono hN4.nodes.own hs0
  have q2 := OwnRows.mono hN4.letters.own (show w.heap.size ≤ mid by omega)
  have z0 := hres4.cell 0; have z1 := hres4.cell 1
  have y0 := hres4.frozen 0; have y1 := hres4.frozen 1
  have hZ := Blk.set2 hres4 (.slice (some ⟨gd, 0, none⟩) nds.length cd) (.slice aq fl.length cq)
  have hBZ := hbel4.set2 hgrb (.slice (some ⟨gd, 0, none⟩) nds.length cd) (.slice aq fl.length cq)
  have hOZ := Only.set2 gr w5 (.slice (some ⟨gd, 0, none⟩) nds.length cd) (.slice aq fl.length cq)
  have p0 := hZ.cell 0; have p1 := hZ.cell 1
  have HQ1 := Lib.hid (OwnNds.off q1 hres4 hOZ.keeps (by decide) (by decide) (by decide) (by decide))
  have HQ2 := Lib.hid (OwnRows.off q2 hres4 hOZ.keeps (by decide) (by decide))
  have HBZ := Lib.hid hBZ
  have HKN := Lib.hid ((hkn4.set_ (p := ⟨gr, 0, none⟩) (by show w.heap.size ≤ gr; omega) (.slice (some ⟨gd, 0, none⟩) nds.length cd)).set_ (p := ⟨gr, 1, none⟩) (by show w.heap.size ≤ gr; omega) (.slice aq fl.length cq))
  clear hBZ hZ hOZ q1 q2
  go_wp2_with fail
  refine bodyPost_ret (v := .tuple #[.agg #[.slice (some ⟨gd, 0, none⟩) nds.length cd, .slice aq fl.length cq], .bool false]) (by simp [results, Tryz.results38, go_sem, p0, p1]) rfl ?_
  exact ⟨_, rfl, ⟨_, _, rfl, HQ1.out, HQ2.out⟩, HBZ.out, HKN.out⟩
set_option linter.unusedSimpArgs false in
set_option maxHeartbeats 8000000 in
set_option maxRecDepth 100000 in
theorem moved_tell (B : Nat) (an : Option Addr) (cn : Nat) (nds : List Nd) (af : Option Addr) (cf : Nat) (fl : List (List Int)) (dk dn dt dm c : Int) (at0 bt0 : Nat) (xs : List Int) (w : World) (hx : Nds B w an nds.length cn nds) (hy : Rws B w af fl.length cf fl) (hB : B ≤ w.heap.size) (hfit : NetFit nds fl) (hok : stepOk ⟨2, dk, dn, dt, dm, at0, bt0, c⟩ = true) (hat : at0 < nds.length) (hbt0 : bt0 < nds.length) (hne : at0 ≠ bt0) (hlet : letterTo (ND nds at0) bt0 = ⟨(ND nds at0).me, bt0, vec (ND nds at0).book, partE (ND nds at0).book (RW (ND nds at0).acks bt0)⟩) (hbook : bookOk (ND nds at0).book = true) (hbp : bookOk (partE (ND nds at0).book (RW (ND nds at0).acks bt0)) = true) (hme : 0 ≤ (ND nds at0).me ∧ (ND nds at0).me ≤ 3) (hxs : sealed (ND nds at0).me bt0 (vec (ND nds at0).book) (partE (ND nds at0).book (RW (ND nds at0).acks bt0)) = xs) :
    Calls Tryz.prog 38 #[.agg #[.slice an nds.length cn, .slice af fl.length cf], .agg #[.int .i64 2, .int .i64 dk, .int .i64 dn, .int .i64 dt, .int .i64 dm, .int .i64 at0, .int .i64 bt0, .int .i64 c]] w (NetSaid w.heap.size w.heap.size nds (sent fl xs) (decide (fl.length < 30)) w) := by
  have hnw := hx.allN
  have hfw := hy.allR
  have hnc := hx.hcap; have hnm := hx.hmax; have hfc := hy.hcap; have hfm := hy.hmax
  unfold maxLen at hnm hfm
  have ht1 := hfit.one; have ht2 := hfit.four; have ht3 := hfit.few
  obtain ⟨w0, hw0⟩ : ∃ x, x = w.alloc (.cells #[.slice an nds.length cn, .slice af fl.length cf] 33) := ⟨_, rfl⟩
  obtain ⟨w00, hw00⟩ : ∃ x, x = w0.alloc (.cells #[.int .i64 2, .int .i64 dk, .int .i64 dn, .int .i64 dt, .int .i64 dm, .int .i64 at0, .int .i64 bt0, .int .i64 c] 62) := ⟨_, rfl⟩
  obtain ⟨wb, hwb⟩ : ∃ wb, wb = ((w.alloc (.cells #[.slice an nds.length cn, .slice af fl.length cf] 33)).alloc (.cells #[.int .i64 2, .int .i64 dk, .int .i64 dn, .int .i64 dt, .int .i64 dm, .int .i64 at0, .int .i64 bt0, .int .i64 c] 62)).alloc (.cells #[.slice none 0 0, .slice none 0 0] 33) := ⟨_, rfl⟩
  obtain ⟨gn, hgn0⟩ : ∃ g, g = w.heap.size := ⟨_, rfl⟩
  obtain ⟨gs, hgs0⟩ : ∃ g, g = w.heap.size + 1 := ⟨_, rfl⟩
  obtain ⟨gr, hgr0⟩ : ∃ gr, gr = w.heap.size + 1 + 1 := ⟨_, rfl⟩
  have hnet : Blk wb gn 33 #[.slice an nds.length cn, .slice af fl.length cf] := by rw [hwb, hgn0]; exact ((Blk.new _ _ _).alloc _).alloc _
  have hstp : Blk wb gs 62 #[.int .i64 2, .int .i64 dk, .int .i64 dn, .int .i64 dt, .int .i64 dm, .int .i64 at0, .int .i64 bt0, .int .i64 c] := by
    have h := Blk.new w0 62 #[.int .i64 2, .int .i64 dk, .int .i64 dn, .int .i64 dt, .int .i64 dm, .int .i64 at0, .int .i64 bt0, .int .i64 c]
    have h1 : w0.heap.size = w.heap.size + 1 := by rw [hw0]; simp
    rw [h1] at h
    rw [hwb, hgs0, ← hw0]
    exact h.alloc _
  have hres : Blk wb gr 33 #[.slice none 0 0, .slice none 0 0] := by
    have h := Blk.new w00 33 #[.slice none 0 0, .slice none 0 0]
    have h1 : w00.heap.size = w.heap.size + 1 + 1 := by rw [hw00, hw0]; simp
    rw [h1] at h
    rw [hwb, hgr0, ← hw0, ← hw00]
    exact h
  have hb0 : Below w.heap.size w wb := by
    rw [hwb]
    exact (((Below.refl _ _).alloc (Nat.le_refl _) _).alloc (by simp) _).alloc (by simp; omega) _
  have hgrb : w.heap.size ≤ gr := by omega
  have hngr : gn ≠ gr := by omega
  have hsgr : gs ≠ gr := by omega
  have hs0 := hb0.size
  have hcp := l16Copy_any B an _ cn nds af _ cf fl wb (hx.below hb0 hB (Nat.le_refl B)) (hy.below hb0 hB (Nat.le_refl B)) (by omega) (by omega) (by omega) hfit.small (fun r hr => Nat.le_trans (hfit.short r hr) (by omega))
  have d0 := hnet.cell 0; have d1 := hnet.cell 1
  clear hw0 hw00
  go_enter Tryz.func38, Tryz.ntmps38
  go_upto_region 1 with fail
  rw [← hwb, ← hgr0, ← hgs0, ← hgn0]
  clear hwb hgr0 hgs0 hgn0
  go_wp2_with fail
  refine hcp.mono ?_
  rintro e w1 ⟨mid, nv, fv, rfl, hN1, hb1⟩
  obtain ⟨gd, cd, rfl, hgd, curd, hbd⟩ := hN1.nodes.own.ptr (by omega)
  obtain ⟨aq, cq, rfl⟩ := hN1.letters.own.slice
  clear hcp d0 d1
  obtain ⟨W2, hW2⟩ : ∃ x, x = w1.alloc (.cells #[.slice (some ⟨gd, 0, none⟩) nds.length cd, .slice aq fl.length cq] 33) := ⟨_, rfl⟩
  obtain ⟨go, hgo0⟩ : ∃ x, x = w1.heap.size := ⟨_, rfl⟩
  have hout2 : Blk W2 go 33 #[.slice (some ⟨gd, 0, none⟩) nds.length cd, .slice aq fl.length cq] := by rw [hW2, hgo0]; exact Blk.new _ _ _
  have hb12 : Below w1.heap.size w1 W2 := by rw [hW2]; exact (Below.refl _ _).alloc (Nat.le_refl _) _
  have hs1 := hb1.size
  have hgo : wb.heap.size ≤ go := by omega
  have hgrg : gr ≠ go := by have := hres.lt; omega
  go_upto_region 2 with fail
  rw [← hW2, ← hgo0]
  clear hW2 hgo0
  have hb02 := hb1.trans (hb12.mono hs1)
  have hstp2 := hstp.below hb02 hstp.lt
  have s0 := hstp2.cell 0; have s1 := hstp2.cell 1; have s2 := hstp2.cell 2; have s3 := hstp2.cell 3
  have s4 := hstp2.cell 4; have s5 := hstp2.cell 5; have s6 := hstp2.cell 6; have s7 := hstp2.cell 7
  have hsk := specStepOk_any ⟨2, dk, dn, dt, dm, at0, bt0, c⟩ W2
  rw [hok] at hsk
  go_wp2_with fail
  refine hsk.mono ?_
  rintro e w3 ⟨rfl, hb3⟩
  have hb13 := hb12.trans (hb3.mono hb12.size)
  have hb03 := hb02.trans (hb3.mono hb02.size)
  have hN3 := hN1.below hb13
  have hnet3 := hnet.below hb03 hnet.lt
  have hstp3 := hstp.below hb03 hstp.lt
  have hres3 := hres.below hb03 hres.lt
  have hout3 := hout2.below hb3 hout2.lt
  have hbel3 := hb0.trans (hb03.mono hs0)
  have hkn3 : KeepNet w w3 := KeepNet.of_below hbel3
  have hsz3 := hb03.size
  have hle := hN3.le
  have hmid := hN3.size
  clear s0 s1 s2 s3 s4 s5 s6 s7 hnet hstp hres hout2 hstp2 hb1 hb12 hb02 hb3 hb13 hb0 hN1 hsk hbd curd
  have s0 := hstp3.cell 0; have s1 := hstp3.cell 1; have s2 := hstp3.cell 2; have s3 := hstp3.cell 3
  have s4 := hstp3.cell 4; have s5 := hstp3.cell 5; have s6 := hstp3.cell 6; have s7 := hstp3.cell 7
  have d0 := hnet3.cell 0; have d1 := hnet3.cell 1
  have o0 := hout3.cell 0; have o1 := hout3.cell 1
  have hbt : 0 ≤ (bt0 : Int) ∧ (bt0 : Int) ≤ 3 := by omega
  go_wp2_with fail
  refine (l16Has_any an _ cn af _ cf at0 _ (by omega)).mono ?_
  rintro e w4a ⟨rfl, hb4⟩
  have hin : inB (at0 : Int) 0 ((nds.length : Int) - 1) = true := by simp [inB]; omega
  rw [hin]
  clear hin
  clear s0 s1 s2 s3 s4 s5 s6 s7 d0 d1 o0 o1
  have hstp3b := hstp3.below hb4 hstp3.lt
  have hnet3b := hnet3.below hb4 hnet3.lt
  have hout3b := hout3.below hb4 hout3.lt
  have s0 := hstp3b.cell 0; have s1 := hstp3b.cell 1; have s2 := hstp3b.cell 2; have s3 := hstp3b.cell 3
  have s4 := hstp3b.cell 4; have s5 := hstp3b.cell 5; have s6 := hstp3b.cell 6; have s7 := hstp3b.cell 7
  have d0 := hnet3b.cell 0; have d1 := hnet3b.cell 1
  have o0 := hout3b.cell 0; have o1 := hout3b.cell 1
  go_wp2_with fail
  refine (l16Has_any an _ cn af _ cf bt0 _ (by omega)).mono ?_
  rintro e w4 ⟨rfl, hb5⟩
  have hin : inB (bt0 : Int) 0 ((nds.length : Int) - 1) = true := by simp [inB]; omega
  rw [hin]
  clear hin
  have hb35 := hb4.trans (hb5.mono hb4.size)
  have hN4 := hN3.below hb35
  have hres4 := hres3.below hb35 hres3.lt
  have hout4 := hout3.below hb35 hout3.lt
  have hstp4 := hstp3.below hb35 hstp3.lt
  have hbel4 := hbel3.trans (hb35.mono hbel3.size)
  have hkn4 := hkn3.trans (KeepNet.of_below hb35)
  have hnei : ((at0 : Int) != bt0) = true := by simp; omega
  clear s0 s1 s2 s3 s4 s5 s6 s7 d0 d1 o0 o1 hstp3b hnet3b hout3b
  have s0 := hstp4.cell 0; have s5 := hstp4.cell 5; have s6 := hstp4.cell 6
  go_upto_region 9 with fail
  have i0 : (0 : Int) ≤ at0 := by omega
  have i1 : (at0 : Int) < nds.length := by omega
  have hgdw : w.heap.size ≤ gd := by omega
  clear s0 s5 s6
  refine wp_region_held_drew (S := (fun w' => w'.cell? ⟨go, 0, none⟩ = some (.slice (some ⟨gd, 0, none⟩) nds.length cd) ∧ w'.cell? ⟨go, 1, none⟩ = some (.slice aq fl.length cq) ∧ w'.cell? ⟨gs, 5, none⟩ = some (.int .i64 at0) ∧ w'.cell? ⟨gs, 6, none⟩ = some (.int .i64 bt0))) (by kernel_rfl) ⟨(hout4.drewN 1).cell 0, (hout4.drewN 1).cell 1, (hstp4.drewN 1).cell 5, (hstp4.drewN 1).cell 6⟩ (fun hHeld => ?_)
  obtain ⟨W0, hW0⟩ : ∃ x, x = w4.drew := ⟨_, rfl⟩
  have hbW : Below w4.heap.size w4 W0 := by rw [hW0]; exact (Below.refl _ _).drew
  rw [← hW0] at hHeld ⊢
  clear hW0
  have hN0 := hN4.below hbW
  have hres0 := hres4.below hbW hres4.lt
  have hout0 := hout4.below hbW hout4.lt
  have hstp0 := hstp4.below hbW hstp4.lt
  have hbel0 := hbel4.trans (hbW.mono hbel4.size)
  have hkn0 := hkn4.trans (KeepNet.of_below hbW)
  obtain ⟨ab, cb, aa, ca, c0, c1, c2, -, -, -, hei, hez, hri⟩ := hN0.nodes.own.spot hnw at0 hat
  have hlt := specLetterTo_any W0.heap.size (ND nds at0).me ab _ cb (ND nds at0).book aa _ ca (ND nds at0).acks bt0 W0 hei hri (Nat.le_refl _)
  have hnd' : (⟨(ND nds at0).me, (ND nds at0).book, (ND nds at0).acks⟩ : Nd) = ND nds at0 := rfl
  rw [hnd', hlet] at hlt
  clear hnd'
  generalize ND nds at0 = nd at c0 c1 c2 hei hri hlt hbook hbp hme hxs
  have HLT := Lib.hid hlt; clear hlt hei hri
  refine tk (i := 0) (v := ?vf0) rfl (by kernel_rfl) (fun _ _ _ h => h) (Or.inl ⟨by rfl, ?hyf0⟩) (by assumption) ?rf0
  case hyf0 => (intro w hSw; (try dsimp only at hSw); go_simp; try with_reducible rfl)
  try simp only [Act.put, qGa, qGb, qGc, qSa, qSb, qSc]
  refine tk (i := 1) (v := ?vf1) rfl (by kernel_rfl) (fun _ _ _ h => h) (Or.inl ⟨by rfl, ?hyf1⟩) (by assumption) ?rf1
  case hyf1 => (intro w hSw; (try dsimp only at hSw); go_simp; try with_reducible rfl)
  try simp only [Act.put, qGa, qGb, qGc, qSa, qSb, qSc]
  refine tk (i := 2) (v := ?vf2) rfl (by kernel_rfl) (fun _ _ _ h => h) (Or.inl ⟨by rfl, ?hyf2⟩) (by assumption) ?rf2
  case hyf2 => (intro w hSw; (try dsimp only at hSw); go_simp; try with_reducible rfl)
  try simp only [Act.put, qGa, qGb, qGc, qSa, qSb, qSc]
  refine tk (i := 3) (v := ?vf3) rfl (by kernel_rfl) (fun _ _ _ h => h) (Or.inl ⟨by rfl, ?hyf3⟩) (by assumption) ?rf3
  case hyf3 => (intro w hSw; (try dsimp only at hSw); go_simp; try with_reducible rfl)
  try simp only [Act.put, qGa, qGb, qGc, qSa, qSb, qSc]
  refine tk (i := 4) (v := ?vf4) rfl (by kernel_rfl) (fun _ _ _ h => h) (Or.inl ⟨by rfl, ?hyf4⟩) (by assumption) ?rf4
  case hyf4 => (intro w hSw; (try dsimp only at hSw); go_simp; try with_reducible rfl)
  try simp only [Act.put, qGa, qGb, qGc, qSa, qSb, qSc]
  refine tk (i := 5) (v := ?vf5) rfl (by kernel_rfl) (fun _ _ _ h => h) (Or.inl ⟨by rfl, ?hyf5⟩) (by assumption) ?rf5
  case hyf5 => (intro w hSw; (try dsimp only at hSw); go_simp; try with_reducible rfl)
  try simp only [Act.put, qGa, qGb, qGc, qSa, qSb, qSc]
  refine tk (i := 7) (v := ?vf7) rfl (by kernel_rfl) (fun _ _ _ h => h) (Or.inl ⟨by rfl, ?hyf7⟩) (by assumption) ?rf7
  case hyf7 => (intro w hSw; (try dsimp only at hSw); go_simp; try with_reducible rfl)
  try simp only [Act.put, qGa, qGb, qGc, qSa, qSb, qSc]
  refine tk (i := 8) (v := ?vf8) rfl (by kernel_rfl) (fun _ _ _ h => h) (Or.inl ⟨by rfl, ?hyf8⟩) (by assumption) ?rf8
  case hyf8 => (intro w hSw; (try dsimp only at hSw); go_simp; try with_reducible rfl)
  try simp only [Act.put, qGa, qGb, qGc, qSa, qSb, qSc]
  refine wpAnyH_ready (rs := [6]) (by kernel_rfl) (by simp) ?_
  refine AllReadyH.cons rfl (fun Ka hKa => ?_) AllReadyH.nil
  go_simp
  refine hKa.out _ _ ⟨(hout0).cell 0, (hout0).cell 1, (hstp0).cell 5, (hstp0).cell 6⟩ (fun hHeld => ?_)
  clear hKa Ka
  try simp only [Act.put, qGa, qGb, qGc, qSa, qSb, qSc]
  clear c0 c1 c2
  refine wpAnyH_ready (rs := [9]) (by kernel_rfl) (by simp) ?_
  refine AllReadyH.cons rfl (fun Kb hKb => ?_) AllReadyH.nil
  go_simp
  refine HLT.out.mono ?_
  rintro e w5 ⟨vv, pv, rfl, hov, hop, hb5a⟩
  obtain ⟨av, cv, rfl, hvi, -⟩ := hov.ints' (vec_i64T _ (vec_ok hbook))
  obtain ⟨ap, cp, rfl, hpi, -⟩ := hop.ents (book_wf hbp)
  have hout5 := hout0.below hb5a hout0.lt
  have hstp5 := hstp0.below hb5a hstp0.lt
  have hseal := l14Sealed_any w5.heap.size nd.me bt0 av _ cv (vec nd.book) ap _ cp (partE nd.book (RW nd.acks bt0)) w5 hvi hpi (Nat.le_refl _) hme hbt (vec_ok hbook) hbp
  go_wp2_with fail
  refine hKb.out _ _ ⟨(hout5).cell 0, (hout5).cell 1, (hstp5).cell 5, (hstp5).cell 6⟩ (fun hHeld => ?_)
  clear hKb Kb
  try simp only [Act.put, qGa, qGb, qGc, qSa, qSb, qSc]
  refine wpAnyH_ready (rs := [10]) (by kernel_rfl) (by simp) ?_
  refine AllReadyH.cons rfl (fun Kc hKc => ?_) AllReadyH.nil
  go_simp
  refine hseal.mono ?_
  rintro e w6 ⟨sv, rfl, hos, hb6⟩
  have hslen := sealed_len nd.me bt0 (vec nd.book) (partE nd.book (RW nd.acks bt0))
  have hsw := sealed_i64 nd.me bt0 (vec nd.book) (partE nd.book (RW nd.acks bt0))
  rw [hxs] at hos hslen hsw
  obtain ⟨asl, cs, rfl, hsi, hsz⟩ := hos.ints' hsw
  have hb06 := hb5a.trans (hb6.mono hb5a.size)
  have hout6 := hout0.below hb06 hout0.lt
  have hstp6 := hstp0.below hb06 hstp0.lt
  have hN6 := hN0.below hb06
  have hres6 := hres0.below hb06 hres0.lt
  have hbel6 := hbel0.trans (hb06.mono hbel0.size)
  have hkn6 := hkn0.trans (KeepNet.of_below hb06)
  go_wp2_with fail
  refine hKc.out _ _ ⟨(hout6).cell 0, (hout6).cell 1, (hstp6).cell 5, (hstp6).cell 6⟩ (fun hHeld => ?_)
  clear hKc Kc
  try simp only [Act.put, qGa, qGb, qGc, qSa, qSb, qSc]
  refine wpAnyH_ready (rs := [11]) (by kernel_rfl) (by simp) ?_
  refine AllReadyH.cons rfl (fun Kd hKd => ?_) AllReadyH.nil
  go_simp
  refine (l16Send_any wb.heap.size mid w6.heap.size nds fl _ _ asl xs.length cs xs w6 hN6 hnw hfw hsi (Nat.le_refl _) hsz (by omega)).mono ?_
  rintro e w7 ⟨v, rfl, ⟨nv1, fv1, rfl, q1, q2⟩, hb7, hk7⟩
  obtain ⟨fl1, hfl1⟩ : ∃ x, sent fl xs = x := ⟨_, rfl⟩
  rw [hfl1] at q2
  obtain ⟨is, his⟩ : ∃ x, decide (fl.length < 30) = x := ⟨_, rfl⟩
  rw [his]
  have HFL := Lib.hid hfl1; have HIS := Lib.hid his; clear hfl1 his
  obtain ⟨a1, k1, rfl⟩ := q1.slice
  obtain ⟨a2, k2, rfl⟩ := q2.slice
  have hout7 := hk7.net hout6
  have hstp7 := hk7.stp hstp6
  have hres7 := hk7.net hres6
  have hbel7 := hbel6.trans (hb7.mono (show w.heap.size ≤ mid by omega))
  have hkn7 := hkn6.trans hk7
  replace q1 := OwnNds.mono q1 hs0
  replace q2 := OwnRows.mono q2 hs0
  go_wp2_with fail
  refine hKd.out _ _ ⟨(hout7).cell 0, (hout7).cell 1, (hstp7).cell 5, (hstp7).cell 6⟩ (fun hHeld => ?_)
  clear hKd Kd
  try simp only [Act.put, qGa, qGb, qGc, qSa, qSb, qSc]
  refine tk (i := 12) (v := ?vg12) rfl (by kernel_rfl) (fun _ _ _ h => h) (Or.inl ⟨by rfl, ?hyg12⟩) (by assumption) ?rg12
  case hyg12 => (intro w hSw; (try dsimp only at hSw); go_simp; try with_reducible rfl)
  try simp only [Act.put, qGa, qGb, qGc, qSa, qSb, qSc]
  refine tk (i := 13) (v := ?vg13) rfl (by kernel_rfl) (fun _ _ _ h => h) (Or.inl ⟨by rfl, ?hyg13⟩) (by assumption) ?rg13
  case hyg13 => (intro w hSw; (try dsimp only at hSw); go_simp; try with_reducible rfl)
  try simp only [Act.put, qGa, qGb, qGc, qSa, qSb, qSc]
  have z0 := hres7.cell 0; have z1 := hres7.cell 1
  have y0 := hres7.frozen 0; have y1 := hres7.frozen 1
  have hZ := Blk.set2 hres7 (.slice a1 nds.length k1) (.slice a2 fl1.length k2)
  have hBZ := hbel7.set2 hgrb (.slice a1 nds.length k1) (.slice a2 fl1.length k2)
  have hOZ := Only.set2 gr w7 (.slice a1 nds.length k1) (.slice a2 fl1.length k2)
  have p0 := hZ.cell 0; have p1 := hZ.cell 1
  have houtZ := hout7.keeps hOZ.keeps (Ne.symm hgrg)
  have hstpZ := hstp7.keeps hOZ.keeps hsgr
  have HQ1 := Lib.hid (OwnNds.off q1 hres7 hOZ.keeps (by decide) (by decide) (by decide) (by decide))
  have HQ2 := Lib.hid (OwnRows.off q2 hres7 hOZ.keeps (by decide) (by decide))
  have HBZ := Lib.hid hBZ
  have HKN := Lib.hid ((hkn7.set_ (p := ⟨gr, 0, none⟩) (by show w.heap.size ≤ gr; omega) (.slice a1 nds.length k1)).set_ (p := ⟨gr, 1, none⟩) (by show w.heap.size ≤ gr; omega) (.slice a2 fl1.length k2))
  clear hBZ hOZ q1 q2
  refine wpAnyH_ready (rs := [14]) (by kernel_rfl) (by simp) ?_
  refine AllReadyH.cons rfl (fun Ke hKe => ?_) AllReadyH.nil
  go_simp
  refine hKe.out _ _ ⟨(houtZ).cell 0, (houtZ).cell 1, (hstpZ).cell 5, (hstpZ).cell 6⟩ (fun hHeld => ?_)
  clear hKe Ke
  try simp only [Act.put, qGa, qGb, qGc, qSa, qSb, qSc]
  refine tk (i := 15) (v := ?vh15) rfl (by kernel_rfl) (fun _ _ _ h => h) (Or.inl ⟨by rfl, ?hyh15⟩) (by assumption) ?rh15
  case hyh15 => (intro w hSw; (try dsimp only at hSw); go_simp; try with_reducible rfl)
  try simp only [Act.put, qGa, qGb, qGc, qSa, qSb, qSc]
  refine wpAnyH_done (by kernel_rfl) ?_ _
  go_wp2_with fail
  refine bodyPost_ret (v := .tuple #[.agg #[.slice a1 nds.length k1, .slice a2 fl1.length k2], .bool is]) (by simp [results, Tryz.results38, go_sem, p0, p1]) rfl ?_
  exact ⟨_, by rw [HIS.out], ⟨_, _, rfl, HQ1.out, by rw [HFL.out]; exact HQ2.out⟩, HBZ.out, HKN.out⟩
end Go.Proofs.YtoniahfdjhhalaaGreat
