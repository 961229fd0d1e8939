/- Texts of this claim, put together. -/
import Derived.Test.YtoniahfdjhhalaaGreatP1
import Derived.Test.YtoniahfdjhhalaaGreatP24
import Derived.Test.YtoniahfdjhhalaaGreatP28
import Derived.Test.YtoniahfdjhhalaaGreatP29

namespace Go.Proofs.YtoniahfdjhhalaaGreat
open Go.RowKit
def hearTo (nds : List Nd) (xs : List Int) (k : Nat) : List Nd := (nds.take k).map (fun nd => (heard nd xs).1) ++ nds.drop k
def someTo (nds : List Nd) (xs : List Int) (k : Nat) : Bool := (nds.take k).any fun nd => (heard nd xs).2
def hearAll (nds : List Nd) (xs : List Int) : List Nd := nds.map fun nd => (heard nd xs).1
def hearSome (nds : List Nd) (xs : List Int) : Bool := nds.any fun nd => (heard nd xs).2
theorem hearTo_len (nds : List Nd) (xs : List Int) (k : Nat) : (hearTo nds xs k).length = nds.length := by
  rw [hearTo, List.length_append, List.length_map, List.length_take, List.length_drop]
  omega
theorem hearTo_zero (nds : List Nd) (xs : List Int) : hearTo nds xs 0 = nds := by simp [hearTo]
theorem hearTo_end (nds : List Nd) (xs : List Int) : hearTo nds xs nds.length = hearAll nds xs := by simp [hearTo, hearAll]
theorem someTo_end (nds : List Nd) (xs : List Int) : someTo nds xs nds.length = hearSome nds xs := by simp [someTo, hearSome]
theorem hearTo_old {nds : List Nd} {xs : List Int} {k j : Nat} (hj : j < nds.length) : ND (hearTo nds xs k) j = if j < k then (heard (ND nds j) xs).1 else ND nds j := by
  rw [ND_get (by rw [hearTo_len]; exact hj), ND_get hj]
  unfold hearTo
  rw [List.getElem_append]
  simp only [List.length_map, List.length_take]
  by_cases h : j < k
  · rw [dif_pos (by omega), if_pos h]
    simp
  · rw [dif_neg (by omega), if_neg h]
    rw [List.getElem_drop]
    congr 1
    omega
theorem nds_ext {a b : List Nd} (hl : a.length = b.length) (h : ∀ j, j < a.length → ND a j = ND b j) : a = b := by
  apply List.ext_getElem hl
  intro j h1 h2
  have := h j h1
  rwa [ND_get h1, ND_get h2] at this
theorem hearTo_set {nds : List Nd} {xs : List Int} {k : Nat} (hk : k < nds.length) : (hearTo nds xs k).set k (heard (ND nds k) xs).1 = hearTo nds xs (k + 1) := by
  apply nds_ext (by rw [List.length_set, hearTo_len, hearTo_len])
  intro j hj
  rw [List.length_set, hearTo_len] at hj
  rw [ND_set (by rw [hearTo_len]; exact hj), hearTo_old hj, hearTo_old hj]
  by_cases e : j = k
  · subst e; rw [if_pos rfl, if_pos (by omega)]
  · rw [if_neg e]
    by_cases h : j < k
    · rw [if_pos h, if_pos (by omega)]
    · rw [if_neg h, if_neg (by omega)]
theorem someTo_succ {nds : List Nd} {xs : List Int} {k : Nat} (hk : k < nds.length) : someTo nds xs (k + 1) = (someTo nds xs k || (heard (ND nds k) xs).2) := by
  unfold someTo
  rw [List.take_succ_eq_append_getElem hk, List.any_append, ND_get hk]
  simp
theorem RW_wf {rows : List (List Int)} (h : AllR rows) (j : Nat) : AllI64 (RW rows j) := by
  by_cases hj : j < rows.length
  · exact h.at j hj
  · intro x hx
    simp [RW, List.getD, show rows.length ≤ j by omega] at hx
theorem heard_wf {nd : Nd} (h : NdWf nd) (xs : List Int) : NdWf (heard nd xs).1 := by
  unfold heard
  split
  · split
    · exact h
    · rename_i l hl
      have hlo := openR_ok hl
      have hv : AllI64 l.v := fun x hx => by
        have := vec_mem (letter_parts hlo).2.2.2.1 x hx
        unfold I64
        omega
      unfold hearL
      split
      · exact h
      · split
        · exact h
        · rename_i j hj
          split
          · refine ⟨?_, fun r hr => ?_⟩
            · have := (joinR_getD (a := nd.book) (b := l.p)).1
              rw [hj] at this
              exact this
            · rcases List.mem_or_eq_of_mem_set hr with h1 | h1
              · exact h.2 r h1
              · rw [h1]
                exact later_i64' (RW_wf h.2 _) hv
          · exact h
  · exact ⟨fun e he => by simp [zeroNd] at he, fun r hr => by simp [zeroNd] at hr⟩
theorem hearTo_wf {nds : List Nd} (h : AllN nds) (xs : List Int) (k : Nat) : AllN (hearTo nds xs k) := fun j hj => by
  rw [hearTo_len] at hj
  rw [hearTo_old hj]
  split
  · exact heard_wf (h j hj) xs
  · exact h j hj
set_option linter.unusedSimpArgs false in
set_option maxHeartbeats 8000000 in
set_option maxRecDepth 100000 in
theorem l16Hand_any (base : Nat) (nds : List Nd) (fl : List (List Int)) (nv fv : Value) (at0 : Nat) (w : World) (hx : OwnNds base w nv nds) (hy : OwnRows base w fv fl) (hB : base ≤ w.heap.size) (hnw : AllN nds) (hfw : AllR fl) (hn1 : 1 ≤ nds.length) (hn2 : nds.length ≤ 1048576) (hat : at0 < fl.length) (hnf : fl.length ≤ 1048576) (hxl : (RW fl at0).length ≤ 1099511627776) :
    Calls Tryz.prog 84 #[.agg #[nv, fv], .int .i64 at0] w (NetSaid base base (hearAll nds (RW fl at0)) (fl.eraseIdx at0) (hearSome nds (RW fl at0)) w) := by
  obtain ⟨gd, cn, rfl, hgd, -⟩ := hx.ptr (by omega)
  obtain ⟨gf, cf, rfl, -, -⟩ := hy.ptr (by omega)
  obtain ⟨af2, cf2, hfe, hrw, -⟩ := hy.rows hfw
  cases hfe
  have hf1 := hrw.hcap; have hf2 := hrw.hmax
  unfold maxLen at hf2
  obtain ⟨an2, cn2, hne2, hrn, -⟩ := hx.nds hnw
  cases hne2
  have hq1 := hrn.hcap; have hq2 := hrn.hmax
  unfold maxLen at hq2
  clear hrw hrn
  have hgdw : gd < w.heap.size := by
    obtain ⟨vs, _, h1, _⟩ := hx
    exact (World.ownsRow.lt h1 gd rfl).2
  obtain ⟨lv, hlc, hlo⟩ := hy.letter at0 hat
  obtain ⟨la, lc, rfl⟩ := hlo.slice
  have hxw : AllI64 (RW fl at0) := hfw.at at0 hat
  obtain ⟨xs, hxs⟩ : ∃ x, RW fl at0 = x := ⟨_, rfl⟩
  rw [hxs] at hlc hlo hxw hxl ⊢
  clear hxs
  have hz0 := hearTo_zero nds xs
  have hend := hearTo_end nds xs
  have hsend := someTo_end nds xs
  obtain ⟨all, hall⟩ : ∃ x, hearAll nds xs = x := ⟨_, rfl⟩
  obtain ⟨som, hsom⟩ : ∃ x, hearSome nds xs = x := ⟨_, rfl⟩
  rw [hall] at hend ⊢
  rw [hsom] at hsend ⊢
  clear hall hsom
  have hallw : AllN all := by rw [← hend]; exact hearTo_wf hnw xs _
  have halln : all.length = nds.length := by rw [← hend]; exact hearTo_len nds xs _
  obtain ⟨nf, hnfe⟩ : ∃ x, fl.length = x := ⟨_, rfl⟩
  obtain ⟨nn, hnne⟩ : ∃ x, nds.length = x := ⟨_, rfl⟩
  obtain ⟨lm, hlme⟩ : ∃ x, xs.length = x := ⟨_, rfl⟩
  rw [hnfe] at hy hat hnf hf1 ⊢
  rw [hnne] at hx hn1 hn2 hq1 hend hsend halln ⊢
  rw [hlme] at hlc hlo hxl
  obtain ⟨wb, hwb⟩ : ∃ wb, wb = (w.alloc (.cells #[.slice (some ⟨gd, 0, none⟩) nn cn, .slice (some ⟨gf, 0, none⟩) nf cf] 33)).alloc (.cells #[.slice none 0 0, .slice none 0 0] 33) := ⟨_, rfl⟩
  obtain ⟨gn, hgn0⟩ : ∃ g, g = w.heap.size := ⟨_, rfl⟩
  obtain ⟨gr, hgr0⟩ : ∃ gr, gr = w.heap.size + 1 := ⟨_, rfl⟩
  have hnet : Blk wb gn 33 #[.slice (some ⟨gd, 0, none⟩) nn cn, .slice (some ⟨gf, 0, none⟩) nf cf] := by rw [hwb, hgn0]; exact (Blk.new _ _ _).alloc _
  have hres : Blk wb gr 33 #[.slice none 0 0, .slice none 0 0] := by
    rw [hwb, hgr0]
    have h := Blk.new (w.alloc (.cells #[.slice (some ⟨gd, 0, none⟩) nn cn, .slice (some ⟨gf, 0, none⟩) nf cf] 33)) 33 #[.slice none 0 0, .slice none 0 0]
    simpa using h
  have hb0 : Below w.heap.size w wb := by rw [hwb]; exact ((Below.refl _ _).alloc (Nat.le_refl _) _).alloc (by simp) _
  have hgn : gd ≠ gn := by omega
  have hgr : gd ≠ gr := by omega
  have hgrb : base ≤ gr := by omega
  have hgrw : w.heap.size ≤ gr := by omega
  have hs0 := hb0.size
  have d1 := hnet.cell 1
  have l0 := (hb0.cell (World.block_lt_of_cell? w _ hlc)).trans hlc
  have i0 : (0 : Int) ≤ at0 := by omega
  have i1 : (at0 : Int) < nf := by omega
  have hbB : Below base w wb := hb0.mono hB
  have hx0 := hx.below hb0 (Nat.le_refl _)
  have hy0 := hy.below hb0 (Nat.le_refl _)
  have hl0 := hlo.below hb0 (Nat.le_refl _)
  have HNW := Lib.hid hnw; have HFW := Lib.hid hfw; have HEND := Lib.hid hend; have HSEND := Lib.hid hsend; have HALLW := Lib.hid hallw; have HALLN := Lib.hid halln; have HNNE := Lib.hid hnne; have HNFE := Lib.hid hnfe; have HLME := Lib.hid hlme
  have HX0 : Hid (OwnNds base wb (.slice (some ⟨gd, 0, none⟩) nn cn) (hearTo nds xs 0)) := Lib.hid (by rw [hz0]; exact hx0)
  clear hnw hfw hend hsend hallw halln hnne hnfe hlme hz0 hx0 hlc
  go_enter Tryz.func84, Tryz.ntmps84
  go_upto_region 1 with fail
  rw [← hwb, ← hgr0, ← hgn0]
  clear hwb hgr0 hgn0
  go_wp2_with fail
  go_loopw [7, 8] (fun s7 s8 wr => ∃ i : Nat, i ≤ nn ∧ s8 = .int .i64 i ∧ s7 = .bool (someTo nds xs i) ∧ OwnNds base wr (.slice (some ⟨gd, 0, none⟩) nn cn) (hearTo nds xs i) ∧ OwnRows base wr (.slice (some ⟨gf, 0, none⟩) nf cf) fl ∧ Own base wr (.slice la lm lc) xs ∧ Blk wr gn 33 #[.slice (some ⟨gd, 0, none⟩) nn cn, .slice (some ⟨gf, 0, none⟩) nf cf] ∧ Blk wr gr 33 #[.slice none 0 0, .slice none 0 0] ∧ Below base w wr ∧ wb.heap.size ≤ wr.heap.size ∧ KeepNet w wr) (fun _ s8 _ => nn - (intOf s8).toNat)
  case atStart => exact ⟨0, Nat.zero_le _, rfl, rfl, HX0.out, hy0, hl0, hnet, hres, hbB, Nat.le_refl _, KeepNet.of_below hb0⟩
  case round =>
    obtain ⟨i, hi, rfl, rfl, hown, hrows, hlet, hnetr, hresr, hbel, hsz, hkn⟩ := hrel
    clear d1 l0
    have d0 := hnetr.cell 0
    by_cases hlt : i < nn
    · have hin : i < nds.length := by have := HNNE.out; omega
      have hin2 : i < (hearTo nds xs i).length := by rw [hearTo_len]; exact hin
      obtain ⟨ab, cb, aa, ca, c0, c1, c2, f0, f1, f2, hei, hez, hri⟩ := hown.spot (hearTo_wf HNW.out xs i) i hin2
      have hndE : ND (hearTo nds xs i) i = ND nds i := by rw [hearTo_old hin, if_neg (by omega)]
      rw [hndE] at c0 c1 c2 hei hri
      obtain ⟨ao, cap, he, hli, hlz⟩ := hlet.ints' hxw
      rw [HLME.out] at he hli
      cases he
      have hbase : base ≤ wr.heap.size := by omega
      have hset := hearTo_set (xs := xs) hin
      have hsome := someTo_succ (xs := xs) hin
      have hwf := heard_wf (HNW.out i hin) xs
      have hheard := specHeard_any wr.heap.size (ND nds i).me ab _ cb (ND nds i).book aa _ ca (ND nds i).acks la lm lc xs wr hei hez hri hli hlz (Nat.le_refl _) hxl
      have hnd' : (⟨(ND nds i).me, (ND nds i).book, (ND nds i).acks⟩ : Nd) = ND nds i := rfl
      rw [hnd'] at hheard
      clear hnd' hndE
      generalize ND nds i = nd at c0 c1 c2 hei hri hset hsome hwf hheard
      generalize heard nd xs = r at hset hsome hwf hheard
      obtain ⟨nd', is⟩ := r
      dsimp only at hset hsome hwf
      have HSET := Lib.hid hset; have HSOME := Lib.hid hsome; have HWF := Lib.hid hwf; clear hset hsome hwf hei hri
      have hgdr : gd < wr.heap.size := by omega
      have i2 : (0 : Int) ≤ i := by omega
      have i3 : (i : Int) < nn := by omega
      go_wp2_with fail
      refine hheard.mono ?_
      rintro e w2 ⟨bv, av, rfl, hob, hoa, hb2⟩
      dsimp only at hob hoa ⊢
      have hobk := hob.mono hbase
      have hoak := hoa.mono hbase
      obtain ⟨a2, k2, rfl, -⟩ := hob.ents HWF.out.1
      obtain ⟨a3, k3, rfl, -⟩ := hoa.rows HWF.out.2
      obtain ⟨W3, hW3⟩ : ∃ x, x = w2.alloc (.cells #[.int .i64 nd'.me, .slice a2 nd'.book.length k2, .slice a3 nd'.acks.length k3] 39) := ⟨_, rfl⟩
      obtain ⟨gx, hgx⟩ : ∃ x, x = w2.heap.size := ⟨_, rfl⟩
      have hX : Blk W3 gx 39 #[.int .i64 nd'.me, .slice a2 nd'.book.length k2, .slice a3 nd'.acks.length k3] := by rw [hW3, hgx]; exact Blk.new _ _ _
      have hb3 : Below w2.heap.size w2 W3 := by rw [hW3]; exact (Below.refl _ _).alloc (Nat.le_refl _) _
      have hb23 := hb2.trans (hb3.mono hb2.size)
      have hobk3 := hobk.below hb3 (Nat.le_refl _)
      have hoak3 := hoak.below hb3 (Nat.le_refl _)
      clear d0 hob hoa
      go_upto_region 7 with fail
      rw [← hW3, ← hgx]
      clear hW3 hgx hheard
      have hown3 := hown.below hb23 (Nat.le_refl _)
      have hrows3 := hrows.below hb23 (Nat.le_refl _)
      have hlet3 := hlet.below hb23 (Nat.le_refl _)
      have hnet3 := hnetr.below hb23 hnetr.lt
      have hres3 := hresr.below hb23 hresr.lt
      have hbel3 := hbel.trans (hb23.mono hbase)
      obtain ⟨gd', cap', he', -, cur, hblk⟩ := hown3.ptr (by rw [hearTo_len]; omega)
      cases he'
      have hput := hown3.put i hin2 nd' _ _ hobk3 hoak3
      rw [HSET.out] at hput
      have hk := keeps_set3 (g := gd) (o := i * 3) W3 (.int .i64 nd'.me) (.slice a2 nd'.book.length k2) (.slice a3 nd'.acks.length k3)
      have hrows4 := hrows3.off hblk hk (by decide) (by decide)
      have hlet4 := hlet3.off hblk hk (by decide)
      have hnet4 := hnet3.keeps hk (Ne.symm hgn)
      have hres4 := hres3.keeps hk (Ne.symm hgr)
      have hbel4 := ((hbel3.setCell (p := ⟨gd, i * 3, none⟩) hgd (.int .i64 nd'.me)).setCell (p := ⟨gd, i * 3 + 1, none⟩) hgd (.slice a2 nd'.book.length k2)).setCell (p := ⟨gd, i * 3 + 2, none⟩) hgd (.slice a3 nd'.acks.length k3)
      have hkn4 : KeepNet w _ := (hkn.trans (KeepNet.of_below hb23)).trans (fun g t cs ht h => h.offT hblk hk (by rcases ht with rfl | rfl <;> decide))
      have hsz4 : wb.heap.size ≤ W3.heap.size := by have := hb23.size; omega
      have d0 := hnet3.cell 0
      have x0 := hX.cell 0; have x1 := hX.cell 1; have x2 := hX.cell 2
      have g0 : W3.frozen? ⟨gd, i * 3, none⟩ = false := hblk.frozen _
      have g1 : W3.frozen? ⟨gd, i * 3 + 1, none⟩ = false := hblk.frozen _
      have g2 : W3.frozen? ⟨gd, i * 3 + 2, none⟩ = false := hblk.frozen _
      have u0 := (hb23.cell (p := ⟨gd, i * 3, none⟩) hgdr).trans c0
      have u1 := (hb23.cell (p := ⟨gd, i * 3 + 1, none⟩) hgdr).trans c1
      have u2 := (hb23.cell (p := ⟨gd, i * 3 + 2, none⟩) hgdr).trans c2
      obtain ⟨W4, hW4⟩ : ∃ x, x = ((W3.setCell ⟨gd, i * 3, none⟩ (.int .i64 nd'.me)).setCell ⟨gd, i * 3 + 1, none⟩ (.slice a2 nd'.book.length k2)).setCell ⟨gd, i * 3 + 2, none⟩ (.slice a3 nd'.acks.length k3) := ⟨_, rfl⟩
      have hsz5 : wb.heap.size ≤ W4.heap.size := by rw [hW4]; simpa using hsz4
      rw [← hW4] at hput hrows4 hlet4 hnet4 hres4 hbel4 hkn4
      have HP := Lib.hid hput; clear hput
      clear c0 c1 c2 f0 f1 f2 hown3 hrows3 hlet3 hres3
      go_upto_region 8 with fail
      rw [← hW4]
      clear hW4 d0 x0 x1 x2 g0 g1 g2 u0 u1 u2
      obtain ⟨sm, hsm⟩ : ∃ x, someTo nds xs i = x := ⟨_, rfl⟩
      have HS2 : Hid (someTo nds xs (i + 1) = (sm || is)) := Lib.hid (by rw [HSOME.out, hsm])
      rw [hsm]
      clear hsm HSOME
      cases sm
      all_goals
        cases is
        all_goals
          go_wp2_with fail
          go_roundw
          case rel => exact ⟨i + 1, by omega, by go_num, by rw [HS2.out]; rfl, HP.out, hrows4, hlet4, hnet4, hres4, hbel4, hsz5, hkn4⟩
          case measure => simp [intOf]; omega
    · have ei : i = nn := by omega
      subst ei
      rw [HEND.out] at hown
      rw [HSEND.out]
      have hoff := l16Off_any base all fl (.slice (some ⟨gd, 0, none⟩) i cn) (.slice (some ⟨gf, 0, none⟩) nf cf) at0 wr hown hrows (by omega) HFW.out (by have := HNFE.out; omega) (by have := HNFE.out; omega)
      have d1 := hnetr.cell 1
      go_wp2_with fail
      refine hoff.mono ?_
      rintro e w2 ⟨v, rfl, ⟨nv2, fv2, rfl, q1, q2⟩, hb2⟩
      obtain ⟨a1, k1, rfl⟩ := q1.slice
      obtain ⟨a2, k2, rfl⟩ := q2.slice
      have hres2 := hresr.below hb2 hresr.lt
      have hbel2 := hbel.trans (hb2.mono (by omega))
      have z0 := hres2.cell 0; have z1 := hres2.cell 1
      have y0 := hres2.frozen 0; have y1 := hres2.frozen 1
      have hZ := Blk.set2 hres2 (.slice a1 all.length k1) (.slice a2 (fl.eraseIdx at0).length k2)
      have hBZ := hbel2.set2 hgrb (.slice a1 all.length k1) (.slice a2 (fl.eraseIdx at0).length k2)
      have hOZ := Only.set2 gr w2 (.slice a1 all.length k1) (.slice a2 (fl.eraseIdx at0).length k2)
      have p0 := hZ.cell 0; have p1 := hZ.cell 1
      have HQ1 := Lib.hid (OwnNds.off q1 hres2 hOZ.keeps (by decide) (by decide) (by decide) (by decide))
      have HQ2 := Lib.hid (OwnRows.off q2 hres2 hOZ.keeps (by decide) (by decide))
      have HBZ := Lib.hid hBZ
      have HKN := Lib.hid (((hkn.trans (KeepNet.of_below hb2)).set_ (p := ⟨gr, 0, none⟩) (by show w.heap.size ≤ gr; omega) (.slice a1 all.length k1)).set_ (p := ⟨gr, 1, none⟩) (by show w.heap.size ≤ gr; omega) (.slice a2 (fl.eraseIdx at0).length k2))
      clear hBZ hZ hOZ q1 q2
      go_wp2_with fail
      refine bodyPost_ret (v := .tuple #[.agg #[.slice a1 all.length k1, .slice a2 (fl.eraseIdx at0).length k2], .bool som]) (by simp [results, Tryz.results84, go_sem, p0, p1]) rfl ?_
      exact ⟨_, rfl, ⟨_, _, rfl, HQ1.out, HQ2.out⟩, HBZ.out, HKN.out⟩
end Go.Proofs.YtoniahfdjhhalaaGreat
