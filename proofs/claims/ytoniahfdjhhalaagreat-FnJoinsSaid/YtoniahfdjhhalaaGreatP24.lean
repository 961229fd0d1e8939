/- Texts of this claim, put together. -/
import Derived.Test.YtoniahfdjhhalaaGreatP1
import Derived.Test.YtoniahfdjhhalaaGreatP23

namespace Go.Proofs.YtoniahfdjhhalaaGreat
open Go.RowKit
set_option linter.unusedSimpArgs false in
set_option maxHeartbeats 8000000 in
set_option maxRecDepth 100000 in
theorem specHeard_any (B : Nat) (me : Int) (ab : Option Addr) (nb cb : Nat) (book : List Ent) (aa : Option Addr) (na ca : Nat) (acks : List (List Int)) (bo : Option Addr) (nx cx : Nat) (xs : List Int) (w : World) (hx : Ents B w ab nb cb book) (hz : ab = none → cb = 0) (ha : Rws B w aa na ca acks) (hy : Ints B w bo nx cx xs) (hzy : bo = none → cx = 0) (hB : B ≤ w.heap.size) (hny : nx ≤ 1099511627776) :
    Calls Tryz.prog 94 #[.agg #[.int .i64 me, .slice ab nb cb, .slice aa na ca], .slice bo nx cx] w (NodeBPost (heard ⟨me, book, acks⟩ xs) w) := by
  have hal := ha.hlen
  obtain ⟨wb, hwb⟩ : ∃ wb, wb = (w.alloc (.cells #[.int .i64 me, .slice ab nb cb, .slice aa na ca] 39)).alloc (.cells #[.int .i64 0, .slice none 0 0, .slice none 0 0] 39) := ⟨_, rfl⟩
  obtain ⟨g, hg⟩ : ∃ g, g = w.heap.size := ⟨_, rfl⟩
  obtain ⟨gr, hgr0⟩ : ∃ gr, gr = w.heap.size + 1 := ⟨_, rfl⟩
  have hbox : Blk wb g 39 #[.int .i64 me, .slice ab nb cb, .slice aa na ca] := by rw [hwb, hg]; exact (Blk.new _ _ _).alloc _
  have hres : Blk wb gr 39 #[.int .i64 0, .slice none 0 0, .slice none 0 0] := by
    rw [hwb, hgr0]
    have h := Blk.new (w.alloc (.cells #[.int .i64 me, .slice ab nb cb, .slice aa na ca] 39)) 39 #[.int .i64 0, .slice none 0 0, .slice none 0 0]
    simpa using h
  have hb0 : Below w.heap.size w wb := by rw [hwb]; exact ((Below.refl _ _).alloc (Nat.le_refl _) _).alloc (by simp) _
  have hgr : w.heap.size ≤ gr := by omega
  have hs0 := hb0.size
  have hsb := hbox.lt; have hsr := hres.lt
  have HBOX0 : Hid (∀ w', Below wb.heap.size wb w' → Blk w' g 39 #[.int .i64 me, .slice ab nb cb, .slice aa na ca]) := Lib.hid (fun w' h => hbox.below h hsb)
  have HRES : Hid (∀ w', Below wb.heap.size wb w' → Blk w' gr 39 #[.int .i64 0, .slice none 0 0, .slice none 0 0]) := Lib.hid (fun w' h => hres.below h hsr)
  have HA : Hid (∀ w', Below wb.heap.size wb w' → Below w.heap.size w w') := Lib.hid (fun w' h => hb0.trans (h.mono hs0))
  have hno := specNodeOk_any B me ab nb cb book aa na ca acks wb (hx.below hb0 hB (Nat.le_refl B)) (ha.below hb0 hB (Nat.le_refl B)) (by omega)
  have hcp : nodeOk me book acks = true → ∀ w', Below wb.heap.size wb w' → Calls Tryz.prog 73 #[.agg #[.int .i64 me, .slice ab nb cb, .slice aa na ca]] w' (NodePost ⟨me, book, acks⟩ w') := fun hn w' h => by
    obtain ⟨h1, h2, h3⟩ := node_book hn
    have := book_len h1
    have hlen := hx.hlen
    exact l15Copy_any B me ab nb cb book aa na ca acks w' (hx.below (HA.out w' h) hB (Nat.le_refl B)) hz (ha.below (HA.out w' h) hB (Nat.le_refl B)) (by have := (HA.out w' h).size; omega) (by omega) (by omega) (acks_small h3 h2)
  have HCP := Lib.hid hcp; clear hcp
  have HOP : Hid (∀ w', Below wb.heap.size wb w' → Calls Tryz.prog 96 #[.slice bo nx cx] w' (OpenPost (openR xs) w')) := Lib.hid (fun w' h => specOpened_any B bo nx cx xs w' (hy.below (HA.out w' h) hB (Nat.le_refl B)) (by have := (HA.out w' h).size; omega) hzy hny)
  have hbw := hx.wf
  have haw : AllR acks := fun r hr => by
    obtain ⟨i, hi, rfl⟩ := List.mem_iff_getElem.1 hr
    obtain ⟨b, off, a, m, c, _, _, _, hi2, _⟩ := ha.cell i (by omega)
    have := hi2.wf
    rwa [RW_get hi] at this
  have hnb : nodeOk me book acks = true → bookOk book = true ∧ acks.length = 4 ∧ ∀ j, j < 4 → vecOk (RW acks j) = true := node_book
  have hok : ∀ l, openR xs = some l → letterOk l.f l.t l.v l.p = true := fun l h => openR_ok h
  have e1 : nodeOk me book acks = false → heard ⟨me, book, acks⟩ xs = (zeroNd, false) := fun h => by rw [heard, if_neg (by simp [h])]
  have e2 : nodeOk me book acks = true → heard ⟨me, book, acks⟩ xs = (match openR xs with | none => (⟨me, book, acks⟩, false) | some l => hearL ⟨me, book, acks⟩ l) := fun h => by rw [heard, if_pos h]; rfl
  obtain ⟨r, hr⟩ : ∃ r, heard ⟨me, book, acks⟩ xs = r := ⟨_, rfl⟩
  rw [hr] at e1 e2 ⊢
  clear hr
  generalize openR xs = o at HOP hok e2
  generalize nodeOk me book acks = b1 at hno e1 e2 HCP hnb
  have E1 := Lib.hid e1; have E2 := Lib.hid e2; have HNB := Lib.hid hnb; have HOK := Lib.hid hok; have HAW := Lib.hid haw; have HBW := Lib.hid hbw; have HAL := Lib.hid hal; clear e1 e2 hnb hok haw hbw hal
  have d0 := hbox.cell 0; have d1 := hbox.cell 1; have d2 := hbox.cell 2
  go_enter Tryz.func94, Tryz.ntmps94
  go_upto_region 1 with fail
  rw [← hwb, ← hgr0, ← hg]
  clear hwb hg hgr0
  go_wp2_with fail
  refine hno.mono ?_
  rintro e w1 ⟨rfl, hb1⟩
  have hB1 := HA.out w1 hb1
  have hres1 := HRES.out w1 hb1
  have hbox1 := HBOX0.out w1 hb1
  clear d0 d1 d2
  rcases b1 with _ | _
  · have hr := E1.out (by first | rfl | trivial)
    subst hr
    clear E1 E2
    have z0 := hres1.cell 0; have z1 := hres1.cell 1; have z2 := hres1.cell 2
    have y0 := hres1.frozen 0; have y1 := hres1.frozen 1; have y2 := hres1.frozen 2
    have hZ := Blk.set3 hres1 (.int .i64 0) (.slice none 0 0) (.slice none 0 0)
    have hBZ := hB1.set3 hgr (.int .i64 0) (.slice none 0 0) (.slice none 0 0)
    have p0 := hZ.cell 0; have p1 := hZ.cell 1; have p2 := hZ.cell 2
    have HBZ := Lib.hid hBZ; clear hBZ hZ
    go_wp2_with fail
    refine bodyPost_ret (v := .tuple #[.agg #[.int .i64 0, .slice none 0 0, .slice none 0 0], .bool false]) (by simp [results, Tryz.results94, go_sem, p0, p1, p2]) rfl ?_
    exact nodeB_zero HBZ.out
  · have d0 := hbox1.cell 0; have d1 := hbox1.cell 1; have d2 := hbox1.cell 2
    have hr := E2.out (by first | rfl | trivial)
    have HC := Lib.hid (HCP.out (by first | rfl | trivial))
    have hnb := HNB.out (by first | rfl | trivial)
    clear E1 E2 HCP HNB hno
    have HR := Lib.hid hr; clear hr
    have hac4 := hnb.2.1
    have HBK := Lib.hid hnb; clear hnb
    have hws : w.heap.size ≤ w1.heap.size := hB1.size
    go_wp2_with fail
    refine (HC.out _ hb1).mono ?_
    rintro e w3 ⟨bv, av3, rfl, hob, hoa, hb3⟩
    have hbb3 := hb1.trans (hb3.mono hb1.size)
    have hobk : OwnE w1.heap.size w3 bv book := hob
    have hoa : OwnRows w1.heap.size w3 av3 acks := hoa
    obtain ⟨a2, c2, rfl, -⟩ := hobk.ents HBW.out
    obtain ⟨gA, c3, rfl, hgA1, curA, hkA⟩ := hoa.ptr (by omega)
    rw [hac4] at hoa ⊢
    have hkAl := hkA.lt
    obtain ⟨W4, hW4⟩ : ∃ x, x = w3.alloc (.cells #[.int .i64 me, .slice a2 book.length c2, .slice (some ⟨gA, 0, none⟩) 4 c3] 39) := ⟨_, rfl⟩
    obtain ⟨go, hgo⟩ : ∃ x, x = w3.heap.size := ⟨_, rfl⟩
    have hout : Blk W4 go 39 #[.int .i64 me, .slice a2 book.length c2, .slice (some ⟨gA, 0, none⟩) 4 c3] := by rw [hW4, hgo]; exact Blk.new _ _ _
    have hb4 : Below w3.heap.size w3 W4 := by rw [hW4]; exact (Below.refl _ _).alloc (Nat.le_refl _) _
    have hgw : wb.heap.size ≤ go := by have := hbb3.size; omega
    have hgoA : go ≠ gA := by omega
    have hgA : wb.heap.size ≤ gA := by have := hb1.size; omega
    have HAC := Lib.hid hac4; clear hac4 d0 d1 d2
    go_upto_region 4 with fail
    rw [← hW4, ← hgo]
    clear hW4 hgo
    have hbb4 := hbb3.trans (hb4.mono hbb3.size)
    have hob4 := hobk.below hb4 (Nat.le_refl _)
    have hoa4 := hoa.below hb4 (Nat.le_refl _)
    go_wp2_with fail
    refine (HOP.out _ hbb4).mono ?_
    intro e w5 hop
    rcases o with _ | ⟨lf, lt0, lv, lp⟩
    · obtain ⟨rfl, hb5⟩ := hop
      obtain ⟨W6, hW6⟩ : ∃ x, x = w5.alloc (.cells #[.int .i64 0, .int .i64 0, .slice none 0 0, .slice none 0 0] 96) := ⟨_, rfl⟩
      have hb6 : Below w5.heap.size w5 W6 := by rw [hW6]; exact (Below.refl _ _).alloc (Nat.le_refl _) _
      have hbb6 := (hbb4.trans (hb5.mono hbb4.size)).trans (hb6.mono (hbb4.trans (hb5.mono hbb4.size)).size)
      have hout6 := (hout.below hb5 hout.lt).below hb6 (hout.below hb5 hout.lt).lt
      have hob6 := (hob4.below hb5 (Nat.le_refl _)).below hb6 (Nat.le_refl _)
      have hoa6 := (hoa4.below hb5 (Nat.le_refl _)).below hb6 (Nat.le_refl _)
      have hres6 := HRES.out W6 hbb6
      have hB6 := HA.out W6 hbb6
      have hr : r = (⟨me, book, acks⟩, false) := HR.out
      subst hr
      clear HR
      go_upto_region 5 with fail
      rw [← hW6]
      clear hW6
      have o0 := hout6.cell 0; have o1 := hout6.cell 1; have o2 := hout6.cell 2
      have z0 := hres6.cell 0; have z1 := hres6.cell 1; have z2 := hres6.cell 2
      have y0 := hres6.frozen 0; have y1 := hres6.frozen 1; have y2 := hres6.frozen 2
      have hZ := Blk.set3 hres6 (.int .i64 me) (.slice a2 book.length c2) (.slice (some ⟨gA, 0, none⟩) 4 c3)
      have hBZ := hB6.set3 hgr (.int .i64 me) (.slice a2 book.length c2) (.slice (some ⟨gA, 0, none⟩) 4 c3)
      have hOZ := Only.set3 gr W6 (.int .i64 me) (.slice a2 book.length c2) (.slice (some ⟨gA, 0, none⟩) 4 c3)
      have p0 := hZ.cell 0; have p1 := hZ.cell 1; have p2 := hZ.cell 2
      have ho2 := (OwnE.off hob6 hres6 hOZ.keeps (by decide)).mono hws
      have ho3 := (OwnRows.off hoa6 hres6 hOZ.keeps (by decide) (by decide)).mono hws
      have HO2 := Lib.hid ho2; have HO3 := Lib.hid ho3; clear ho2 ho3
      have HBZ := Lib.hid hBZ; clear hBZ hZ hOZ
      go_wp2_with fail
      refine bodyPost_ret (v := .tuple #[.agg #[.int .i64 me, .slice a2 book.length c2, .slice (some ⟨gA, 0, none⟩) 4 c3], .bool false]) (by simp [results, Tryz.results94, go_sem, p0, p1, p2]) rfl ?_
      exact ⟨_, _, rfl, HO2.out, HO3.out, HBZ.out⟩
    · obtain ⟨vv, pv, rfl, hov, hop5, hb5⟩ := hop
      have hlo := HOK.out _ rfl
      obtain ⟨hlf, hlt, hlne, hlv, hlp, -⟩ := letter_parts hlo
      simp only at hlf hlt hlne hlv hlp hov hop5
      have hlvw : AllI64 lv := fun x hx => by have := vec_mem hlv x hx; unfold I64; omega
      have hovk := hov
      obtain ⟨av, cv, rfl, hvi⟩ := hov.ints hlvw
      obtain ⟨ap, cp, rfl, hpi, -⟩ := hop5.ents (book_wf hlp)
      obtain ⟨f, rfl⟩ : ∃ f : Nat, lf = f := ⟨lf.toNat, by omega⟩
      have hf4 : f < 4 := by omega
      obtain ⟨W6, hW6⟩ : ∃ x, x = w5.alloc (.cells #[.int .i64 f, .int .i64 lt0, .slice av lv.length cv, .slice ap lp.length cp] 96) := ⟨_, rfl⟩
      obtain ⟨gl, hgl⟩ : ∃ x, x = w5.heap.size := ⟨_, rfl⟩
      have hlet : Blk W6 gl 96 #[.int .i64 f, .int .i64 lt0, .slice av lv.length cv, .slice ap lp.length cp] := by rw [hW6, hgl]; exact Blk.new _ _ _
      have hb6 : Below w5.heap.size w5 W6 := by rw [hW6]; exact (Below.refl _ _).alloc (Nat.le_refl _) _
      have hs45 := hb5.size
      have hs34 := hb4.size
      have hs56 := hb6.size
      have hglA : gl ≠ gA := by omega
      have hbb5 := hbb4.trans (hb5.mono hbb4.size)
      have hbb6 := hbb5.trans (hb6.mono hbb5.size)
      have hout6 := (hout.below hb5 hout.lt).below hb6 (hout.below hb5 hout.lt).lt
      have hob6 := (hob4.below hb5 (Nat.le_refl _)).below hb6 (Nat.le_refl _)
      have hoa6 := (hoa4.below hb5 (Nat.le_refl _)).below hb6 (Nat.le_refl _)
      have hvi6 := hvi.below hb6 (Nat.le_refl _) hs56
      have hpi6 := hpi.below hb6 (Nat.le_refl _) hs56
      have hr : r = hearL ⟨me, book, acks⟩ ⟨f, lt0, lv, lp⟩ := HR.out
      have HR2 := Lib.hid hr; clear hr HR HOK hlo
      have hres6 := HRES.out W6 hbb6
      have hB6 := HA.out W6 hbb6
      have hbox6 := HBOX0.out W6 hbb6
      go_upto_region 5 with fail
      rw [← hW6, ← hgl]
      clear hW6 hgl
      have l0 := hlet.cell 0; have l1 := hlet.cell 1; have l2 := hlet.cell 2; have l3 := hlet.cell 3
      have d0 := hbox6.cell 0; have d1 := hbox6.cell 1; have d2 := hbox6.cell 2
      by_cases htm : lt0 = me
      · have htm' : (lt0 != me) = false := by simpa using htm
        have hr : r = (match joinR book lp with | none => (⟨me, book, acks⟩, false) | some j => if soundE j = true then (⟨me, j, acks.set f (later (RW acks f) lv)⟩, true) else (⟨me, book, acks⟩, false)) := by
          rw [HR2.out, hearL, if_neg (fun h => h htm)]
          try simp only [Int.toNat_natCast]
          try rfl
        have HR3 := Lib.hid hr; clear hr HR2 htm
        have hjn := specJoined_any W6.heap.size ab nb cb book ap lp.length cp lp W6 ((hx.below (HA.out W6 hbb6) hB (Nat.le_refl B)).below (Below.refl B W6) (Nat.le_refl _) (by have := hB6.size; omega)) hpi6 (Nat.le_refl _)
        have hjw := (joinR_getD (a := book) (b := lp)).1
        generalize joinR book lp = jo at hjn hjw HR3
        go_wp2_with fail
        refine hjn.mono ?_
        rintro e w7 ⟨jv, rfl, hoj, hb7⟩
        have hojk := hoj
        obtain ⟨aj, cj, rfl, hji, -⟩ := hoj.ents hjw
        have hbb7 := hbb6.trans (hb7.mono hbb6.size)
        have hout7 := hout6.below hb7 hout6.lt
        have hob7 := hob6.below hb7 (Nat.le_refl _)
        have hoa7 := hoa6.below hb7 (Nat.le_refl _)
        have hres7 := HRES.out w7 hbb7
        have hB7 := HA.out w7 hbb7
        clear l0 l1 l2 l3 d0 d1 d2 hjn
        rcases jo with _ | js
        · have hr : r = (⟨me, book, acks⟩, false) := HR3.out
          subst hr
          clear HR3
          have o0 := hout7.cell 0; have o1 := hout7.cell 1; have o2 := hout7.cell 2
          have z0 := hres7.cell 0; have z1 := hres7.cell 1; have z2 := hres7.cell 2
          have y0 := hres7.frozen 0; have y1 := hres7.frozen 1; have y2 := hres7.frozen 2
          have hZ := Blk.set3 hres7 (.int .i64 me) (.slice a2 book.length c2) (.slice (some ⟨gA, 0, none⟩) 4 c3)
          have hBZ := hB7.set3 hgr (.int .i64 me) (.slice a2 book.length c2) (.slice (some ⟨gA, 0, none⟩) 4 c3)
          have hOZ := Only.set3 gr w7 (.int .i64 me) (.slice a2 book.length c2) (.slice (some ⟨gA, 0, none⟩) 4 c3)
          have p0 := hZ.cell 0; have p1 := hZ.cell 1; have p2 := hZ.cell 2
          have ho2 := (OwnE.off hob7 hres7 hOZ.keeps (by decide)).mono hws
          have ho3 := (OwnRows.off hoa7 hres7 hOZ.keeps (by decide) (by decide)).mono hws
          have HO2 := Lib.hid ho2; have HO3 := Lib.hid ho3; clear ho2 ho3
          have HBZ := Lib.hid hBZ; clear hBZ hZ hOZ
          go_wp2_with fail
          refine bodyPost_ret (v := .tuple #[.agg #[.int .i64 me, .slice a2 book.length c2, .slice (some ⟨gA, 0, none⟩) 4 c3], .bool false]) (by simp [results, Tryz.results94, go_sem, p0, p1, p2]) rfl ?_
          exact ⟨_, _, rfl, HO2.out, HO3.out, HBZ.out⟩
        · have hji' : Ents w7.heap.size w7 aj js.length cj js := hji
          have hojk' : OwnE W6.heap.size w7 (.slice aj js.length cj) js := hojk
          have hjs : ((some js : Option (List Ent)).getD []) = js := rfl
          have hjq : (some js : Option (List Ent)).isSome = true := rfl
          rw [hjs, hjq]
          have hsn := specSound_any w7.heap.size aj js.length cj js w7 hji' (Nat.le_refl _)
          have hr : r = if soundE js = true then (⟨me, js, acks.set f (later (RW acks f) lv)⟩, true) else (⟨me, book, acks⟩, false) := HR3.out
          generalize soundE js = sb at hsn hr
          have HR4 := Lib.hid hr; clear hr HR3 hjs hjq hji hojk
          go_wp2_with fail
          refine hsn.mono ?_
          rintro e w8 ⟨rfl, hb8⟩
          have hbb8 := hbb7.trans (hb8.mono hbb7.size)
          have hout8 := hout7.below hb8 hout7.lt
          have hob8 := hob7.below hb8 (Nat.le_refl _)
          have hoa8 := hoa7.below hb8 (Nat.le_refl _)
          have hoj8 := hojk'.below hb8 (Nat.le_refl _)
          have hres8 := HRES.out w8 hbb8
          have hB8 := HA.out w8 hbb8
          have hlet8 := (hlet.below hb7 hlet.lt).below hb8 (hlet.below hb7 hlet.lt).lt
          have hvi8 := (hvi6.below hb7 (Nat.le_refl _) (Nat.le_refl _)).below hb8 (by have := hb7.size; omega) (Nat.le_refl _)
          clear hsn
          rcases sb with _ | _
          · have hr : r = (⟨me, book, acks⟩, false) := by rw [HR4.out, if_neg (by simp)]
            subst hr
            clear HR4
            have o0 := hout8.cell 0; have o1 := hout8.cell 1; have o2 := hout8.cell 2
            have z0 := hres8.cell 0; have z1 := hres8.cell 1; have z2 := hres8.cell 2
            have y0 := hres8.frozen 0; have y1 := hres8.frozen 1; have y2 := hres8.frozen 2
            have hZ := Blk.set3 hres8 (.int .i64 me) (.slice a2 book.length c2) (.slice (some ⟨gA, 0, none⟩) 4 c3)
            have hBZ := hB8.set3 hgr (.int .i64 me) (.slice a2 book.length c2) (.slice (some ⟨gA, 0, none⟩) 4 c3)
            have hOZ := Only.set3 gr w8 (.int .i64 me) (.slice a2 book.length c2) (.slice (some ⟨gA, 0, none⟩) 4 c3)
            have p0 := hZ.cell 0; have p1 := hZ.cell 1; have p2 := hZ.cell 2
            have ho2 := (OwnE.off hob8 hres8 hOZ.keeps (by decide)).mono hws
            have ho3 := (OwnRows.off hoa8 hres8 hOZ.keeps (by decide) (by decide)).mono hws
            have HO2 := Lib.hid ho2; have HO3 := Lib.hid ho3; clear ho2 ho3
            have HBZ := Lib.hid hBZ; clear hBZ hZ hOZ
            go_wp2_with fail
            refine bodyPost_ret (v := .tuple #[.agg #[.int .i64 me, .slice a2 book.length c2, .slice (some ⟨gA, 0, none⟩) 4 c3], .bool false]) (by simp [results, Tryz.results94, go_sem, p0, p1, p2]) rfl ?_
            exact ⟨_, _, rfl, HO2.out, HO3.out, HBZ.out⟩
          · have hr : r = (⟨me, js, acks.set f (later (RW acks f) lv)⟩, true) := by rw [HR4.out, if_pos (by simp)]
            subst hr
            clear HR4
            obtain ⟨hbo, -, hvall⟩ := HBK.out
            have hf4' : f < acks.length := by rw [HAC.out]; exact hf4
            obtain rfl : na = 4 := by have := HAL.out; have := HAC.out; omega
            obtain ⟨ba, oa, rfl, hbaB, hrc⟩ := ha.at f hf4
            obtain ⟨ar, mr, cr, hcell, hri, -⟩ := hrc f hf4
            have hm4 : mr = 4 := by have h1 := hri.hlen; have h2 := vec_len (hvall f hf4); omega
            subst hm4
            have HROW : Hid (∀ w', Below wb.heap.size wb w' → w'.cell? ⟨ba, oa + f, none⟩ = some (.slice ar 4 cr)) := Lib.hid (fun w' h => ((HA.out w' h).cell (p := ⟨ba, oa + f, none⟩) (by show ba < w.heap.size; omega)).trans hcell)
            have HBOX : Hid (∀ w', Below wb.heap.size wb w' → Blk w' g 39 #[.int .i64 me, .slice ab nb cb, .slice (some ⟨ba, oa, none⟩) 4 ca]) := HBOX0
            have hltw : AllI64 (later (RW acks f) lv) := later_i64' hri.wf hlvw
            have HLAT : Hid (∀ w' C, Below wb.heap.size wb w' → Ints C w' av lv.length cv lv → C ≤ w'.heap.size → Calls Tryz.prog 97 #[.slice ar 4 cr, .slice av lv.length cv] w' (NewInts (later (RW acks f) lv) w')) := Lib.hid (fun w' C h hvw hsz => specLater_any B C ar av 4 cr lv.length cv (RW acks f) lv w' (hri.below (HA.out w' h) hB (Nat.le_refl B)) hvw (by have := (HA.out w' h).size; omega) hsz)
            obtain ⟨lt, hlt'⟩ : ∃ x, later (RW acks f) lv = x := ⟨_, rfl⟩
            rw [hlt'] at HLAT hltw
            have HLT := Lib.hid hlt'; clear hlt' hrc hcell hri hvall
            have o0 := hout8.cell 0; have o1 := hout8.cell 1; have o2 := hout8.cell 2
            have u1 := hout8.frozen 1
            obtain ⟨wA, hWA⟩ : ∃ x, x = w8.setCell ⟨go, 1, none⟩ (.slice aj js.length cj) := ⟨_, rfl⟩
            have hoA : Blk wA go 39 #[.int .i64 me, .slice aj js.length cj, .slice (some ⟨gA, 0, none⟩) 4 c3] := by
              have h := hout8.set_ 1 (.slice aj js.length cj)
              rw [hWA]
              simpa using h
            have hbbA : Below wb.heap.size wb wA := by rw [hWA]; exact hbb8.setCell (p := ⟨go, 1, none⟩) hgw _
            have hOA0 : Only go w8 wA := by rw [hWA]; exact (Only.refl go w8).setCell 1 _
            have hlA := hlet8.keeps hOA0.keeps (by
              intro e
              have h1 := hlet8
              rw [e] at h1
              have h2 : w8.heap[go]? = _ := hout8
              have h3 : w8.heap[go]? = _ := h1
              rw [h2] at h3
              cases h3)
            have hoaA := OwnRows.off hoa8 hout8 hOA0.keeps (by decide) (by decide)
            have hobA := OwnE.off hoj8 hout8 hOA0.keeps (by decide)
            have hgo4 : go < W4.heap.size := hout.lt
            have hovA := (((hovk.below hb6 (Nat.le_refl _)).below hb7 (Nat.le_refl _)).below hb8 (Nat.le_refl _)).keeps hOA0.keeps hgo4
            obtain ⟨av', cv', e', hviA⟩ := hovA.ints hlvw
            simp only [Value.slice.injEq] at e'
            obtain ⟨rfl, -, rfl⟩ := e'
            have hvA : Ints wA.heap.size wA.drew av lv.length cv lv := hviA.below (Below.refl wA.heap.size wA).drew (Nat.le_refl _) (Nat.le_refl _)
            have hsA : wA.heap.size ≤ wA.drew.heap.size := Nat.le_refl _
            have hs1A : w1.heap.size ≤ wA.drew.heap.size := by
              have h3 := hb3.size; have h7 := hb7.size; have h8 := hb8.size; have hO := hOA0.size
              show w1.heap.size ≤ wA.heap.size
              omega
            go_upto_region 11 with fail
            rw [← hWA]
            clear hWA o0 o1 o2 u1
            have i0 : (0 : Int) ≤ f := by omega
            have i1 : (f : Int) < 4 := by omega
            refine wp_region_held_drew (S := (fun w' => w'.cell? ⟨go, 2, none⟩ = some (.slice (some ⟨gA, 0, none⟩) 4 c3) ∧ w'.cell? ⟨gl, 0, none⟩ = some (.int .i64 f) ∧ w'.cell? ⟨gl, 2, none⟩ = some (.slice av lv.length cv) ∧ w'.cell? ⟨g, 2, none⟩ = some (.slice (some ⟨ba, oa, none⟩) 4 ca) ∧ w'.cell? ⟨ba, oa + f, none⟩ = some (.slice ar 4 cr))) (by kernel_rfl) ⟨(hoA).cell 2, (hlA).cell 0, (hlA).cell 2, (HBOX.out _ hbbA.drew).cell 2, HROW.out _ hbbA.drew⟩ (fun hHeld => ?_)
            refine tk (i := 0) (v := ?va0) rfl (by kernel_rfl) (fun _ _ _ h => h) (Or.inl ⟨by rfl, ?hya0⟩) (by assumption) ?ra0
            case hya0 => (intro w hSw; (try dsimp only at hSw); go_simp; try with_reducible rfl)
            try simp only [Act.put, qGa, qGb, qGc, qSa, qSb, qSc]
            refine tk (i := 1) (v := ?va1) rfl (by kernel_rfl) (fun _ _ _ h => h) (Or.inl ⟨by rfl, ?hya1⟩) (by assumption) ?ra1
            case hya1 => (intro w hSw; (try dsimp only at hSw); go_simp; try with_reducible rfl)
            try simp only [Act.put, qGa, qGb, qGc, qSa, qSb, qSc]
            refine tk (i := 2) (v := ?va2) rfl (by kernel_rfl) (fun _ _ _ h => h) (Or.inl ⟨by rfl, ?hya2⟩) (by assumption) ?ra2
            case hya2 => (intro w hSw; (try dsimp only at hSw); go_simp; try with_reducible rfl)
            try simp only [Act.put, qGa, qGb, qGc, qSa, qSb, qSc]
            refine tk (i := 3) (v := ?va3) rfl (by kernel_rfl) (fun _ _ _ h => h) (Or.inl ⟨by rfl, ?hya3⟩) (by assumption) ?ra3
            case hya3 => (intro w hSw; (try dsimp only at hSw); go_simp; try with_reducible rfl)
            try simp only [Act.put, qGa, qGb, qGc, qSa, qSb, qSc]
            refine tk (i := 4) (v := ?va4) rfl (by kernel_rfl) (fun _ _ _ h => h) (Or.inl ⟨by rfl, ?hya4⟩) (by assumption) ?ra4
            case hya4 => (intro w hSw; (try dsimp only at hSw); go_simp; try with_reducible rfl)
            try simp only [Act.put, qGa, qGb, qGc, qSa, qSb, qSc]
            refine tk (i := 5) (v := ?va5) rfl (by kernel_rfl) (fun _ _ _ h => h) (Or.inl ⟨by rfl, ?hya5⟩) (by assumption) ?ra5
            case hya5 => (intro w hSw; (try dsimp only at hSw); go_simp; try with_reducible rfl)
            try simp only [Act.put, qGa, qGb, qGc, qSa, qSb, qSc]
            refine tk (i := 6) (v := ?va6) rfl (by kernel_rfl) (fun _ _ _ h => h) (Or.inl ⟨by rfl, ?hya6⟩) (by assumption) ?ra6
            case hya6 => (intro w hSw; (try dsimp only at hSw); go_simp; try with_reducible rfl)
            try simp only [Act.put, qGa, qGb, qGc, qSa, qSb, qSc]
            refine tk (i := 7) (v := ?va7) rfl (by kernel_rfl) (fun _ _ _ h => h) (Or.inl ⟨by rfl, ?hya7⟩) (by assumption) ?ra7
            case hya7 => (intro w hSw; (try dsimp only at hSw); go_simp; try with_reducible rfl)
            try simp only [Act.put, qGa, qGb, qGc, qSa, qSb, qSc]
            refine tk (i := 8) (v := ?va8) rfl (by kernel_rfl) (fun _ _ _ h => h) (Or.inl ⟨by rfl, ?hya8⟩) (by assumption) ?ra8
            case hya8 => (intro w hSw; (try dsimp only at hSw); go_simp; try with_reducible rfl)
            try simp only [Act.put, qGa, qGb, qGc, qSa, qSb, qSc]
            refine tk (i := 9) (v := ?va9) rfl (by kernel_rfl) (fun _ _ _ h => h) (Or.inl ⟨by rfl, ?hya9⟩) (by assumption) ?ra9
            case hya9 => (intro w hSw; (try dsimp only at hSw); go_simp; try with_reducible rfl)
            try simp only [Act.put, qGa, qGb, qGc, qSa, qSb, qSc]
            refine tk (i := 10) (v := ?va10) rfl (by kernel_rfl) (fun _ _ _ h => h) (Or.inl ⟨by rfl, ?hya10⟩) (by assumption) ?ra10
            case hya10 => (intro w hSw; (try dsimp only at hSw); go_simp; try with_reducible rfl)
            try simp only [Act.put, qGa, qGb, qGc, qSa, qSb, qSc]
            refine tk (i := 11) (v := ?va11) rfl (by kernel_rfl) (fun _ _ _ h => h) (Or.inl ⟨by rfl, ?hya11⟩) (by assumption) ?ra11
            case hya11 => (intro w hSw; (try dsimp only at hSw); go_simp; try with_reducible rfl)
            try simp only [Act.put, qGa, qGb, qGc, qSa, qSb, qSc]
            refine wpAnyH_ready (rs := [12]) (by kernel_rfl) (by simp) ?_
            refine AllReadyH.cons rfl (fun Kb hKb => ?_) AllReadyH.nil
            go_simp
            refine (HLAT.out _ _ hbbA.drew hvA hsA).mono ?_
            rintro e wB ⟨nv, rfl, hnv, hbB⟩
            have hnvk := hnv
            obtain ⟨a9, c9, rfl, -⟩ := hnv.ints hltw
            have hbB0 := (Below.refl wA.heap.size wA).drew.trans hbB
            have hbbB := hbbA.trans (hbB0.mono hbbA.size)
            have hoB := hoA.below hbB0 hoA.lt
            have hlB := hlA.below hbB0 hlA.lt
            have hobB := hobA.below hbB0 (Nat.le_refl _)
            have hoaB := hoaA.below hbB0 (Nat.le_refl _)
            go_wp2_with fail
            refine hKb.out _ _ ⟨(hoB).cell 2, (hlB).cell 0, (hlB).cell 2, (HBOX.out _ hbbB).cell 2, HROW.out _ hbbB⟩ (fun hHeld => ?_)
            clear hKb Kb
            try simp only [Act.put, qGa, qGb, qGc, qSa, qSb, qSc]
            refine tk (i := 13) (v := ?vc13) rfl (by kernel_rfl) (fun _ _ _ h => h) (Or.inl ⟨by rfl, ?hyc13⟩) (by assumption) ?rc13
            case hyc13 => (intro w hSw; (try dsimp only at hSw); go_simp; try with_reducible rfl)
            try simp only [Act.put, qGa, qGb, qGc, qSa, qSb, qSc]
            obtain ⟨⟨cv0, zc⟩, zf⟩ := hoaB.spot f hf4'
            have hoaZ := hoaB.stored f hf4' (hnvk.mono hs1A)
            have hbbZ := hbbB.setCell (p := ⟨gA, f, none⟩) hgA (.slice a9 lt.length c9)
            have hOA := (Only.refl gA wB).setCell f (.slice a9 lt.length c9)
            have hoZ := hoB.keeps hOA.keeps hgoA
            have hlZ := hlB.keeps hOA.keeps hglA
            have hobZ := hobB.offR hoaB hOA.keeps
            refine wpAnyH_ready (rs := [14]) (by kernel_rfl) (by simp) ?_
            refine AllReadyH.cons rfl (fun Kd hKd => ?_) AllReadyH.nil
            go_simp
            refine hKd.out _ _ ⟨(hoZ).cell 2, (hlZ).cell 0, (hlZ).cell 2, (HBOX.out _ hbbZ).cell 2, HROW.out _ hbbZ⟩ (fun hHeld => ?_)
            clear hKd Kd
            try simp only [Act.put, qGa, qGb, qGc, qSa, qSb, qSc]
            refine wpAnyH_done (by kernel_rfl) ?_ _
            obtain ⟨WZ, hWZ⟩ : ∃ x, x = wB.setCell ⟨gA, f, none⟩ (.slice a9 lt.length c9) := ⟨_, rfl⟩
            rw [← hWZ] at hoaZ hbbZ hoZ hobZ ⊢
            clear hWZ hOA hlZ
            rw [← HLT.out] at hoaZ
            have hresZ := HRES.out WZ hbbZ
            have hBZ0 := HA.out WZ hbbZ
            have o0 := hoZ.cell 0; have o1 := hoZ.cell 1; have o2 := hoZ.cell 2
            have z0 := hresZ.cell 0; have z1 := hresZ.cell 1; have z2 := hresZ.cell 2
            have y0 := hresZ.frozen 0; have y1 := hresZ.frozen 1; have y2 := hresZ.frozen 2
            have hZ := Blk.set3 hresZ (.int .i64 me) (.slice aj js.length cj) (.slice (some ⟨gA, 0, none⟩) 4 c3)
            have hBZ := hBZ0.set3 hgr (.int .i64 me) (.slice aj js.length cj) (.slice (some ⟨gA, 0, none⟩) 4 c3)
            have hOZ := Only.set3 gr WZ (.int .i64 me) (.slice aj js.length cj) (.slice (some ⟨gA, 0, none⟩) 4 c3)
            have p0 := hZ.cell 0; have p1 := hZ.cell 1; have p2 := hZ.cell 2
            have ho2 := (OwnE.off hobZ hresZ hOZ.keeps (by decide)).mono hB6.size
            have ho3 := (OwnRows.off hoaZ hresZ hOZ.keeps (by decide) (by decide)).mono hws
            have HO2 := Lib.hid ho2; have HO3 := Lib.hid ho3; clear ho2 ho3
            have HBZ := Lib.hid hBZ; clear hBZ hZ hOZ
            go_wp2_with fail
            refine bodyPost_ret (v := .tuple #[.agg #[.int .i64 me, .slice aj js.length cj, .slice (some ⟨gA, 0, none⟩) 4 c3], .bool true]) (by simp [results, Tryz.results94, go_sem, p0, p1, p2]) rfl ?_
            exact ⟨_, _, rfl, HO2.out, HO3.out, HBZ.out⟩
      · have htm' : (lt0 != me) = true := by simpa using htm
        have hr : r = (⟨me, book, acks⟩, false) := by rw [HR2.out, hearL, if_pos htm]
        subst hr
        clear HR2 htm
        have o0 := hout6.cell 0; have o1 := hout6.cell 1; have o2 := hout6.cell 2
        have z0 := hres6.cell 0; have z1 := hres6.cell 1; have z2 := hres6.cell 2
        have y0 := hres6.frozen 0; have y1 := hres6.frozen 1; have y2 := hres6.frozen 2
        have hZ := Blk.set3 hres6 (.int .i64 me) (.slice a2 book.length c2) (.slice (some ⟨gA, 0, none⟩) 4 c3)
        have hBZ := hB6.set3 hgr (.int .i64 me) (.slice a2 book.length c2) (.slice (some ⟨gA, 0, none⟩) 4 c3)
        have hOZ := Only.set3 gr W6 (.int .i64 me) (.slice a2 book.length c2) (.slice (some ⟨gA, 0, none⟩) 4 c3)
        have p0 := hZ.cell 0; have p1 := hZ.cell 1; have p2 := hZ.cell 2
        have ho2 := (OwnE.off hob6 hres6 hOZ.keeps (by decide)).mono hws
        have ho3 := (OwnRows.off hoa6 hres6 hOZ.keeps (by decide) (by decide)).mono hws
        have HO2 := Lib.hid ho2; have HO3 := Lib.hid ho3; clear ho2 ho3
        have HBZ := Lib.hid hBZ; clear hBZ hZ hOZ
        go_wp2_with fail
        refine bodyPost_ret (v := .tuple #[.agg #[.int .i64 me, .slice a2 book.length c2, .slice (some ⟨gA, 0, none⟩) 4 c3], .bool false]) (by simp [results, Tryz.results94, go_sem, p0, p1, p2]) rfl ?_
        exact ⟨_, _, rfl, HO2.out, HO3.out, HBZ.out⟩
end Go.Proofs.YtoniahfdjhhalaaGreat
