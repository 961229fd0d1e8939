/- Texts of this claim, put together. -/
import Derived.Test.YtoniahfdjhhalaaGreatP1
import Derived.Test.YtoniahfdjhhalaaGreatP10
import Derived.Test.YtoniahfdjhhalaaGreatP16
import Derived.Test.YtoniahfdjhhalaaGreatP20
import Derived.Test.YtoniahfdjhhalaaGreatP21

namespace Go.Proofs.YtoniahfdjhhalaaGreat
open Go.RowKit
def NodeNPost (r : Nd × Int) (w : World) (e : Ending) (w' : World) : Prop := ∃ bv av, e = .returned (.tuple #[.agg #[.int .i64 r.1.me, bv, av], .int .i64 r.2]) ∧ OwnE w.heap.size w' bv r.1.book ∧ OwnRows w.heap.size w' av r.1.acks ∧ Below w.heap.size w w'
theorem nodeN_zero {w w' : World} (hb : Below w.heap.size w w') : NodeNPost (zeroNd, 3) w (.returned (.tuple #[.agg #[.int .i64 0, .slice none 0 0, .slice none 0 0], .int .i64 3])) w' :=
  ⟨_, _, rfl, ownE_nil _ _, ownRows_nil _ _, hb⟩
def doneAt (nd : Nd) (k nn t m : Int) : Nd × Int := if nodeOk nd.me nd.book nd.acks = true ∧ deedOk k nn t m = true ∧ nn = nd.me then (⟨nd.me, (doneR nd.book k nn t m).1, nd.acks⟩, (doneR nd.book k nn t m).2) else (zeroNd, 3)
theorem ok_wf {e : Ent} (h : e.ok = true) : e.wf := by
  have := Ent.ok_all h
  unfold Ent.wf I64
  omega
theorem doneR_wf {es : List Ent} (h : bookOk es = true) (k nn t m : Int) : AllE (doneR es k nn t m).1 := by
  unfold doneR
  split
  · exact book_wf h
  · split
    · rename_i hok
      exact put_wf (book_wf h) (ok_wf hok)
    · exact book_wf h
theorem acks_small {rows : List (List Int)} (h : ∀ j, j < 4 → vecOk (RW rows j) = true) (h4 : rows.length = 4) : ∀ r ∈ rows, r.length ≤ 1048576 := fun r hr => by
  obtain ⟨i, hi, rfl⟩ := List.mem_iff_getElem.1 hr
  have h1 := vec_len (h i (by omega))
  rw [RW_get hi] at h1
  omega
set_option linter.unusedSimpArgs false in
set_option maxHeartbeats 4000000 in
set_option maxRecDepth 100000 in
theorem specDoneAt_any (B : Nat) (me : Int) (ab : Option Addr) (nb cb : Nat) (book : List Ent) (aa : Option Addr) (na ca : Nat) (acks : List (List Int)) (k nn t m : Int) (w : World) (hx : Ents B w ab nb cb book) (hz : ab = none → cb = 0) (ha : Rws B w aa na ca acks) (hB : B ≤ w.heap.size) :
    Calls Tryz.prog 54 #[.agg #[.int .i64 me, .slice ab nb cb, .slice aa na ca], .agg #[.int .i64 k, .int .i64 nn, .int .i64 t, .int .i64 m]] w (NodeNPost (doneAt ⟨me, book, acks⟩ k nn t m) w) := by
  have hlen := hx.hlen; have hal := ha.hlen
  obtain ⟨w0, hw0⟩ : ∃ x, x = w.alloc (.cells #[.int .i64 me, .slice ab nb cb, .slice aa na ca] 39) := ⟨_, rfl⟩
  obtain ⟨w00, hw00⟩ : ∃ x, x = w0.alloc (.cells #[.int .i64 k, .int .i64 nn, .int .i64 t, .int .i64 m] 60) := ⟨_, rfl⟩
  obtain ⟨wb, hwb⟩ : ∃ wb, wb = ((w.alloc (.cells #[.int .i64 me, .slice ab nb cb, .slice aa na ca] 39)).alloc (.cells #[.int .i64 k, .int .i64 nn, .int .i64 t, .int .i64 m] 60)).alloc (.cells #[.int .i64 0, .slice none 0 0, .slice none 0 0] 39) := ⟨_, rfl⟩
  obtain ⟨g, hg⟩ : ∃ g, g = w.heap.size := ⟨_, rfl⟩
  obtain ⟨gd, hgd⟩ : ∃ g, g = w.heap.size + 1 := ⟨_, rfl⟩
  obtain ⟨gr, hgr0⟩ : ∃ gr, gr = w.heap.size + 1 + 1 := ⟨_, rfl⟩
  have hbox : Blk wb g 39 #[.int .i64 me, .slice ab nb cb, .slice aa na ca] := by rw [hwb, hg]; exact ((Blk.new _ _ _).alloc _).alloc _
  have hdeed : Blk wb gd 60 #[.int .i64 k, .int .i64 nn, .int .i64 t, .int .i64 m] := by
    have h := Blk.new w0 60 #[.int .i64 k, .int .i64 nn, .int .i64 t, .int .i64 m]
    have h1 : w0.heap.size = w.heap.size + 1 := by rw [hw0]; simp
    rw [h1] at h
    rw [hwb, hgd, ← hw0]
    exact h.alloc _
  have hres : Blk wb gr 39 #[.int .i64 0, .slice none 0 0, .slice none 0 0] := by
    have h := Blk.new w00 39 #[.int .i64 0, .slice none 0 0, .slice none 0 0]
    have h1 : w00.heap.size = w.heap.size + 1 + 1 := by rw [hw00, hw0]; simp
    rw [h1] at h
    rw [hwb, hgr0, ← hw0, ← hw00]
    exact h
  have hb0 : Below w.heap.size w wb := by
    rw [hwb]
    exact (((Below.refl _ _).alloc (Nat.le_refl _) _).alloc (by simp) _).alloc (by simp; omega) _
  clear hw0 hw00
  have hgr : w.heap.size ≤ gr := by omega
  have hs0 := hb0.size
  have hsb := hbox.lt; have hsr := hres.lt; have hsd := hdeed.lt
  have HBOX : Hid (∀ w', Below wb.heap.size wb w' → Blk w' g 39 #[.int .i64 me, .slice ab nb cb, .slice aa na ca]) := Lib.hid (fun w' h => hbox.below h hsb)
  have HDEED : Hid (∀ w', Below wb.heap.size wb w' → Blk w' gd 60 #[.int .i64 k, .int .i64 nn, .int .i64 t, .int .i64 m]) := Lib.hid (fun w' h => hdeed.below h hsd)
  have HRES : Hid (∀ w', Below wb.heap.size wb w' → Blk w' gr 39 #[.int .i64 0, .slice none 0 0, .slice none 0 0]) := Lib.hid (fun w' h => hres.below h hsr)
  have HA : Hid (∀ w', Below wb.heap.size wb w' → Below w.heap.size w w') := Lib.hid (fun w' h => hb0.trans (h.mono hs0))
  have hno := specNodeOk_any B me ab nb cb book aa na ca acks wb (hx.below hb0 hB (Nat.le_refl B)) (ha.below hb0 hB (Nat.le_refl B)) (by omega)
  have hdo := fun w => specDeedOk_any k nn t m w
  have hcp : nodeOk me book acks = true → ∀ w', Below wb.heap.size wb w' → Calls Tryz.prog 73 #[.agg #[.int .i64 me, .slice ab nb cb, .slice aa na ca]] w' (NodePost ⟨me, book, acks⟩ w') := fun hn w' h => by
    obtain ⟨h1, h2, h3⟩ := node_book hn
    have := book_len h1
    exact l15Copy_any B me ab nb cb book aa na ca acks w' (hx.below (HA.out w' h) hB (Nat.le_refl B)) hz (ha.below (HA.out w' h) hB (Nat.le_refl B)) (by have := (HA.out w' h).size; omega) (by omega) (by omega) (acks_small h3 h2)
  have hld : nodeOk me book acks = true → deedOk k nn t m = true → ∀ w', Below wb.heap.size wb w' → Calls Tryz.prog 77 #[.slice ab nb cb, .agg #[.int .i64 k, .int .i64 nn, .int .i64 t, .int .i64 m]] w' (NewEsN (doneR book k nn t m) w') := fun hn hd w' h =>
    l8Done_any B ab nb cb book k nn t m w' (hx.below (HA.out w' h) hB (Nat.le_refl B)) hz (by have := (HA.out w' h).size; omega) (node_book hn).1 hd
  have hdw : nodeOk me book acks = true → AllE (doneR book k nn t m).1 := fun hn => doneR_wf (node_book hn).1 k nn t m
  have hbw := hx.wf
  have haw : AllR acks := fun r hr => by
    obtain ⟨i, hi, rfl⟩ := List.mem_iff_getElem.1 hr
    obtain ⟨b, off, a, m, c, _, _, _, hi2, _⟩ := ha.cell i (by omega)
    have := hi2.wf
    rwa [RW_get hi] at this
  have e1 : nodeOk me book acks = false ∨ deedOk k nn t m = false ∨ ¬ nn = me → doneAt ⟨me, book, acks⟩ k nn t m = (zeroNd, 3) := fun h => by
    rw [doneAt, if_neg]
    rintro ⟨h1, h2, h3⟩
    rcases h with h | h | h
    · rw [h] at h1; cases h1
    · rw [h] at h2; cases h2
    · exact h h3
  have e2 : nodeOk me book acks = true → deedOk k nn t m = true → nn = me → doneAt ⟨me, book, acks⟩ k nn t m = (⟨me, (doneR book k nn t m).1, acks⟩, (doneR book k nn t m).2) := fun h h2 h3 => by rw [doneAt, if_pos ⟨h, h2, h3⟩]
  obtain ⟨r, hr⟩ : ∃ r, doneAt ⟨me, book, acks⟩ k nn t m = r := ⟨_, rfl⟩
  rw [hr] at e1 e2 ⊢
  clear hr
  obtain ⟨⟨db, dk⟩, hdd⟩ : ∃ x, doneR book k nn t m = x := ⟨_, rfl⟩
  rw [hdd] at e2 hld hdw
  simp only at e2 hdw
  clear hdd hx ha hlen hal
  generalize nodeOk me book acks = b1 at hno e1 e2 hcp hld hdw
  generalize deedOk k nn t m = b2 at hdo e1 e2 hld
  have E1 := Lib.hid e1; have E2 := Lib.hid e2; have HCP := Lib.hid hcp; have HLD := Lib.hid hld; have HDW := Lib.hid hdw; have HAW := Lib.hid haw; have HBW := Lib.hid hbw; clear e1 e2 hcp hld hdw haw hbw
  have d0 := hbox.cell 0; have d1 := hbox.cell 1; have d2 := hbox.cell 2
  go_enter Tryz.func54, Tryz.ntmps54
  go_upto_region 1 with fail
  rw [← hwb, ← hgr0, ← hgd, ← hg]
  clear hwb hg hgr0 hgd
  go_wp2_with fail
  refine hno.mono ?_
  rintro e w1 ⟨rfl, hb1⟩
  have hB1 := HA.out w1 hb1
  have hres1 := HRES.out w1 hb1
  have hbox1 := HBOX.out w1 hb1
  have hdeed1 := HDEED.out w1 hb1
  clear d0 d1 d2
  rcases b1 with _ | _
  · have hr := E1.out (.inl (by first | rfl | trivial))
    subst hr
    clear E1 E2
    have z0 := hres1.cell 0; have z1 := hres1.cell 1; have z2 := hres1.cell 2
    have y0 := hres1.frozen 0; have y1 := hres1.frozen 1; have y2 := hres1.frozen 2
    have hZ := Blk.set3 hres1 (.int .i64 0) (.slice none 0 0) (.slice none 0 0)
    have hBZ := hB1.set3 hgr (.int .i64 0) (.slice none 0 0) (.slice none 0 0)
    have p0 := hZ.cell 0; have p1 := hZ.cell 1; have p2 := hZ.cell 2
    have HBZ := Lib.hid hBZ; clear hBZ hZ
    go_wp2_with fail
    refine bodyPost_ret (v := .tuple #[.agg #[.int .i64 0, .slice none 0 0, .slice none 0 0], .int .i64 3]) (by simp [results, Tryz.results54, go_sem, p0, p1, p2]) rfl ?_
    exact nodeN_zero HBZ.out
  · have q0 := hdeed1.cell 0; have q1 := hdeed1.cell 1; have q2 := hdeed1.cell 2; have q3 := hdeed1.cell 3
    go_wp2_with fail
    refine (hdo _).mono ?_
    rintro e w2 ⟨rfl, hb2⟩
    have hbb2 := hb1.trans (hb2.mono hb1.size)
    have hB2 := HA.out w2 hbb2
    have hres2 := HRES.out w2 hbb2
    have hbox2 := HBOX.out w2 hbb2
    have hdeed2 := HDEED.out w2 hbb2
    clear q0 q1 q2 q3
    rcases b2 with _ | _
    · have hr := E1.out (.inr (.inl (by first | rfl | trivial)))
      subst hr
      clear E1 E2
      have z0 := hres2.cell 0; have z1 := hres2.cell 1; have z2 := hres2.cell 2
      have y0 := hres2.frozen 0; have y1 := hres2.frozen 1; have y2 := hres2.frozen 2
      have hZ := Blk.set3 hres2 (.int .i64 0) (.slice none 0 0) (.slice none 0 0)
      have hBZ := hB2.set3 hgr (.int .i64 0) (.slice none 0 0) (.slice none 0 0)
      have p0 := hZ.cell 0; have p1 := hZ.cell 1; have p2 := hZ.cell 2
      have HBZ := Lib.hid hBZ; clear hBZ hZ
      go_wp2_with fail
      refine bodyPost_ret (v := .tuple #[.agg #[.int .i64 0, .slice none 0 0, .slice none 0 0], .int .i64 3]) (by simp [results, Tryz.results54, go_sem, p0, p1, p2]) rfl ?_
      exact nodeN_zero HBZ.out
    · have d0 := hbox2.cell 0; have d1 := hbox2.cell 1; have d2 := hbox2.cell 2
      have q1 := hdeed2.cell 1
      by_cases hnm : nn = me
      · have hr := E2.out (by first | rfl | trivial) (by first | rfl | trivial) hnm
        subst hr
        have hnm' : (nn != me) = false := by simpa using hnm
        have hcp := HCP.out (by first | rfl | trivial)
        have hld := HLD.out (by first | rfl | trivial) (by first | rfl | trivial)
        have hdw := HDW.out (by first | rfl | trivial)
        have HC := Lib.hid hcp; have HL := Lib.hid hld
        clear E1 E2 hnm HCP HLD HDW hcp hld hno hdo
        go_wp2_with fail
        refine (HC.out _ hbb2).mono ?_
        rintro e w3 ⟨bv, av, rfl, hob, hoa, hb3⟩
        have hbb3 := hbb2.trans (hb3.mono hbb2.size)
        have hoak := hoa
        obtain ⟨a2, c2, rfl, -⟩ := hob.ents HBW.out
        obtain ⟨a3, c3, rfl, -⟩ := hoa.rows HAW.out
        obtain ⟨W4, hW4⟩ : ∃ x, x = w3.alloc (.cells #[.int .i64 me, .slice a2 book.length c2, .slice a3 acks.length c3] 39) := ⟨_, rfl⟩
        obtain ⟨go, hgo⟩ : ∃ x, x = w3.heap.size := ⟨_, rfl⟩
        have hout : Blk W4 go 39 #[.int .i64 me, .slice a2 book.length c2, .slice a3 acks.length c3] := by rw [hW4, hgo]; exact Blk.new _ _ _
        have hb4 : Below w3.heap.size w3 W4 := by rw [hW4]; exact (Below.refl _ _).alloc (Nat.le_refl _) _
        have hgw : wb.heap.size ≤ go := by have := hbb3.size; omega
        clear d0 d1 d2 q1
        go_upto_region 4 with fail
        rw [← hW4, ← hgo]
        clear hW4 hgo
        have hbb4 := hbb3.trans (hb4.mono hbb3.size)
        have hbox4 := HBOX.out W4 hbb4
        have hdeed4 := HDEED.out W4 hbb4
        have d0 := hbox4.cell 0; have d1 := hbox4.cell 1; have d2 := hbox4.cell 2
        have q0 := hdeed4.cell 0; have q1 := hdeed4.cell 1; have q2 := hdeed4.cell 2; have q3 := hdeed4.cell 3
        go_wp2_with fail
        refine (HL.out _ hbb4).mono ?_
        rintro e w5 ⟨dv, rfl, hod, hb5⟩
        have hodk := hod
        obtain ⟨a5, c5, rfl, -⟩ := hod.ents hdw
        have hbb5 := hbb4.trans (hb5.mono hbb4.size)
        have hout5 := hout.below hb5 hout.lt
        have hoa5 := (hoak.below hb4 (Nat.le_refl _)).below hb5 (Nat.le_refl _)
        clear d0 d1 d2 q0 q1 q2 q3 hout
        have o0 := hout5.cell 0; have o1 := hout5.cell 1; have o2 := hout5.cell 2
        have u1 := hout5.frozen 1
        obtain ⟨W6, hW6⟩ : ∃ x, x = w5.setCell ⟨go, 1, none⟩ (.slice a5 db.length c5) := ⟨_, rfl⟩
        have hout6 : Blk W6 go 39 #[.int .i64 me, .slice a5 db.length c5, .slice a3 acks.length c3] := by
          have h := hout5.set_ 1 (.slice a5 db.length c5)
          rw [hW6]
          simpa using h
        have hbb6 : Below wb.heap.size wb W6 := by rw [hW6]; exact hbb5.setCell (p := ⟨go, 1, none⟩) hgw _
        have hO6 : Only go w5 W6 := by rw [hW6]; exact (Only.refl go w5).setCell 1 _
        have hoa6 := OwnRows.off hoa5 hout5 hO6.keeps (by decide) (by decide)
        have hod6 := OwnE.off hodk hout5 hO6.keeps (by decide)
        go_upto_region 6 with fail
        rw [← hW6]
        clear hW6 o0 o1 o2 u1 hout5
        have o0 := hout6.cell 0; have o1 := hout6.cell 1; have o2 := hout6.cell 2
        have hres6 := HRES.out W6 hbb6
        have hB6 := HA.out W6 hbb6
        have z0 := hres6.cell 0; have z1 := hres6.cell 1; have z2 := hres6.cell 2
        have y0 := hres6.frozen 0; have y1 := hres6.frozen 1; have y2 := hres6.frozen 2
        have hZ := Blk.set3 hres6 (.int .i64 me) (.slice a5 db.length c5) (.slice a3 acks.length c3)
        have hBZ := hB6.set3 hgr (.int .i64 me) (.slice a5 db.length c5) (.slice a3 acks.length c3)
        have hOZ := Only.set3 gr W6 (.int .i64 me) (.slice a5 db.length c5) (.slice a3 acks.length c3)
        have p0 := hZ.cell 0; have p1 := hZ.cell 1; have p2 := hZ.cell 2
        have ho2 := (OwnE.off hod6 hres6 hOZ.keeps (by decide)).mono (show w.heap.size ≤ W4.heap.size from (HA.out W4 hbb4).size)
        have ho3 := (OwnRows.off hoa6 hres6 hOZ.keeps (by decide) (by decide)).mono (show w.heap.size ≤ w2.heap.size from hB2.size)
        have HBZ := Lib.hid hBZ; have HO2 := Lib.hid ho2; have HO3 := Lib.hid ho3
        clear hBZ ho2 ho3 hOZ hZ
        go_wp2_with fail
        refine bodyPost_ret (v := .tuple #[.agg #[.int .i64 me, .slice a5 db.length c5, .slice a3 acks.length c3], .int .i64 dk]) (by simp [results, Tryz.results54, go_sem, p0, p1, p2]) rfl ?_
        exact ⟨_, _, rfl, HO2.out, HO3.out, HBZ.out⟩
      · have hr := E1.out (.inr (.inr hnm))
        subst hr
        have hnm' : (nn != me) = true := by simpa using hnm
        clear E1 E2
        have z0 := hres2.cell 0; have z1 := hres2.cell 1; have z2 := hres2.cell 2
        have y0 := hres2.frozen 0; have y1 := hres2.frozen 1; have y2 := hres2.frozen 2
        have hZ := Blk.set3 hres2 (.int .i64 0) (.slice none 0 0) (.slice none 0 0)
        have hBZ := hB2.set3 hgr (.int .i64 0) (.slice none 0 0) (.slice none 0 0)
        have p0 := hZ.cell 0; have p1 := hZ.cell 1; have p2 := hZ.cell 2
        have HBZ := Lib.hid hBZ; clear hBZ hZ
        go_wp2_with fail
        refine bodyPost_ret (v := .tuple #[.agg #[.int .i64 0, .slice none 0 0, .slice none 0 0], .int .i64 3]) (by simp [results, Tryz.results54, go_sem, p0, p1, p2]) rfl ?_
        exact nodeN_zero HBZ.out
end Go.Proofs.YtoniahfdjhhalaaGreat

namespace Go.Proofs.YtoniahfdjhhalaaGreat
def pairsIn (f : List Ent → List (Ent × Ent)) (x : Ent) : List Ent → List (Ent × Ent)
  | [] => (x, zeroE) :: f []
  | y :: b => if y.key < x.key then (zeroE, y) :: pairsIn f x b else if y.key = x.key then (x, y) :: f b else (x, zeroE) :: f (y :: b)
def pairs : List Ent → List Ent → List (Ent × Ent)
  | [] => fun b => b.map fun y => (zeroE, y)
  | x :: a => pairsIn (pairs a) x
theorem pairs_nil (b : List Ent) : pairs [] b = b.map fun y => (zeroE, y) := rfl
theorem pairs_one (x : Ent) (a : List Ent) : pairs (x :: a) [] = (x, zeroE) :: pairs a [] := rfl
theorem pairs_two (x : Ent) (a : List Ent) (y : Ent) (b : List Ent) :
    pairs (x :: a) (y :: b) = if y.key < x.key then (zeroE, y) :: pairs (x :: a) b else if y.key = x.key then (x, y) :: pairs a b else (x, zeroE) :: pairs a (y :: b) := rfl
theorem pairs_lt {x : Ent} {a : List Ent} {y : Ent} {b : List Ent} (h : y.key < x.key) : pairs (x :: a) (y :: b) = (zeroE, y) :: pairs (x :: a) b := by rw [pairs_two, if_pos h]
theorem pairs_eq {x : Ent} {a : List Ent} {y : Ent} {b : List Ent} (h : y.key = x.key) : pairs (x :: a) (y :: b) = (x, y) :: pairs a b := by rw [pairs_two, if_neg (by omega), if_pos h]
theorem pairs_gt {x : Ent} {a : List Ent} {y : Ent} {b : List Ent} (h : x.key < y.key) : pairs (x :: a) (y :: b) = (x, zeroE) :: pairs a (y :: b) := by rw [pairs_two, if_neg (by omega), if_neg (by omega)]
theorem pairs_len (a b : List Ent) : (pairs a b).length ≤ a.length + b.length := by
  induction a generalizing b with
  | nil => rw [pairs_nil]; simp
  | cons x a ih =>
    induction b with
    | nil => rw [pairs_one]; have := ih []; simp at this ⊢; omega
    | cons y b ih2 =>
      rw [pairs_two]
      split
      · simp at ih2 ⊢; omega
      · split
        · have := ih b; simp at this ⊢; omega
        · have := ih (y :: b); simp at this ⊢; omega
theorem pairs_mem {a b : List Ent} {p : Ent × Ent} (h : p ∈ pairs a b) : (p.1 = zeroE ∨ p.1 ∈ a) ∧ (p.2 = zeroE ∨ p.2 ∈ b) := by
  induction a generalizing b with
  | nil =>
    rw [pairs_nil] at h
    obtain ⟨y, hy, rfl⟩ := List.mem_map.1 h
    exact ⟨.inl rfl, .inr hy⟩
  | cons x a ih =>
    have up : ∀ {b' : List Ent}, p ∈ pairs a b' → (∀ e, e ∈ b' → e ∈ b) → (p.1 = zeroE ∨ p.1 ∈ x :: a) ∧ (p.2 = zeroE ∨ p.2 ∈ b) := fun hp hs => by
      obtain ⟨h1, h2⟩ := ih hp
      exact ⟨h1.imp id (List.mem_cons_of_mem _), h2.imp id (hs _)⟩
    induction b with
    | nil =>
      rw [pairs_one] at h
      rcases List.mem_cons.1 h with rfl | h
      · exact ⟨.inr (List.mem_cons_self ..), .inl rfl⟩
      · exact up h (fun _ h => h)
    | cons y b ih2 =>
      rw [pairs_two] at h
      split at h
      · rcases List.mem_cons.1 h with rfl | h
        · exact ⟨.inl rfl, .inr (List.mem_cons_self ..)⟩
        · obtain ⟨h1, h2⟩ := ih2 h (fun hp hs => by
            obtain ⟨h1, h2⟩ := ih hp
            exact ⟨h1.imp id (List.mem_cons_of_mem _), h2.imp id (hs _)⟩)
          exact ⟨h1, h2.imp id (List.mem_cons_of_mem _)⟩
      · split at h
        · rcases List.mem_cons.1 h with rfl | h
          · exact ⟨.inr (List.mem_cons_self ..), .inr (List.mem_cons_self ..)⟩
          · exact up h (fun _ h => List.mem_cons_of_mem _ h)
        · rcases List.mem_cons.1 h with rfl | h
          · exact ⟨.inr (List.mem_cons_self ..), .inl rfl⟩
          · exact up h (fun _ h => h)
def newer (p : Ent × Ent) : Ent := if p.1.d < p.2.d then p.2 else p.1
def le2 (p : Ent × Ent) : Bool := decide (p.1.d ≤ p.2.d ∧ p.1.a ≤ p.2.a)
def joinE (a b : List Ent) : List Ent := (pairs a b).map newer
def withinP (a b : List Ent) : Bool := (pairs a b).all le2
theorem newer_left {x : Ent} (h : x.ok = true) : newer (x, zeroE) = x := by
  have := Ent.ok_all h
  rw [newer, if_neg (by simp only [zeroE]; omega)]
theorem newer_right {y : Ent} (h : y.ok = true) : newer (zeroE, y) = y := by
  have := Ent.ok_all h
  rw [newer, if_pos (by simp only [zeroE]; omega)]
theorem zero_wf : zeroE.wf := ⟨⟨by decide, by decide⟩, ⟨by decide, by decide⟩, ⟨by decide, by decide⟩, ⟨by decide, by decide⟩⟩
theorem pairs_wf {a b : List Ent} (ha : AllE a) (hb : AllE b) : ∀ p ∈ pairs a b, p.1.wf ∧ p.2.wf := by
  intro p hp
  obtain ⟨h1, h2⟩ := pairs_mem hp
  refine ⟨?_, ?_⟩
  · rcases h1 with h | h
    · rw [h]; exact zero_wf
    · exact ha _ h
  · rcases h2 with h | h
    · rw [h]; exact zero_wf
    · exact hb _ h
theorem join_wf {a b : List Ent} (ha : AllE a) (hb : AllE b) : AllE (joinE a b) := by
  intro e he
  obtain ⟨p, hp, rfl⟩ := List.mem_map.1 he
  have := pairs_wf ha hb p hp
  unfold newer
  split
  · exact this.2
  · exact this.1
theorem join_len (a b : List Ent) : (joinE a b).length ≤ a.length + b.length := by
  unfold joinE
  rw [List.length_map]
  exact pairs_len a b
def joinR (a b : List Ent) : Option (List Ent) := if bookOk a = true ∧ bookOk b = true ∧ bookOk (joinE a b) = true then some (joinE a b) else none
theorem joinR_no {a b : List Ent} (h : bookOk a = false ∨ bookOk b = false ∨ bookOk (joinE a b) = false) : joinR a b = none := by
  rw [joinR, if_neg]
  rintro ⟨h1, h2, h3⟩
  rcases h with h | h | h
  · rw [h1] at h; cases h
  · rw [h2] at h; cases h
  · rw [h3] at h; cases h
theorem joinR_yes {a b : List Ent} (h1 : bookOk a = true) (h2 : bookOk b = true) (h3 : bookOk (joinE a b) = true) : joinR a b = some (joinE a b) := by
  rw [joinR, if_pos ⟨h1, h2, h3⟩]
theorem joinR_getD {a b : List Ent} : AllE ((joinR a b).getD []) ∧ ((joinR a b).getD []).length ≤ 20 := by
  unfold joinR
  split
  · rename_i hh
    exact ⟨book_wf hh.2.2, book_len hh.2.2⟩
  · exact ⟨(fun z hz => by cases hz), by simp⟩
def Up (l : List Ent) : Prop := (∀ e ∈ l, e.ok = true) ∧ l.Pairwise fun x y => x.key < y.key
theorem Up.tail {x : Ent} {l : List Ent} (h : Up (x :: l)) : Up l := ⟨fun e he => h.1 e (List.mem_cons_of_mem _ he), (List.pairwise_cons.1 h.2).2⟩
theorem Up.head {x : Ent} {l : List Ent} (h : Up (x :: l)) : x.ok = true ∧ ∀ y ∈ l, x.key < y.key := ⟨h.1 x (List.mem_cons_self ..), (List.pairwise_cons.1 h.2).1⟩
theorem right_step {es : List Ent} {k : Nat} (h : Right es k) : ∀ j i, j < i → i < k → (E es j).key < (E es i).key := by
  intro j i hji
  induction i with
  | zero => omega
  | succ i ih =>
    intro hi
    have h1 := (h (i + 1) hi).2.1 (by omega)
    rw [Nat.add_sub_cancel] at h1
    by_cases e : j = i
    · subst e; exact h1
    · have := ih (by omega) (by omega); omega
theorem book_up {es : List Ent} (h : bookOk es = true) : Up es := by
  have hr := book_right h
  refine ⟨fun e he => ?_, ?_⟩
  · obtain ⟨i, hi, rfl⟩ := List.mem_iff_getElem.1 he
    have := (hr i hi).1
    rwa [E_get hi] at this
  · rw [List.pairwise_iff_getElem]
    intro i j hi hj hij
    have := right_step hr i j hij hj
    rwa [E_get hi, E_get hj] at this
def Has (b : List Ent) (x : Ent) : Prop := ∃ y ∈ b, y.key = x.key ∧ x.d ≤ y.d ∧ x.a ≤ y.a
theorem has_low {x y : Ent} {b : List Ent} (h : y.key < x.key) : Has (y :: b) x ↔ Has b x := by
  refine ⟨fun ⟨z, hz, h1⟩ => ?_, fun ⟨z, hz, h1⟩ => ⟨z, List.mem_cons_of_mem _ hz, h1⟩⟩
  rcases List.mem_cons.1 hz with rfl | hz
  · omega
  · exact ⟨z, hz, h1⟩
theorem le2_left {x : Ent} (h : x.ok = true) : le2 (x, zeroE) = false := by
  have := Ent.ok_all h
  rw [le2, decide_eq_false_iff_not]
  simp only [zeroE]; omega
theorem le2_right {y : Ent} (h : y.ok = true) : le2 (zeroE, y) = true := by
  have := Ent.ok_all h
  rw [le2, decide_eq_true_eq]
  simp only [zeroE]; omega
theorem within_has {a b : List Ent} (ha : Up a) (hb : Up b) : withinP a b = true ↔ ∀ x ∈ a, Has b x := by
  unfold withinP
  induction a generalizing b with
  | nil =>
    rw [pairs_nil]
    refine ⟨fun _ x hx => (by cases hx), fun _ => ?_⟩
    rw [List.all_eq_true]
    intro p hp
    obtain ⟨y, hy, rfl⟩ := List.mem_map.1 hp
    exact le2_right (hb.1 y hy)
  | cons x a ih =>
    induction b with
    | nil =>
      rw [pairs_one, List.all_cons, le2_left ha.head.1, Bool.false_and]
      refine ⟨fun h => (by cases h), fun h => ?_⟩
      obtain ⟨y, hy, _⟩ := h x (List.mem_cons_self ..)
      cases hy
    | cons y b ih2 =>
      have hlow : ∀ {z : Ent}, y.key < z.key → (Has (y :: b) z ↔ Has b z) := fun h => has_low h
      rw [pairs_two]
      split
      · rename_i hk
        rw [List.all_cons, le2_right hb.head.1, Bool.true_and, ih2 hb.tail]
        refine ⟨fun h z hz => ?_, fun h z hz => ?_⟩
        all_goals
          have hzk : y.key < z.key := by
            rcases List.mem_cons.1 hz with rfl | hz'
            · exact hk
            · have := ha.head.2 z hz'; omega
        · exact (hlow hzk).2 (h z hz)
        · exact (hlow hzk).1 (h z hz)
      · split
        · rename_i hk
          rw [List.all_cons, Bool.and_eq_true, ih ha.tail hb.tail, List.forall_mem_cons]
          refine and_congr ?_ ?_
          · rw [le2, decide_eq_true_eq]
            refine ⟨fun h => ⟨y, List.mem_cons_self .., hk, h.1, h.2⟩, fun ⟨z, hz, h1, h2, h3⟩ => ?_⟩
            rcases List.mem_cons.1 hz with rfl | hz
            · exact ⟨h2, h3⟩
            · have := hb.head.2 z hz; omega
          · refine ⟨fun h z hz => ?_, fun h z hz => ?_⟩
            all_goals
              have hzk : y.key < z.key := by have := ha.head.2 z hz; omega
            · exact (hlow hzk).2 (h z hz)
            · exact (hlow hzk).1 (h z hz)
        · rename_i h1 h2
          rw [List.all_cons, le2_left ha.head.1, Bool.false_and]
          refine ⟨fun h => (by cases h), fun h => ?_⟩
          obtain ⟨z, hz, h3, _⟩ := h x (List.mem_cons_self ..)
          rcases List.mem_cons.1 hz with rfl | hz
          · omega
          · have := hb.head.2 z hz; omega
def within (a b : List Ent) : Bool := bookOk a && bookOk b && withinP a b
theorem joinE_one {x : Ent} {a : List Ent} (hx : x.ok = true) : joinE (x :: a) [] = x :: joinE a [] := by
  unfold joinE; rw [pairs_one, List.map_cons, newer_left hx]
theorem joinE_nil {y : Ent} {b : List Ent} (hy : y.ok = true) : joinE [] (y :: b) = y :: joinE [] b := by
  unfold joinE; rw [pairs_nil, pairs_nil, List.map_cons, List.map_cons, newer_right hy]
theorem joinE_gt {x y : Ent} {a b : List Ent} (hx : x.ok = true) (hl : x.key < y.key) : joinE (x :: a) (y :: b) = x :: joinE a (y :: b) := by
  unfold joinE; rw [pairs_gt hl, List.map_cons, newer_left hx]
theorem joinE_lt {x y : Ent} {a b : List Ent} (hy : y.ok = true) (hl : y.key < x.key) : joinE (x :: a) (y :: b) = y :: joinE (x :: a) b := by
  unfold joinE; rw [pairs_lt hl, List.map_cons, newer_right hy]
theorem joinE_eq {x y : Ent} {a b : List Ent} (hl : y.key = x.key) : joinE (x :: a) (y :: b) = newer (x, y) :: joinE a b := by
  unfold joinE; rw [pairs_eq hl, List.map_cons]
end Go.Proofs.YtoniahfdjhhalaaGreat
