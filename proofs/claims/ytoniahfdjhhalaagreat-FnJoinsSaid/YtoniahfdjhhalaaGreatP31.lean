/- Texts of this claim, put together. -/
import Derived.Test.YtoniahfdjhhalaaGreatP1
import Derived.Test.YtoniahfdjhhalaaGreatP18
import Derived.Test.YtoniahfdjhhalaaGreatP30

namespace Go.Proofs.YtoniahfdjhhalaaGreat
open Go.RowKit
def bendAt (x : List Int) (b : Nat) (c : Int) : List Int := x.set b (bits .xor .i64 (x.getD b 0) c)
theorem Blk.ne {w : World} {g gd : Nat} {t t' : TypeId} {cs cs' : Array Value} (h : Blk w g t cs) (hb : Blk w gd t' cs') (hne : t ≠ t') : g ≠ gd := fun e => by
  subst e
  have h2 : w.heap[g]? = some (.cells cs t (0, 0)) := h
  have h3 : w.heap[g]? = some (.cells cs' t' (0, 0)) := hb
  rw [h2] at h3
  cases h3
  exact hne rfl
theorem OwnRowsL.bend {base g n cap : Nat} {w : World} {rows : List (List Int)} (h : OwnRowsL base w (.slice (some ⟨g, 0, none⟩) n cap) rows) (a b : Nat) (ha : a < rows.length) (hb : b < (RW rows a).length) :
    ∃ gl lc, w.cell? ⟨g, a, none⟩ = some (.slice (some ⟨gl, 0, none⟩) (RW rows a).length lc) ∧ base ≤ gl ∧ gl < w.heap.size ∧ w.cell? ⟨gl, b, none⟩ = some (.int .i64 ((RW rows a).getD b 0)) ∧ w.frozen? ⟨gl, b, none⟩ = false ∧
      ∃ cs, Blk w gl 2 cs ∧ ∀ z w', Below w.heap.size w w' → OwnRows base (w'.setCell ⟨gl, b, none⟩ (.int .i64 z)) (.slice (some ⟨g, 0, none⟩) n cap) (rows.set a ((RW rows a).set b z)) := by
  have hn : rows.length = n := by
    obtain ⟨cells, h1, _⟩ := h
    rcases h1.2 with ⟨h3, _⟩ | ⟨g', cap', cur, h3, _⟩
    · cases h3
    · cases h3; rfl
  have hc := h.own.letter a ha
  have h0 := h
  obtain ⟨cells, h1, h2, h3⟩ := h
  obtain ⟨c, q1, q2⟩ := h2 a ha
  have hac : w.cell? ⟨g, a, none⟩ = some c := by
    subst hn
    rw [h1.cellAt a (by omega), q1]
  rcases q2.2 with ⟨rfl, e⟩ | ⟨gl, lc, cur, rfl, hbl, hh, _⟩
  · omega
  have hlt : gl < w.heap.size := (Array.getElem?_eq_some_iff.1 hh).1
  refine ⟨gl, lc, hac, hbl, hlt, ?_, frozen_of_row w gl b cur _ hh, cur, hh, fun z w' hbw => ?_⟩
  · rw [World.ownsRow.cellAt q2 b (by omega)]
    simp [List.getD, hb]
  have hbk : Blk w' gl 2 cur := Blk.below (show Blk w gl 2 cur from hh) hbw hlt
  have hk : Keeps gl w' (w'.setCell ⟨gl, b, none⟩ (.int .i64 z)) := ((Only.refl gl w').setCell b _).keeps
  refine ⟨cells, by rw [List.length_set]; exact row_off (ownsRow_below h1 hbw (Nat.le_refl _)) hbk hk (by decide), fun j hj => ?_⟩
  rw [List.length_set] at hj
  obtain ⟨d, r1, r2⟩ := h2 j hj
  refine ⟨d, r1, ?_⟩
  rw [RW_set hj]
  by_cases e : j = a
  · subst e
    rw [q1] at r1
    cases r1
    rw [if_pos rfl]
    have hst := ((Own.below q2 hbw (Nat.le_refl _) : Own base w' _ _).stored b (.int .i64 z)).1
    unfold Own
    rw [List.length_set, ← map_set]
    exact hst
  · rw [if_neg e]
    refine World.ownsRow.kept (r2.below hbw (Nat.le_refl _)) hk ?_
    exact h3 j a d _ e r1 q1
set_option linter.unusedSimpArgs false in
set_option maxHeartbeats 8000000 in
set_option maxRecDepth 100000 in
theorem letter_hand (base mid : Nat) (nds : List Nd) (fl : List (List Int)) (nv fv : Value) (dk dn dt dm c : Int) (at0 bt0 : Nat) (w : World) (hN : NetOwn base mid nds fl w nv fv) (hnw : AllN nds) (hfw : AllR fl) (hn1 : 1 ≤ nds.length) (hn2 : nds.length ≤ 1048576) (hat : at0 < fl.length) (hnf : fl.length ≤ 1048576) (hxl : (RW fl at0).length ≤ 1048576) :
    Calls Tryz.prog 59 #[.agg #[nv, fv], .agg #[.int .i64 3, .int .i64 dk, .int .i64 dn, .int .i64 dt, .int .i64 dm, .int .i64 at0, .int .i64 bt0, .int .i64 c]] w (NetSaid base base (hearAll nds (RW fl at0)) (fl.eraseIdx at0) (hearSome nds (RW fl at0)) w) := by
  have _u1 := hnw; have _u2 := hxl; have _u3 := hn2; have _u4 := hnf
  have hm := hN.size
  have hle := hN.le
  obtain ⟨gd, cn, rfl, -, -⟩ := hN.nodes.own.ptr (by omega)
  obtain ⟨gf, cf, rfl, hgf, curf, hbf⟩ := hN.letters.own.ptr (by omega)
  obtain ⟨af2, cf2, hfe, hrw, -⟩ := hN.letters.own.rows hfw
  cases hfe
  have hf1 := hrw.hcap; have hf2 := hrw.hmax
  unfold maxLen at hf2
  clear hrw
  obtain ⟨w0, hw0⟩ : ∃ x, x = w.alloc (.cells #[.slice (some ⟨gd, 0, none⟩) nds.length cn, .slice (some ⟨gf, 0, none⟩) fl.length cf] 33) := ⟨_, rfl⟩
  obtain ⟨w00, hw00⟩ : ∃ x, x = w0.alloc (.cells #[.int .i64 3, .int .i64 dk, .int .i64 dn, .int .i64 dt, .int .i64 dm, .int .i64 at0, .int .i64 bt0, .int .i64 c] 62) := ⟨_, rfl⟩
  obtain ⟨wb, hwb⟩ : ∃ wb, wb = ((w.alloc (.cells #[.slice (some ⟨gd, 0, none⟩) nds.length cn, .slice (some ⟨gf, 0, none⟩) fl.length cf] 33)).alloc (.cells #[.int .i64 3, .int .i64 dk, .int .i64 dn, .int .i64 dt, .int .i64 dm, .int .i64 at0, .int .i64 bt0, .int .i64 c] 62)).alloc (.cells #[.slice none 0 0, .slice none 0 0] 33) := ⟨_, rfl⟩
  obtain ⟨gn, hgn0⟩ : ∃ g, g = w.heap.size := ⟨_, rfl⟩
  obtain ⟨gs, hgs0⟩ : ∃ g, g = w.heap.size + 1 := ⟨_, rfl⟩
  obtain ⟨gr, hgr0⟩ : ∃ gr, gr = w.heap.size + 1 + 1 := ⟨_, rfl⟩
  have hnet : Blk wb gn 33 #[.slice (some ⟨gd, 0, none⟩) nds.length cn, .slice (some ⟨gf, 0, none⟩) fl.length cf] := by rw [hwb, hgn0]; exact ((Blk.new _ _ _).alloc _).alloc _
  have hstp : Blk wb gs 62 #[.int .i64 3, .int .i64 dk, .int .i64 dn, .int .i64 dt, .int .i64 dm, .int .i64 at0, .int .i64 bt0, .int .i64 c] := by
    have h := Blk.new w0 62 #[.int .i64 3, .int .i64 dk, .int .i64 dn, .int .i64 dt, .int .i64 dm, .int .i64 at0, .int .i64 bt0, .int .i64 c]
    have h1 : w0.heap.size = w.heap.size + 1 := by rw [hw0]; simp
    rw [h1] at h
    rw [hwb, hgs0, ← hw0]
    exact h.alloc _
  have hres : Blk wb gr 33 #[.slice none 0 0, .slice none 0 0] := by
    have h := Blk.new w00 33 #[.slice none 0 0, .slice none 0 0]
    have h1 : w00.heap.size = w.heap.size + 1 + 1 := by rw [hw00, hw0]; simp
    rw [h1] at h
    rw [hwb, hgr0, ← hw0, ← hw00]
    exact h
  have hb0 : Below w.heap.size w wb := by
    rw [hwb]
    exact (((Below.refl _ _).alloc (Nat.le_refl _) _).alloc (by simp) _).alloc (by simp; omega) _
  have hgrb : base ≤ gr := by omega
  have hgrw : w.heap.size ≤ gr := by omega
  have hngr : gn ≠ gr := by omega
  have hsgr : gs ≠ gr := by omega
  have hs0 := hb0.size
  have hN0 := hN.below hb0
  have hbB : Below base w wb := hb0.mono (by omega)
  have hK0 : KeepNet w wb := KeepNet.of_below hb0
  have d0 := hnet.cell 0; have d1 := hnet.cell 1
  have s0 := hstp.cell 0; have s5 := hstp.cell 5; have s6 := hstp.cell 6; have s7 := hstp.cell 7
  have i0 : (0 : Int) ≤ at0 := by omega
  have i1 : (at0 : Int) < fl.length := by omega
  clear hw0 hw00
  go_enter Tryz.func59, Tryz.ntmps59
  go_upto_region 1 with fail
  rw [← hwb, ← hgr0, ← hgs0, ← hgn0]
  clear hwb hgr0 hgs0 hgn0
  go_wp2_with fail
  refine (l16Hand_any base nds fl _ _ at0 wb hN0.nodes.own (OwnRows.mono hN0.letters.own hle) (by omega) hnw hfw hn1 hn2 hat hnf (by omega)).mono ?_
  rintro e w1 ⟨v, rfl, ⟨nv1, fv1, rfl, q1, q2⟩, hb1, hk1⟩
  have hres1 := hk1.net hres
  have hbel1 := hbB.trans hb1
  have hkn1 := hK0.trans hk1
  clear d0 d1 s0 s5 s6 s7
  obtain ⟨nds1, hnds1⟩ : ∃ x, hearAll nds (RW fl at0) = x := ⟨_, rfl⟩
  rw [hnds1] at q1
  have HN1 := Lib.hid hnds1; clear hnds1
  obtain ⟨a1, k1, rfl⟩ := q1.slice
  obtain ⟨a2, k2, rfl⟩ := q2.slice
  have z0 := hres1.cell 0; have z1 := hres1.cell 1
  have y0 := hres1.frozen 0; have y1 := hres1.frozen 1
  have hZ := Blk.set2 hres1 (.slice a1 nds1.length k1) (.slice a2 (fl.eraseIdx at0).length k2)
  have hBZ := hbel1.set2 hgrb (.slice a1 nds1.length k1) (.slice a2 (fl.eraseIdx at0).length k2)
  have hOZ := Only.set2 gr w1 (.slice a1 nds1.length k1) (.slice a2 (fl.eraseIdx at0).length k2)
  have p0 := hZ.cell 0; have p1 := hZ.cell 1
  have HQ1 := Lib.hid (OwnNds.off q1 hres1 hOZ.keeps (by decide) (by decide) (by decide) (by decide))
  have HQ2 := Lib.hid (OwnRows.off q2 hres1 hOZ.keeps (by decide) (by decide))
  have HBZ := Lib.hid hBZ
  have HKN := Lib.hid ((hkn1.set_ (p := ⟨gr, 0, none⟩) (by show w.heap.size ≤ gr; omega) (.slice a1 nds1.length k1)).set_ (p := ⟨gr, 1, none⟩) (by show w.heap.size ≤ gr; omega) (.slice a2 (fl.eraseIdx at0).length k2))
  clear hBZ hZ hOZ q1 q2
  go_wp2_with fail
  refine bodyPost_ret (v := .tuple #[.agg #[.slice a1 nds1.length k1, .slice a2 (fl.eraseIdx at0).length k2], .bool (hearSome nds (RW fl at0))]) (by simp [results, Tryz.results59, go_sem, p0, p1]) rfl ?_
  exact ⟨_, rfl, ⟨_, _, rfl, by rw [HN1.out]; exact HQ1.out, HQ2.out⟩, HBZ.out, HKN.out⟩
set_option linter.unusedSimpArgs false in
set_option maxHeartbeats 8000000 in
set_option maxRecDepth 100000 in
theorem letter_twice (base mid : Nat) (nds : List Nd) (fl : List (List Int)) (nv fv : Value) (dk dn dt dm c : Int) (at0 bt0 : Nat) (w : World) (hN : NetOwn base mid nds fl w nv fv) (hnw : AllN nds) (hfw : AllR fl) (hn1 : 1 ≤ nds.length) (hn2 : nds.length ≤ 1048576) (hat : at0 < fl.length) (hnf : fl.length ≤ 1048576) (hxl : (RW fl at0).length ≤ 1048576) :
    Calls Tryz.prog 59 #[.agg #[nv, fv], .agg #[.int .i64 4, .int .i64 dk, .int .i64 dn, .int .i64 dt, .int .i64 dm, .int .i64 at0, .int .i64 bt0, .int .i64 c]] w (NetSaid base base nds (sent fl (RW fl at0)) (decide (fl.length < 30)) w) := by
  have _u1 := hnw; have _u2 := hxl; have _u3 := hn2; have _u4 := hnf
  have hm := hN.size
  have hle := hN.le
  obtain ⟨gd, cn, rfl, -, -⟩ := hN.nodes.own.ptr (by omega)
  obtain ⟨gf, cf, rfl, hgf, curf, hbf⟩ := hN.letters.own.ptr (by omega)
  obtain ⟨af2, cf2, hfe, hrw, -⟩ := hN.letters.own.rows hfw
  cases hfe
  have hf1 := hrw.hcap; have hf2 := hrw.hmax
  unfold maxLen at hf2
  clear hrw
  obtain ⟨w0, hw0⟩ : ∃ x, x = w.alloc (.cells #[.slice (some ⟨gd, 0, none⟩) nds.length cn, .slice (some ⟨gf, 0, none⟩) fl.length cf] 33) := ⟨_, rfl⟩
  obtain ⟨w00, hw00⟩ : ∃ x, x = w0.alloc (.cells #[.int .i64 4, .int .i64 dk, .int .i64 dn, .int .i64 dt, .int .i64 dm, .int .i64 at0, .int .i64 bt0, .int .i64 c] 62) := ⟨_, rfl⟩
  obtain ⟨wb, hwb⟩ : ∃ wb, wb = ((w.alloc (.cells #[.slice (some ⟨gd, 0, none⟩) nds.length cn, .slice (some ⟨gf, 0, none⟩) fl.length cf] 33)).alloc (.cells #[.int .i64 4, .int .i64 dk, .int .i64 dn, .int .i64 dt, .int .i64 dm, .int .i64 at0, .int .i64 bt0, .int .i64 c] 62)).alloc (.cells #[.slice none 0 0, .slice none 0 0] 33) := ⟨_, rfl⟩
  obtain ⟨gn, hgn0⟩ : ∃ g, g = w.heap.size := ⟨_, rfl⟩
  obtain ⟨gs, hgs0⟩ : ∃ g, g = w.heap.size + 1 := ⟨_, rfl⟩
  obtain ⟨gr, hgr0⟩ : ∃ gr, gr = w.heap.size + 1 + 1 := ⟨_, rfl⟩
  have hnet : Blk wb gn 33 #[.slice (some ⟨gd, 0, none⟩) nds.length cn, .slice (some ⟨gf, 0, none⟩) fl.length cf] := by rw [hwb, hgn0]; exact ((Blk.new _ _ _).alloc _).alloc _
  have hstp : Blk wb gs 62 #[.int .i64 4, .int .i64 dk, .int .i64 dn, .int .i64 dt, .int .i64 dm, .int .i64 at0, .int .i64 bt0, .int .i64 c] := by
    have h := Blk.new w0 62 #[.int .i64 4, .int .i64 dk, .int .i64 dn, .int .i64 dt, .int .i64 dm, .int .i64 at0, .int .i64 bt0, .int .i64 c]
    have h1 : w0.heap.size = w.heap.size + 1 := by rw [hw0]; simp
    rw [h1] at h
    rw [hwb, hgs0, ← hw0]
    exact h.alloc _
  have hres : Blk wb gr 33 #[.slice none 0 0, .slice none 0 0] := by
    have h := Blk.new w00 33 #[.slice none 0 0, .slice none 0 0]
    have h1 : w00.heap.size = w.heap.size + 1 + 1 := by rw [hw00, hw0]; simp
    rw [h1] at h
    rw [hwb, hgr0, ← hw0, ← hw00]
    exact h
  have hb0 : Below w.heap.size w wb := by
    rw [hwb]
    exact (((Below.refl _ _).alloc (Nat.le_refl _) _).alloc (by simp) _).alloc (by simp; omega) _
  have hgrb : base ≤ gr := by omega
  have hgrw : w.heap.size ≤ gr := by omega
  have hngr : gn ≠ gr := by omega
  have hsgr : gs ≠ gr := by omega
  have hs0 := hb0.size
  have hN0 := hN.below hb0
  have hbB : Below base w wb := hb0.mono (by omega)
  have hK0 : KeepNet w wb := KeepNet.of_below hb0
  have d0 := hnet.cell 0; have d1 := hnet.cell 1
  have s0 := hstp.cell 0; have s5 := hstp.cell 5; have s6 := hstp.cell 6; have s7 := hstp.cell 7
  have i0 : (0 : Int) ≤ at0 := by omega
  have i1 : (at0 : Int) < fl.length := by omega
  clear hw0 hw00
  go_enter Tryz.func59, Tryz.ntmps59
  go_upto_region 1 with fail
  rw [← hwb, ← hgr0, ← hgs0, ← hgn0]
  clear hwb hgr0 hgs0 hgn0
  go_upto_region 5 with fail
  clear d0 d1 s0 s5 s6 s7
  refine wp_region_held_drew (S := (fun w' => w'.cell? ⟨gn, 0, none⟩ = some (.slice (some ⟨gd, 0, none⟩) nds.length cn) ∧ w'.cell? ⟨gn, 1, none⟩ = some (.slice (some ⟨gf, 0, none⟩) fl.length cf) ∧ w'.cell? ⟨gs, 5, none⟩ = some (.int .i64 at0))) (by kernel_rfl) ⟨(hnet.drewN 1).cell 0, (hnet.drewN 1).cell 1, (hstp.drewN 1).cell 5⟩ (fun hHeld => ?_)
  obtain ⟨W0, hW0⟩ : ∃ x, x = wb.drew := ⟨_, rfl⟩
  have hbW : Below wb.heap.size wb W0 := by rw [hW0]; exact (Below.refl _ _).drew
  rw [← hW0] at hHeld ⊢
  clear hW0
  have hnet0 := hnet.below hbW hnet.lt
  have hres0 := hres.below hbW hres.lt
  have hstp0 := hstp.below hbW hstp.lt
  have hNW := hN0.below hbW
  obtain ⟨lv, hlc, hlo⟩ := hNW.letters.own.letter at0 hat
  obtain ⟨la, lc, rfl⟩ := hlo.slice
  obtain ⟨la2, lc2, hle2, hli, hlz⟩ := hlo.ints' (hfw.at at0 hat)
  cases hle2
  refine tk (i := 0) (v := ?vf0) rfl (by kernel_rfl) (fun _ _ _ h => h) (Or.inl ⟨by rfl, ?hyf0⟩) (by assumption) ?rf0
  case hyf0 => (intro w hSw; (try dsimp only at hSw); go_simp; try with_reducible rfl)
  try simp only [Act.put, qGa, qGb, qGc, qSa, qSb, qSc]
  refine tk (i := 1) (v := ?vf1) rfl (by kernel_rfl) (fun _ _ _ h => h) (Or.inl ⟨by rfl, ?hyf1⟩) (by assumption) ?rf1
  case hyf1 => (intro w hSw; (try dsimp only at hSw); go_simp; try with_reducible rfl)
  try simp only [Act.put, qGa, qGb, qGc, qSa, qSb, qSc]
  refine tk (i := 2) (v := ?vf2) rfl (by kernel_rfl) (fun _ _ _ h => h) (Or.inl ⟨by rfl, ?hyf2⟩) (by assumption) ?rf2
  case hyf2 => (intro w hSw; (try dsimp only at hSw); go_simp; try with_reducible rfl)
  try simp only [Act.put, qGa, qGb, qGc, qSa, qSb, qSc]
  refine tk (i := 3) (v := ?vf3) rfl (by kernel_rfl) (fun _ _ _ h => h) (Or.inl ⟨by rfl, ?hyf3⟩) (by assumption) ?rf3
  case hyf3 => (intro w hSw; (try dsimp only at hSw); go_simp; try with_reducible rfl)
  try simp only [Act.put, qGa, qGb, qGc, qSa, qSb, qSc]
  refine tk (i := 4) (v := ?vf4) rfl (by kernel_rfl) (fun _ _ _ h => h) (Or.inl ⟨by rfl, ?hyf4⟩) (by assumption) ?rf4
  case hyf4 => (intro w hSw; (try dsimp only at hSw); go_simp; try with_reducible rfl)
  try simp only [Act.put, qGa, qGb, qGc, qSa, qSb, qSc]
  refine tk (i := 5) (v := ?vf5) rfl (by kernel_rfl) (fun _ _ _ h => h) (Or.inl ⟨by rfl, ?hyf5⟩) (by assumption) ?rf5
  case hyf5 => (intro w hSw; (try dsimp only at hSw); go_simp; try with_reducible rfl)
  try simp only [Act.put, qGa, qGb, qGc, qSa, qSb, qSc]
  refine wpAnyH_ready (rs := [6]) (by kernel_rfl) (by simp) ?_
  refine AllReadyH.cons rfl (fun Ka hKa => ?_) AllReadyH.nil
  go_simp
  refine hKa.out _ _ ⟨(hnet0).cell 0, (hnet0).cell 1, (hstp0).cell 5⟩ (fun hHeld => ?_)
  clear hKa Ka
  try simp only [Act.put, qGa, qGb, qGc, qSa, qSb, qSc]
  refine wpAnyH_ready (rs := [7]) (by kernel_rfl) (by simp) ?_
  refine AllReadyH.cons rfl (fun Kb hKb => ?_) AllReadyH.nil
  go_simp
  refine (l16Send_any base mid W0.heap.size nds fl _ _ la (RW fl at0).length lc (RW fl at0) W0 hNW hnw hfw hli (Nat.le_refl _) hlz hxl).mono ?_
  rintro e w1 ⟨v, rfl, ⟨nv1, fv1, rfl, q1, q2⟩, hb1, hk1⟩
  obtain ⟨fl1, hfl1⟩ : ∃ x, sent fl (RW fl at0) = x := ⟨_, rfl⟩
  rw [hfl1] at q2
  obtain ⟨a1, k1, rfl⟩ := q1.slice
  obtain ⟨a2, k2, rfl⟩ := q2.slice
  have hnet1 := hk1.net hnet0
  have hstp1 := hk1.stp hstp0
  have hres1 := hk1.net hres0
  have hbel1 := hbB.trans ((hbW.mono (by omega)).trans (hb1.mono hle))
  have hkn1 := (hK0.trans (KeepNet.of_below hbW)).trans hk1
  obtain ⟨is, his⟩ : ∃ x, decide (fl.length < 30) = x := ⟨_, rfl⟩
  rw [his]
  have HFL := Lib.hid hfl1; have HIS := Lib.hid his; clear hfl1 his
  go_wp2_with fail
  refine hKb.out _ _ ⟨(hnet1).cell 0, (hnet1).cell 1, (hstp1).cell 5⟩ (fun hHeld => ?_)
  clear hKb Kb
  try simp only [Act.put, qGa, qGb, qGc, qSa, qSb, qSc]
  refine tk (i := 8) (v := ?vg8) rfl (by kernel_rfl) (fun _ _ _ h => h) (Or.inl ⟨by rfl, ?hyg8⟩) (by assumption) ?rg8
  case hyg8 => (intro w hSw; (try dsimp only at hSw); go_simp; try with_reducible rfl)
  try simp only [Act.put, qGa, qGb, qGc, qSa, qSb, qSc]
  refine tk (i := 9) (v := ?vg9) rfl (by kernel_rfl) (fun _ _ _ h => h) (Or.inl ⟨by rfl, ?hyg9⟩) (by assumption) ?rg9
  case hyg9 => (intro w hSw; (try dsimp only at hSw); go_simp; try with_reducible rfl)
  try simp only [Act.put, qGa, qGb, qGc, qSa, qSb, qSc]
  have z0 := hres1.cell 0; have z1 := hres1.cell 1
  have y0 := hres1.frozen 0; have y1 := hres1.frozen 1
  have hZ := Blk.set2 hres1 (.slice a1 nds.length k1) (.slice a2 fl1.length k2)
  have hBZ := hbel1.set2 hgrb (.slice a1 nds.length k1) (.slice a2 fl1.length k2)
  have hOZ := Only.set2 gr w1 (.slice a1 nds.length k1) (.slice a2 fl1.length k2)
  have p0 := hZ.cell 0; have p1 := hZ.cell 1
  have hnetZ := hnet1.keeps hOZ.keeps hngr
  have hstpZ := hstp1.keeps hOZ.keeps hsgr
  have HQ1 := Lib.hid (OwnNds.off q1 hres1 hOZ.keeps (by decide) (by decide) (by decide) (by decide))
  have HQ2 := Lib.hid (OwnRows.off q2 hres1 hOZ.keeps (by decide) (by decide))
  have HBZ := Lib.hid hBZ
  have HKN := Lib.hid ((hkn1.set_ (p := ⟨gr, 0, none⟩) (by show w.heap.size ≤ gr; omega) (.slice a1 nds.length k1)).set_ (p := ⟨gr, 1, none⟩) (by show w.heap.size ≤ gr; omega) (.slice a2 fl1.length k2))
  clear hBZ hOZ q1 q2
  refine wpAnyH_ready (rs := [10]) (by kernel_rfl) (by simp) ?_
  refine AllReadyH.cons rfl (fun Kc hKc => ?_) AllReadyH.nil
  go_simp
  refine hKc.out _ _ ⟨(hnetZ).cell 0, (hnetZ).cell 1, (hstpZ).cell 5⟩ (fun hHeld => ?_)
  clear hKc Kc
  try simp only [Act.put, qGa, qGb, qGc, qSa, qSb, qSc]
  refine tk (i := 11) (v := ?vh11) rfl (by kernel_rfl) (fun _ _ _ h => h) (Or.inl ⟨by rfl, ?hyh11⟩) (by assumption) ?rh11
  case hyh11 => (intro w hSw; (try dsimp only at hSw); go_simp; try with_reducible rfl)
  try simp only [Act.put, qGa, qGb, qGc, qSa, qSb, qSc]
  refine wpAnyH_done (by kernel_rfl) ?_ _
  go_wp2_with fail
  refine bodyPost_ret (v := .tuple #[.agg #[.slice a1 nds.length k1, .slice a2 fl1.length k2], .bool is]) (by simp [results, Tryz.results59, go_sem, p0, p1]) rfl ?_
  exact ⟨_, by rw [HIS.out], ⟨_, _, rfl, HQ1.out, by rw [HFL.out]; exact HQ2.out⟩, HBZ.out, HKN.out⟩
set_option linter.unusedSimpArgs false in
set_option maxHeartbeats 8000000 in
set_option maxRecDepth 100000 in
theorem letter_lose (base mid : Nat) (nds : List Nd) (fl : List (List Int)) (nv fv : Value) (dk dn dt dm c : Int) (at0 bt0 : Nat) (w : World) (hN : NetOwn base mid nds fl w nv fv) (hnw : AllN nds) (hfw : AllR fl) (hn1 : 1 ≤ nds.length) (hn2 : nds.length ≤ 1048576) (hat : at0 < fl.length) (hnf : fl.length ≤ 1048576) (hxl : (RW fl at0).length ≤ 1048576) :
    Calls Tryz.prog 59 #[.agg #[nv, fv], .agg #[.int .i64 5, .int .i64 dk, .int .i64 dn, .int .i64 dt, .int .i64 dm, .int .i64 at0, .int .i64 bt0, .int .i64 c]] w (NetSaid base base nds (fl.eraseIdx at0) true w) := by
  have _u1 := hnw; have _u2 := hxl; have _u3 := hn2; have _u4 := hnf
  have hm := hN.size
  have hle := hN.le
  obtain ⟨gd, cn, rfl, -, -⟩ := hN.nodes.own.ptr (by omega)
  obtain ⟨gf, cf, rfl, hgf, curf, hbf⟩ := hN.letters.own.ptr (by omega)
  obtain ⟨af2, cf2, hfe, hrw, -⟩ := hN.letters.own.rows hfw
  cases hfe
  have hf1 := hrw.hcap; have hf2 := hrw.hmax
  unfold maxLen at hf2
  clear hrw
  obtain ⟨w0, hw0⟩ : ∃ x, x = w.alloc (.cells #[.slice (some ⟨gd, 0, none⟩) nds.length cn, .slice (some ⟨gf, 0, none⟩) fl.length cf] 33) := ⟨_, rfl⟩
  obtain ⟨w00, hw00⟩ : ∃ x, x = w0.alloc (.cells #[.int .i64 5, .int .i64 dk, .int .i64 dn, .int .i64 dt, .int .i64 dm, .int .i64 at0, .int .i64 bt0, .int .i64 c] 62) := ⟨_, rfl⟩
  obtain ⟨wb, hwb⟩ : ∃ wb, wb = ((w.alloc (.cells #[.slice (some ⟨gd, 0, none⟩) nds.length cn, .slice (some ⟨gf, 0, none⟩) fl.length cf] 33)).alloc (.cells #[.int .i64 5, .int .i64 dk, .int .i64 dn, .int .i64 dt, .int .i64 dm, .int .i64 at0, .int .i64 bt0, .int .i64 c] 62)).alloc (.cells #[.slice none 0 0, .slice none 0 0] 33) := ⟨_, rfl⟩
  obtain ⟨gn, hgn0⟩ : ∃ g, g = w.heap.size := ⟨_, rfl⟩
  obtain ⟨gs, hgs0⟩ : ∃ g, g = w.heap.size + 1 := ⟨_, rfl⟩
  obtain ⟨gr, hgr0⟩ : ∃ gr, gr = w.heap.size + 1 + 1 := ⟨_, rfl⟩
  have hnet : Blk wb gn 33 #[.slice (some ⟨gd, 0, none⟩) nds.length cn, .slice (some ⟨gf, 0, none⟩) fl.length cf] := by rw [hwb, hgn0]; exact ((Blk.new _ _ _).alloc _).alloc _
  have hstp : Blk wb gs 62 #[.int .i64 5, .int .i64 dk, .int .i64 dn, .int .i64 dt, .int .i64 dm, .int .i64 at0, .int .i64 bt0, .int .i64 c] := by
    have h := Blk.new w0 62 #[.int .i64 5, .int .i64 dk, .int .i64 dn, .int .i64 dt, .int .i64 dm, .int .i64 at0, .int .i64 bt0, .int .i64 c]
    have h1 : w0.heap.size = w.heap.size + 1 := by rw [hw0]; simp
    rw [h1] at h
    rw [hwb, hgs0, ← hw0]
    exact h.alloc _
  have hres : Blk wb gr 33 #[.slice none 0 0, .slice none 0 0] := by
    have h := Blk.new w00 33 #[.slice none 0 0, .slice none 0 0]
    have h1 : w00.heap.size = w.heap.size + 1 + 1 := by rw [hw00, hw0]; simp
    rw [h1] at h
    rw [hwb, hgr0, ← hw0, ← hw00]
    exact h
  have hb0 : Below w.heap.size w wb := by
    rw [hwb]
    exact (((Below.refl _ _).alloc (Nat.le_refl _) _).alloc (by simp) _).alloc (by simp; omega) _
  have hgrb : base ≤ gr := by omega
  have hgrw : w.heap.size ≤ gr := by omega
  have hngr : gn ≠ gr := by omega
  have hsgr : gs ≠ gr := by omega
  have hs0 := hb0.size
  have hN0 := hN.below hb0
  have hbB : Below base w wb := hb0.mono (by omega)
  have hK0 : KeepNet w wb := KeepNet.of_below hb0
  have d0 := hnet.cell 0; have d1 := hnet.cell 1
  have s0 := hstp.cell 0; have s5 := hstp.cell 5; have s6 := hstp.cell 6; have s7 := hstp.cell 7
  have i0 : (0 : Int) ≤ at0 := by omega
  have i1 : (at0 : Int) < fl.length := by omega
  clear hw0 hw00
  go_enter Tryz.func59, Tryz.ntmps59
  go_upto_region 1 with fail
  rw [← hwb, ← hgr0, ← hgs0, ← hgn0]
  clear hwb hgr0 hgs0 hgn0
  go_wp2_with fail
  refine (l16Off_any base nds fl _ _ at0 wb hN0.nodes.own (OwnRows.mono hN0.letters.own hle) (by omega) hfw hat hnf).mono ?_
  rintro e w1 ⟨v, rfl, ⟨nv1, fv1, rfl, q1, q2⟩, hb1⟩
  obtain ⟨a1, k1, rfl⟩ := q1.slice
  obtain ⟨a2, k2, rfl⟩ := q2.slice
  have hres1 := hres.below hb1 hres.lt
  have hbel1 := hbB.trans (hb1.mono (by omega))
  have hkn1 := hK0.trans (KeepNet.of_below hb1)
  clear d0 d1 s0 s5 s6 s7
  have z0 := hres1.cell 0; have z1 := hres1.cell 1
  have y0 := hres1.frozen 0; have y1 := hres1.frozen 1
  have hZ := Blk.set2 hres1 (.slice a1 nds.length k1) (.slice a2 (fl.eraseIdx at0).length k2)
  have hBZ := hbel1.set2 hgrb (.slice a1 nds.length k1) (.slice a2 (fl.eraseIdx at0).length k2)
  have hOZ := Only.set2 gr w1 (.slice a1 nds.length k1) (.slice a2 (fl.eraseIdx at0).length k2)
  have p0 := hZ.cell 0; have p1 := hZ.cell 1
  have HQ1 := Lib.hid (OwnNds.off q1 hres1 hOZ.keeps (by decide) (by decide) (by decide) (by decide))
  have HQ2 := Lib.hid (OwnRows.off q2 hres1 hOZ.keeps (by decide) (by decide))
  have HBZ := Lib.hid hBZ
  have HKN := Lib.hid ((hkn1.set_ (p := ⟨gr, 0, none⟩) (by show w.heap.size ≤ gr; omega) (.slice a1 nds.length k1)).set_ (p := ⟨gr, 1, none⟩) (by show w.heap.size ≤ gr; omega) (.slice a2 (fl.eraseIdx at0).length k2))
  clear hBZ hZ hOZ q1 q2
  go_wp2_with fail
  refine bodyPost_ret (v := .tuple #[.agg #[.slice a1 nds.length k1, .slice a2 (fl.eraseIdx at0).length k2], .bool true]) (by simp [results, Tryz.results59, go_sem, p0, p1]) rfl ?_
  exact ⟨_, rfl, ⟨_, _, rfl, HQ1.out, HQ2.out⟩, HBZ.out, HKN.out⟩
set_option linter.unusedSimpArgs false in
set_option maxHeartbeats 8000000 in
set_option maxRecDepth 100000 in
theorem letter_no (base mid : Nat) (nds : List Nd) (fl : List (List Int)) (nv fv : Value) (k dk dn dt dm c : Int) (at0 bt0 : Nat) (w : World) (hN : NetOwn base mid nds fl w nv fv) (hnw : AllN nds) (hfw : AllR fl) (hn1 : 1 ≤ nds.length) (hn2 : nds.length ≤ 1048576) (hat : at0 < fl.length) (hnf : fl.length ≤ 1048576) (hxl : (RW fl at0).length ≤ 1048576) (hk : ¬ k = 3 ∧ ¬ k = 4 ∧ ¬ k = 5) (hlt : (RW fl at0).length ≤ bt0) :
    Calls Tryz.prog 59 #[.agg #[nv, fv], .agg #[.int .i64 k, .int .i64 dk, .int .i64 dn, .int .i64 dt, .int .i64 dm, .int .i64 at0, .int .i64 bt0, .int .i64 c]] w (NetSaid base base nds fl false w) := by
  have _u1 := hnw; have _u2 := hxl; have _u3 := hn2; have _u4 := hnf
  have hm := hN.size
  have hle := hN.le
  obtain ⟨gd, cn, rfl, -, -⟩ := hN.nodes.own.ptr (by omega)
  obtain ⟨gf, cf, rfl, hgf, curf, hbf⟩ := hN.letters.own.ptr (by omega)
  obtain ⟨af2, cf2, hfe, hrw, -⟩ := hN.letters.own.rows hfw
  cases hfe
  have hf1 := hrw.hcap; have hf2 := hrw.hmax
  unfold maxLen at hf2
  clear hrw
  obtain ⟨w0, hw0⟩ : ∃ x, x = w.alloc (.cells #[.slice (some ⟨gd, 0, none⟩) nds.length cn, .slice (some ⟨gf, 0, none⟩) fl.length cf] 33) := ⟨_, rfl⟩
  obtain ⟨w00, hw00⟩ : ∃ x, x = w0.alloc (.cells #[.int .i64 k, .int .i64 dk, .int .i64 dn, .int .i64 dt, .int .i64 dm, .int .i64 at0, .int .i64 bt0, .int .i64 c] 62) := ⟨_, rfl⟩
  obtain ⟨wb, hwb⟩ : ∃ wb, wb = ((w.alloc (.cells #[.slice (some ⟨gd, 0, none⟩) nds.length cn, .slice (some ⟨gf, 0, none⟩) fl.length cf] 33)).alloc (.cells #[.int .i64 k, .int .i64 dk, .int .i64 dn, .int .i64 dt, .int .i64 dm, .int .i64 at0, .int .i64 bt0, .int .i64 c] 62)).alloc (.cells #[.slice none 0 0, .slice none 0 0] 33) := ⟨_, rfl⟩
  obtain ⟨gn, hgn0⟩ : ∃ g, g = w.heap.size := ⟨_, rfl⟩
  obtain ⟨gs, hgs0⟩ : ∃ g, g = w.heap.size + 1 := ⟨_, rfl⟩
  obtain ⟨gr, hgr0⟩ : ∃ gr, gr = w.heap.size + 1 + 1 := ⟨_, rfl⟩
  have hnet : Blk wb gn 33 #[.slice (some ⟨gd, 0, none⟩) nds.length cn, .slice (some ⟨gf, 0, none⟩) fl.length cf] := by rw [hwb, hgn0]; exact ((Blk.new _ _ _).alloc _).alloc _
  have hstp : Blk wb gs 62 #[.int .i64 k, .int .i64 dk, .int .i64 dn, .int .i64 dt, .int .i64 dm, .int .i64 at0, .int .i64 bt0, .int .i64 c] := by
    have h := Blk.new w0 62 #[.int .i64 k, .int .i64 dk, .int .i64 dn, .int .i64 dt, .int .i64 dm, .int .i64 at0, .int .i64 bt0, .int .i64 c]
    have h1 : w0.heap.size = w.heap.size + 1 := by rw [hw0]; simp
    rw [h1] at h
    rw [hwb, hgs0, ← hw0]
    exact h.alloc _
  have hres : Blk wb gr 33 #[.slice none 0 0, .slice none 0 0] := by
    have h := Blk.new w00 33 #[.slice none 0 0, .slice none 0 0]
    have h1 : w00.heap.size = w.heap.size + 1 + 1 := by rw [hw00, hw0]; simp
    rw [h1] at h
    rw [hwb, hgr0, ← hw0, ← hw00]
    exact h
  have hb0 : Below w.heap.size w wb := by
    rw [hwb]
    exact (((Below.refl _ _).alloc (Nat.le_refl _) _).alloc (by simp) _).alloc (by simp; omega) _
  have hgrb : base ≤ gr := by omega
  have hgrw : w.heap.size ≤ gr := by omega
  have hngr : gn ≠ gr := by omega
  have hsgr : gs ≠ gr := by omega
  have hs0 := hb0.size
  have hN0 := hN.below hb0
  have hbB : Below base w wb := hb0.mono (by omega)
  have hK0 : KeepNet w wb := KeepNet.of_below hb0
  have d0 := hnet.cell 0; have d1 := hnet.cell 1
  have s0 := hstp.cell 0; have s5 := hstp.cell 5; have s6 := hstp.cell 6; have s7 := hstp.cell 7
  have i0 : (0 : Int) ≤ at0 := by omega
  have i1 : (at0 : Int) < fl.length := by omega
  clear hw0 hw00
  go_enter Tryz.func59, Tryz.ntmps59
  go_upto_region 1 with fail
  rw [← hwb, ← hgr0, ← hgs0, ← hgn0]
  clear hwb hgr0 hgs0 hgn0
  obtain ⟨hk3, hk4, hk5⟩ := hk
  obtain ⟨lv, hlc, hlo⟩ := hN0.letters.own.letter at0 hat
  obtain ⟨la, lc, rfl⟩ := hlo.slice
  have j0 : (((RW fl at0).length : Nat) : Int) ≤ bt0 := by omega
  obtain ⟨lm, hlm⟩ : ∃ m, (RW fl at0).length = m := ⟨_, rfl⟩
  rw [hlm] at hlc j0 hxl
  clear hlm
  go_upto_region 8 with fail
  clear s0
  go_quiet (fail)
  rename_i nq
  obtain ⟨wq, hwq⟩ : ∃ x, x = wb.drewN nq := ⟨_, rfl⟩
  rw [← hwq]
  have hbq : Below wb.heap.size wb wq := by rw [hwq]; exact (Drew.one wb nq).below _
  clear hwq d0 d1 s5 s6 s7
  have hnetq := hnet.below hbq hnet.lt
  have hresq := hres.below hbq hres.lt
  have hNq := hN0.below hbq
  have q1 := hNq.nodes.own
  have q2 := OwnRows.mono hNq.letters.own hle
  have hbel1 := hbB.trans (hbq.mono (by omega))
  have hkn1 := hK0.trans (KeepNet.of_below hbq)
  have d0 := hnetq.cell 0; have d1 := hnetq.cell 1
  have z0 := hresq.cell 0; have z1 := hresq.cell 1
  have y0 := hresq.frozen 0; have y1 := hresq.frozen 1
  have hZ := Blk.set2 hresq (.slice (some ⟨gd, 0, none⟩) nds.length cn) (.slice (some ⟨gf, 0, none⟩) fl.length cf)
  have hBZ := hbel1.set2 hgrb (.slice (some ⟨gd, 0, none⟩) nds.length cn) (.slice (some ⟨gf, 0, none⟩) fl.length cf)
  have hOZ := Only.set2 gr wq (.slice (some ⟨gd, 0, none⟩) nds.length cn) (.slice (some ⟨gf, 0, none⟩) fl.length cf)
  have p0 := hZ.cell 0; have p1 := hZ.cell 1
  have HQ1 := Lib.hid (OwnNds.off q1 hresq hOZ.keeps (by decide) (by decide) (by decide) (by decide))
  have HQ2 := Lib.hid (OwnRows.off q2 hresq hOZ.keeps (by decide) (by decide))
  have HBZ := Lib.hid hBZ
  have HKN := Lib.hid ((hkn1.set_ (p := ⟨gr, 0, none⟩) (by show w.heap.size ≤ gr; omega) (.slice (some ⟨gd, 0, none⟩) nds.length cn)).set_ (p := ⟨gr, 1, none⟩) (by show w.heap.size ≤ gr; omega) (.slice (some ⟨gf, 0, none⟩) fl.length cf))
  clear hBZ hZ hOZ q1 q2
  go_wp2_with fail
  refine bodyPost_ret (v := .tuple #[.agg #[.slice (some ⟨gd, 0, none⟩) nds.length cn, .slice (some ⟨gf, 0, none⟩) fl.length cf], .bool false]) (by simp [results, Tryz.results59, go_sem, p0, p1]) rfl ?_
  exact ⟨_, rfl, ⟨_, _, rfl, HQ1.out, HQ2.out⟩, HBZ.out, HKN.out⟩
set_option linter.unusedSimpArgs false in
set_option maxHeartbeats 8000000 in
set_option maxRecDepth 100000 in
theorem letter_bend (base mid : Nat) (nds : List Nd) (fl : List (List Int)) (nv fv : Value) (k dk dn dt dm c : Int) (at0 bt0 : Nat) (w : World) (hN : NetOwn base mid nds fl w nv fv) (hnw : AllN nds) (hfw : AllR fl) (hn1 : 1 ≤ nds.length) (hn2 : nds.length ≤ 1048576) (hat : at0 < fl.length) (hnf : fl.length ≤ 1048576) (hxl : (RW fl at0).length ≤ 1048576) (hk : ¬ k = 3 ∧ ¬ k = 4 ∧ ¬ k = 5) (hlt : bt0 < (RW fl at0).length) :
    Calls Tryz.prog 59 #[.agg #[nv, fv], .agg #[.int .i64 k, .int .i64 dk, .int .i64 dn, .int .i64 dt, .int .i64 dm, .int .i64 at0, .int .i64 bt0, .int .i64 c]] w (NetSaid base base nds (fl.set at0 (bendAt (RW fl at0) bt0 c)) true w) := by
  have _u1 := hnw; have _u2 := hxl; have _u3 := hn2; have _u4 := hnf
  have hm := hN.size
  have hle := hN.le
  obtain ⟨gd, cn, rfl, -, -⟩ := hN.nodes.own.ptr (by omega)
  obtain ⟨gf, cf, rfl, hgf, curf, hbf⟩ := hN.letters.own.ptr (by omega)
  obtain ⟨af2, cf2, hfe, hrw, -⟩ := hN.letters.own.rows hfw
  cases hfe
  have hf1 := hrw.hcap; have hf2 := hrw.hmax
  unfold maxLen at hf2
  clear hrw
  obtain ⟨w0, hw0⟩ : ∃ x, x = w.alloc (.cells #[.slice (some ⟨gd, 0, none⟩) nds.length cn, .slice (some ⟨gf, 0, none⟩) fl.length cf] 33) := ⟨_, rfl⟩
  obtain ⟨w00, hw00⟩ : ∃ x, x = w0.alloc (.cells #[.int .i64 k, .int .i64 dk, .int .i64 dn, .int .i64 dt, .int .i64 dm, .int .i64 at0, .int .i64 bt0, .int .i64 c] 62) := ⟨_, rfl⟩
  obtain ⟨wb, hwb⟩ : ∃ wb, wb = ((w.alloc (.cells #[.slice (some ⟨gd, 0, none⟩) nds.length cn, .slice (some ⟨gf, 0, none⟩) fl.length cf] 33)).alloc (.cells #[.int .i64 k, .int .i64 dk, .int .i64 dn, .int .i64 dt, .int .i64 dm, .int .i64 at0, .int .i64 bt0, .int .i64 c] 62)).alloc (.cells #[.slice none 0 0, .slice none 0 0] 33) := ⟨_, rfl⟩
  obtain ⟨gn, hgn0⟩ : ∃ g, g = w.heap.size := ⟨_, rfl⟩
  obtain ⟨gs, hgs0⟩ : ∃ g, g = w.heap.size + 1 := ⟨_, rfl⟩
  obtain ⟨gr, hgr0⟩ : ∃ gr, gr = w.heap.size + 1 + 1 := ⟨_, rfl⟩
  have hnet : Blk wb gn 33 #[.slice (some ⟨gd, 0, none⟩) nds.length cn, .slice (some ⟨gf, 0, none⟩) fl.length cf] := by rw [hwb, hgn0]; exact ((Blk.new _ _ _).alloc _).alloc _
  have hstp : Blk wb gs 62 #[.int .i64 k, .int .i64 dk, .int .i64 dn, .int .i64 dt, .int .i64 dm, .int .i64 at0, .int .i64 bt0, .int .i64 c] := by
    have h := Blk.new w0 62 #[.int .i64 k, .int .i64 dk, .int .i64 dn, .int .i64 dt, .int .i64 dm, .int .i64 at0, .int .i64 bt0, .int .i64 c]
    have h1 : w0.heap.size = w.heap.size + 1 := by rw [hw0]; simp
    rw [h1] at h
    rw [hwb, hgs0, ← hw0]
    exact h.alloc _
  have hres : Blk wb gr 33 #[.slice none 0 0, .slice none 0 0] := by
    have h := Blk.new w00 33 #[.slice none 0 0, .slice none 0 0]
    have h1 : w00.heap.size = w.heap.size + 1 + 1 := by rw [hw00, hw0]; simp
    rw [h1] at h
    rw [hwb, hgr0, ← hw0, ← hw00]
    exact h
  have hb0 : Below w.heap.size w wb := by
    rw [hwb]
    exact (((Below.refl _ _).alloc (Nat.le_refl _) _).alloc (by simp) _).alloc (by simp; omega) _
  have hgrb : base ≤ gr := by omega
  have hgrw : w.heap.size ≤ gr := by omega
  have hngr : gn ≠ gr := by omega
  have hsgr : gs ≠ gr := by omega
  have hs0 := hb0.size
  have hN0 := hN.below hb0
  have hbB : Below base w wb := hb0.mono (by omega)
  have hK0 : KeepNet w wb := KeepNet.of_below hb0
  have d0 := hnet.cell 0; have d1 := hnet.cell 1
  have s0 := hstp.cell 0; have s5 := hstp.cell 5; have s6 := hstp.cell 6; have s7 := hstp.cell 7
  have i0 : (0 : Int) ≤ at0 := by omega
  have i1 : (at0 : Int) < fl.length := by omega
  clear hw0 hw00
  go_enter Tryz.func59, Tryz.ntmps59
  go_upto_region 1 with fail
  rw [← hwb, ← hgr0, ← hgs0, ← hgn0]
  clear hwb hgr0 hgs0 hgn0
  obtain ⟨hk3, hk4, hk5⟩ := hk
  obtain ⟨gl, lc, hlc, hgl, hglw, hcb, hfb, cs, hcs, hbend⟩ := hN0.letters.bend at0 bt0 hat hlt
  have j0 : (0 : Int) ≤ bt0 := by omega
  have j1 : (bt0 : Int) < (RW fl at0).length := by omega
  have hlen := hxl
  obtain ⟨y, hy⟩ : ∃ y, (RW fl at0).getD bt0 0 = y := ⟨_, rfl⟩
  rw [hy] at hcb
  have HY := Lib.hid hy; clear hy
  obtain ⟨lm, hlm⟩ : ∃ m, (RW fl at0).length = m := ⟨_, rfl⟩
  rw [hlm] at hlc j1 hlen
  have HLM := Lib.hid hlm
  clear hlm
  go_upto_region 8 with fail
  clear d0 s0
  go_quiet (fail)
  rename_i nq
  obtain ⟨wq, hwq⟩ : ∃ x, x = wb.drewN nq := ⟨_, rfl⟩
  rw [← hwq]
  have hbq : Below wb.heap.size wb wq := by rw [hwq]; exact (Drew.one wb nq).below _
  clear hwq
  go_upto_region 10 with fail
  clear d1 s5 s6 s7
  have hnetq := hnet.below hbq hnet.lt
  have hstpq := hstp.below hbq hstp.lt
  have hlcq := (hbq.cell (World.block_lt_of_cell? wb _ hlc)).trans hlc
  refine wp_region_held_drew (S := (fun w' => w'.cell? ⟨gn, 1, none⟩ = some (.slice (some ⟨gf, 0, none⟩) fl.length cf) ∧ w'.cell? ⟨gs, 5, none⟩ = some (.int .i64 at0) ∧ w'.cell? ⟨gs, 6, none⟩ = some (.int .i64 bt0) ∧ w'.cell? ⟨gs, 7, none⟩ = some (.int .i64 c) ∧ w'.cell? ⟨gf, at0, none⟩ = some (.slice (some ⟨gl, 0, none⟩) lm lc))) (by kernel_rfl) ⟨(hnetq.drewN 1).cell 1, (hstpq.drewN 1).cell 5, (hstpq.drewN 1).cell 6, (hstpq.drewN 1).cell 7, hlcq⟩ (fun hHeld => ?_)
  obtain ⟨W0, hW0⟩ : ∃ x, x = wq.drew := ⟨_, rfl⟩
  have hbW : Below wb.heap.size wb W0 := by rw [hW0]; exact hbq.drew
  rw [← hW0] at hHeld ⊢
  clear hW0
  have hnet0 := hnet.below hbW hnet.lt
  have hres0 := hres.below hbW hres.lt
  have hstp0 := hstp.below hbW hstp.lt
  have hNW := hN0.below hbW
  have hlc0 := (hbW.cell (World.block_lt_of_cell? wb _ hlc)).trans hlc
  have hcb0 := (hbW.cell (World.block_lt_of_cell? wb _ hcb)).trans hcb
  have hcs0 := hcs.below hbW hcs.lt
  have hgff : gl ≠ gf := hcs.ne (hbf.below hb0 hbf.lt) (by decide)
  have hfb0 := hcs0.frozen bt0
  refine tk (i := 0) (v := ?vf0) rfl (by kernel_rfl) (fun _ _ _ h => h) (Or.inl ⟨by rfl, ?hyf0⟩) (by assumption) ?rf0
  case hyf0 => (intro w hSw; (try dsimp only at hSw); go_simp; try with_reducible rfl)
  try simp only [Act.put, qGa, qGb, qGc, qSa, qSb, qSc]
  refine tk (i := 1) (v := ?vf1) rfl (by kernel_rfl) (fun _ _ _ h => h) (Or.inl ⟨by rfl, ?hyf1⟩) (by assumption) ?rf1
  case hyf1 => (intro w hSw; (try dsimp only at hSw); go_simp; try with_reducible rfl)
  try simp only [Act.put, qGa, qGb, qGc, qSa, qSb, qSc]
  refine tk (i := 2) (v := ?vf2) rfl (by kernel_rfl) (fun _ _ _ h => h) (Or.inl ⟨by rfl, ?hyf2⟩) (by assumption) ?rf2
  case hyf2 => (intro w hSw; (try dsimp only at hSw); go_simp; try with_reducible rfl)
  try simp only [Act.put, qGa, qGb, qGc, qSa, qSb, qSc]
  refine tk (i := 3) (v := ?vf3) rfl (by kernel_rfl) (fun _ _ _ h => h) (Or.inl ⟨by rfl, ?hyf3⟩) (by assumption) ?rf3
  case hyf3 => (intro w hSw; (try dsimp only at hSw); go_simp; try with_reducible rfl)
  try simp only [Act.put, qGa, qGb, qGc, qSa, qSb, qSc]
  refine tk (i := 4) (v := ?vf4) rfl (by kernel_rfl) (fun _ _ _ h => h) (Or.inl ⟨by rfl, ?hyf4⟩) (by assumption) ?rf4
  case hyf4 => (intro w hSw; (try dsimp only at hSw); go_simp; try with_reducible rfl)
  try simp only [Act.put, qGa, qGb, qGc, qSa, qSb, qSc]
  refine tk (i := 5) (v := ?vf5) rfl (by kernel_rfl) (fun _ _ _ h => h) (Or.inl ⟨by rfl, ?hyf5⟩) (by assumption) ?rf5
  case hyf5 => (intro w hSw; (try dsimp only at hSw); go_simp; try with_reducible rfl)
  try simp only [Act.put, qGa, qGb, qGc, qSa, qSb, qSc]
  refine tk (i := 6) (v := ?vf6) rfl (by kernel_rfl) (fun _ _ _ h => h) (Or.inl ⟨by rfl, ?hyf6⟩) (by assumption) ?rf6
  case hyf6 => (intro w hSw; (try dsimp only at hSw); go_simp; try with_reducible rfl)
  try simp only [Act.put, qGa, qGb, qGc, qSa, qSb, qSc]
  refine tk (i := 7) (v := ?vf7) rfl (by kernel_rfl) (fun _ _ _ h => h) (Or.inl ⟨by rfl, ?hyf7⟩) (by assumption) ?rf7
  case hyf7 => (intro w hSw; (try dsimp only at hSw); go_simp; try with_reducible rfl)
  try simp only [Act.put, qGa, qGb, qGc, qSa, qSb, qSc]
  refine tk (i := 8) (v := ?vf8) rfl (by kernel_rfl) (fun _ _ _ h => h) (Or.inl ⟨by rfl, ?hyf8⟩) (by assumption) ?rf8
  case hyf8 => (intro w hSw; (try dsimp only at hSw); go_simp; try with_reducible rfl)
  try simp only [Act.put, qGa, qGb, qGc, qSa, qSb, qSc]
  refine tk (i := 9) (v := ?vf9) rfl (by kernel_rfl) (fun _ _ _ h => h) (Or.inl ⟨by rfl, ?hyf9⟩) (by assumption) ?rf9
  case hyf9 => (intro w hSw; (try dsimp only at hSw); go_simp; try with_reducible rfl)
  try simp only [Act.put, qGa, qGb, qGc, qSa, qSb, qSc]
  refine tk (i := 10) (v := ?vf10) rfl (by kernel_rfl) (fun _ _ _ h => h) (Or.inl ⟨by rfl, ?hyf10⟩) (by assumption) ?rf10
  case hyf10 => (intro w hSw; (try dsimp only at hSw); go_simp; try with_reducible rfl)
  try simp only [Act.put, qGa, qGb, qGc, qSa, qSb, qSc]
  refine tk (i := 11) (v := ?vf11) rfl (by kernel_rfl) (fun _ _ _ h => h) (Or.inl ⟨by rfl, ?hyf11⟩) (by assumption) ?rf11
  case hyf11 => (intro w hSw; (try dsimp only at hSw); go_simp; try with_reducible rfl)
  try simp only [Act.put, qGa, qGb, qGc, qSa, qSb, qSc]
  refine tk (i := 12) (v := ?vf12) rfl (by kernel_rfl) (fun _ _ _ h => h) (Or.inl ⟨by rfl, ?hyf12⟩) (by assumption) ?rf12
  case hyf12 => (intro w hSw; (try dsimp only at hSw); go_simp; try with_reducible rfl)
  try simp only [Act.put, qGa, qGb, qGc, qSa, qSb, qSc]
  refine tk (i := 13) (v := ?vf13) rfl (by kernel_rfl) (fun _ _ _ h => h) (Or.inl ⟨by rfl, ?hyf13⟩) (by assumption) ?rf13
  case hyf13 => (intro w hSw; (try dsimp only at hSw); go_simp; try with_reducible rfl)
  try simp only [Act.put, qGa, qGb, qGc, qSa, qSb, qSc]
  refine tk (i := 14) (v := ?vf14) rfl (by kernel_rfl) (fun _ _ _ h => h) (Or.inl ⟨by rfl, ?hyf14⟩) (by assumption) ?rf14
  case hyf14 => (intro w hSw; (try dsimp only at hSw); go_simp; try with_reducible rfl)
  try simp only [Act.put, qGa, qGb, qGc, qSa, qSb, qSc]
  refine tk (i := 15) (v := ?vf15) rfl (by kernel_rfl) (fun _ _ _ h => h) (Or.inl ⟨by rfl, ?hyf15⟩) (by assumption) ?rf15
  case hyf15 => (intro w hSw; (try dsimp only at hSw); go_simp; try with_reducible rfl)
  try simp only [Act.put, qGa, qGb, qGc, qSa, qSb, qSc]
  refine tk (i := 16) (v := ?vf16) rfl (by kernel_rfl) (fun _ _ _ h => h) (Or.inl ⟨by rfl, ?hyf16⟩) (by assumption) ?rf16
  case hyf16 => (intro w hSw; (try dsimp only at hSw); go_simp; try with_reducible rfl)
  try simp only [Act.put, qGa, qGb, qGc, qSa, qSb, qSc]
  refine tk (i := 18) (v := ?vf18) rfl (by kernel_rfl) (fun _ _ _ h => h) (Or.inl ⟨by rfl, ?hyf18⟩) (by assumption) ?rf18
  case hyf18 => (intro w hSw; (try dsimp only at hSw); go_simp; try with_reducible rfl)
  try simp only [Act.put, qGa, qGb, qGc, qSa, qSb, qSc]
  refine tk (i := 19) (v := ?vf19) rfl (by kernel_rfl) (fun _ _ _ h => h) (Or.inl ⟨by rfl, ?hyf19⟩) (by assumption) ?rf19
  case hyf19 => (intro w hSw; (try dsimp only at hSw); go_simp; try with_reducible rfl)
  try simp only [Act.put, qGa, qGb, qGc, qSa, qSb, qSc]
  refine wpAnyH_ready (rs := [17]) (by kernel_rfl) (by simp) ?_
  refine AllReadyH.cons rfl (fun Ka hKa => ?_) AllReadyH.nil
  go_simp
  refine hKa.out _ _ ⟨(hnet0).cell 1, (hstp0).cell 5, (hstp0).cell 6, (hstp0).cell 7, hlc0⟩ (fun hHeld => ?_)
  clear hKa Ka
  try simp only [Act.put, qGa, qGb, qGc, qSa, qSb, qSc]
  refine tk (i := 20) (v := ?vg20) rfl (by kernel_rfl) (fun _ _ _ h => h) (Or.inl ⟨by rfl, ?hyg20⟩) (by assumption) ?rg20
  case hyg20 => (intro w hSw; (try dsimp only at hSw); go_simp; try with_reducible rfl)
  try simp only [Act.put, qGa, qGb, qGc, qSa, qSb, qSc]
  refine tk (i := 21) (v := ?vg21) rfl (by kernel_rfl) (fun _ _ _ h => h) (Or.inl ⟨by rfl, ?hyg21⟩) (by assumption) ?rg21
  case hyg21 => (intro w hSw; (try dsimp only at hSw); go_simp; try with_reducible rfl)
  try simp only [Act.put, qGa, qGb, qGc, qSa, qSb, qSc]
  obtain ⟨z, hz⟩ : ∃ z, bits .xor .i64 y c = z := ⟨_, rfl⟩
  have HZ := Lib.hid hz; clear hz
  have hO := (Only.refl gl W0).setCell bt0 (.int .i64 z)
  have q2 := (hbend z W0 hbW)
  have hnetZ := hnet0.offT hcs0 hO.keeps (by decide)
  have hstpZ := hstp0.offT hcs0 hO.keeps (by decide)
  have hresZ := hres0.offT hcs0 hO.keeps (by decide)
  have hlcZ : (W0.setCell ⟨gl, bt0, none⟩ (.int .i64 z)).cell? ⟨gf, at0, none⟩ = some (.slice (some ⟨gl, 0, none⟩) lm lc) := by
    rw [World.cell?_setCell_far _ _ _ _ (by show gl ≠ gf; exact hgff)]
    exact hlc0
  have hbZ : Below mid w (W0.setCell ⟨gl, bt0, none⟩ (.int .i64 z)) := ((hb0.mono hm).trans (hbW.mono (by omega))).setCell (p := ⟨gl, bt0, none⟩) hgl _
  have q1 := ((hNW.nodes).lower (((Below.refl mid W0)).setCell (p := ⟨gl, bt0, none⟩) hgl (.int .i64 z)) (Nat.le_refl _)).own
  have hkn1 : KeepNet w (W0.setCell ⟨gl, bt0, none⟩ (.int .i64 z)) := (hK0.trans (KeepNet.of_below hbW)).trans (fun g t cs' ht h => h.offT hcs0 hO.keeps (by rcases ht with rfl | rfl <;> decide))
  refine wpAnyH_ready (rs := [22]) (by kernel_rfl) (by simp) ?_
  refine AllReadyH.cons rfl (fun Kb hKb => ?_) AllReadyH.nil
  go_simp
  rw [HZ.out]
  refine hKb.out _ _ ⟨(hnetZ).cell 1, (hstpZ).cell 5, (hstpZ).cell 6, (hstpZ).cell 7, hlcZ⟩ (fun hHeld => ?_)
  clear hKb Kb
  try simp only [Act.put, qGa, qGb, qGc, qSa, qSb, qSc]
  refine wpAnyH_done (by kernel_rfl) ?_ _
  obtain ⟨WZ, hWZ⟩ : ∃ x, x = W0.setCell ⟨gl, bt0, none⟩ (.int .i64 z) := ⟨_, rfl⟩
  rw [← hWZ] at q1 q2 hnetZ hstpZ hresZ hbZ hkn1 ⊢
  clear hWZ hO hlcZ
  have hbel1 := hbZ.mono hle
  have d0 := hnetZ.cell 0; have d1 := hnetZ.cell 1
  obtain ⟨nf, hnfe⟩ : ∃ x, fl.length = x := ⟨_, rfl⟩
  replace q2 := OwnRows.mono q2 hle
  rw [hnfe] at q2 d1
  have z0 := hresZ.cell 0; have z1 := hresZ.cell 1
  have y0 := hresZ.frozen 0; have y1 := hresZ.frozen 1
  have hZ := Blk.set2 hresZ (.slice (some ⟨gd, 0, none⟩) nds.length cn) (.slice (some ⟨gf, 0, none⟩) nf cf)
  have hBZ := hbel1.set2 hgrb (.slice (some ⟨gd, 0, none⟩) nds.length cn) (.slice (some ⟨gf, 0, none⟩) nf cf)
  have hOZ := Only.set2 gr WZ (.slice (some ⟨gd, 0, none⟩) nds.length cn) (.slice (some ⟨gf, 0, none⟩) nf cf)
  have p0 := hZ.cell 0; have p1 := hZ.cell 1
  have HQ1 := Lib.hid (OwnNds.off q1 hresZ hOZ.keeps (by decide) (by decide) (by decide) (by decide))
  have HQ2 := Lib.hid (OwnRows.off q2 hresZ hOZ.keeps (by decide) (by decide))
  have HBZ := Lib.hid hBZ
  have HKN := Lib.hid ((hkn1.set_ (p := ⟨gr, 0, none⟩) (by show w.heap.size ≤ gr; omega) (.slice (some ⟨gd, 0, none⟩) nds.length cn)).set_ (p := ⟨gr, 1, none⟩) (by show w.heap.size ≤ gr; omega) (.slice (some ⟨gf, 0, none⟩) nf cf))
  clear hBZ hZ hOZ q1 q2
  go_wp2_with fail
  refine bodyPost_ret (v := .tuple #[.agg #[.slice (some ⟨gd, 0, none⟩) nds.length cn, .slice (some ⟨gf, 0, none⟩) nf cf], .bool true]) (by simp [results, Tryz.results59, go_sem, p0, p1]) rfl ?_
  exact ⟨_, rfl, ⟨_, _, rfl, HQ1.out, by unfold bendAt; rw [HY.out, HZ.out]; exact HQ2.out⟩, HBZ.out, HKN.out⟩
end Go.Proofs.YtoniahfdjhhalaaGreat
