/- Texts of this claim, put together. -/
import Derived.Test.YtoniahfdjhhalaaGreatP1
import Derived.Test.YtoniahfdjhhalaaGreatP26

namespace Go.Proofs.YtoniahfdjhhalaaGreat
open Go.RowKit
def RowsAt (C base : Nat) (w : World) (v : Value) (rows : List (List Int)) : Prop :=
  ∃ cells : List Value, w.ownsRow C 78 1 v rows.length cells ∧ ∀ j, j < rows.length → ∃ c, cells[j]? = some c ∧ Own base w c (RW rows j)
theorem rowsAt_empty (base : Nat) (w : World) : RowsAt w.heap.size base (w.alloc (.cells #[] 78)) (.slice (some ⟨w.heap.size, 0, none⟩) 0 0) [] :=
  ⟨[], World.ownsRow_lit w #[] 0 (Nat.le_refl _) (by unfold maxLen; omega) rfl, fun j hj => by simp at hj⟩
theorem RowsAt.slice {C base : Nat} {w : World} {v : Value} {rows : List (List Int)} (h : RowsAt C base w v rows) : ∃ a n c, v = .slice a n c := by
  obtain ⟨cells, h1, _⟩ := h
  rcases h1.2 with ⟨rfl, _⟩ | ⟨g, cap, cur, rfl, _⟩
  · exact ⟨_, _, _, rfl⟩
  · exact ⟨_, _, _, rfl⟩
theorem RowsAt.own {C base : Nat} {w : World} {v : Value} {rows : List (List Int)} (h : RowsAt C base w v rows) (hC : base ≤ C) : OwnRows base w v rows := by
  obtain ⟨cells, h1, h2⟩ := h
  refine ⟨cells, ⟨h1.1, ?_⟩, h2⟩
  rcases h1.2 with h3 | ⟨g, cap, cur, hv, hg, r⟩
  · exact .inl h3
  · exact .inr ⟨g, cap, cur, hv, by omega, r⟩
def Lets (base : Nat) (w : World) (ad : Addr) (n : Nat) (rows : List (List Int)) : Prop := rows.length = n ∧ ∀ j, j < n → ∃ c, w.cell? (ad.add j) = some c ∧ Own base w c (RW rows j)
theorem lets_of {base g n cap : Nat} {w : World} {rows : List (List Int)} (h : OwnRows base w (.slice (some ⟨g, 0, none⟩) n cap) rows) (hn : rows.length = n) : Lets base w ⟨g, 0, none⟩ n rows :=
  ⟨hn, fun j hj => by
    obtain ⟨c, hc, ho⟩ := h.letter j (by omega)
    exact ⟨c, by rw [Addr.add_lit, Nat.zero_add]; exact hc, ho⟩⟩
theorem Lets.take {base g n : Nat} {w : World} {rows : List (List Int)} (h : Lets base w ⟨g, 0, none⟩ n rows) (k : Nat) (hk : k ≤ n) : Lets base w ⟨g, 0, none⟩ k (rows.take k) :=
  ⟨by rw [List.length_take, h.1]; omega, fun j hj => by
    obtain ⟨c, hc, ho⟩ := h.2 j (by omega)
    have : RW (rows.take k) j = RW rows j := by
      rw [RW_get (by rw [List.length_take, h.1]; omega), RW_get (by rw [h.1]; omega), List.getElem_take]
    exact ⟨c, hc, by rw [this]; exact ho⟩⟩
theorem Lets.drop {base g n : Nat} {w : World} {rows : List (List Int)} (h : Lets base w ⟨g, 0, none⟩ n rows) (k : Nat) (hk : k ≤ n) : Lets base w ⟨g, k, none⟩ (n - k) (rows.drop k) :=
  ⟨by rw [List.length_drop, h.1], fun j hj => by
    obtain ⟨c, hc, ho⟩ := h.2 (k + j) (by omega)
    have : RW (rows.drop k) j = RW rows (k + j) := by
      rw [RW_get (by rw [List.length_drop, h.1]; omega), RW_get (by rw [h.1]; omega), List.getElem_drop]
    refine ⟨c, ?_, by rw [this]; exact ho⟩
    rw [Addr.add_lit] at hc ⊢
    rw [← hc, Nat.zero_add]⟩
theorem Lets.none {base : Nat} {w : World} {ad : Addr} : Lets base w ad 0 [] := ⟨rfl, fun j hj => absurd hj (by omega)⟩
theorem Lets.below {base n : Nat} {w w' : World} {ad : Addr} {rows : List (List Int)} (h : Lets base w ad n rows) (hb : Below w.heap.size w w') : Lets base w' ad n rows :=
  ⟨h.1, fun j hj => by
    obtain ⟨c, hc, ho⟩ := h.2 j hj
    exact ⟨c, (hb.cell (World.block_lt_of_cell? w _ hc)).trans hc, ho.below hb (Nat.le_refl _)⟩⟩
theorem stepS_all {ops : Array Oper} {o : Oper} {a : Act} {K : Act → World → Prop} {Q : Exit → Act → World → Prop} {E : Prop} {w : World}
    (hgd : o.guard = none) (s x : Operand) (ho : o.op = .call { callee := .builtin .append, args := #[s, x], argTypes := #[31, 31] })
    (C base : Nat) (v : Value) (rows rows2 : List (List Int)) (ad : Addr) (n cap : Nat) (hs : a.eval s = v) (hx : a.eval x = .slice (some ad) n cap)
    (hown : RowsAt C base w v rows) (hi : Lets base w ad n rows2) (hw2 : AllR rows2) (hbase : C ≤ w.heap.size) (hlen : rows.length + n ≤ 1099511627776)
    (hK : ∀ v' w', RowsAt C base w' v' (rows ++ rows2) → Below C w w' → K (a.put o.dst v') w') :
    if Region.wanted o (yielded ops a.tmps) = true then Oper.wp Tryz.prog o a w K Q else E := by
  have hw : Region.wanted o (yielded ops a.tmps) = true := by simp [Region.wanted, hgd]
  rw [if_pos hw]
  obtain ⟨i0, hi0, hz0, hz1, hz2⟩ := info_parts infoR
  obtain ⟨cells, h1, h2⟩ := hown
  have hlc : cells.length = rows.length := by have := h1.1; omega
  obtain ⟨hn2, hi⟩ := hi
  obtain ⟨news, hnews⟩ : ∃ news, news = (List.range n).map (fun j => (w.cell? (ad.add j)).getD undef) := ⟨_, rfl⟩
  have hnl : news.length = n := by rw [hnews]; simp
  have hget : ∀ j, j < n → ∃ c, news[j]? = some c ∧ w.cell? (ad.add j) = some c ∧ Own base w c (RW rows2 j) := fun j hj => by
    obtain ⟨c, hc, hoc⟩ := hi j hj
    refine ⟨c, ?_, hc, hoc⟩
    rw [hnews]
    simp [hj, hc]
  refine wp_append_own _ s x 31 ho C 78 i0 _ 1 24 Tryz.underlying31 hi0 hz0 hz1 hz2 rfl (by decide) v rows.length cells hs h1
    ad n cap news hx (by omega) ?c1 ?c2 ?c3 ?c4 hbase ?_
  case c1 =>
    intro j u hu
    have hj : j < n := by have := (List.getElem?_eq_some_iff.1 hu).1; omega
    obtain ⟨c, q1, q2, _⟩ := hget j hj
    rw [q1] at hu
    cases hu
    exact q2
  case c2 =>
    intro u hu
    obtain ⟨j, hj, rfl⟩ := List.mem_iff_getElem.1 hu
    obtain ⟨c, q1, _, q3⟩ := hget j (by omega)
    rw [List.getElem?_eq_getElem hj] at q1
    rw [Option.some.inj q1]
    obtain ⟨ao, cap, rfl, _⟩ := q3.ints (hw2.at j (by omega))
    rfl
  case c3 => unfold maxLen; omega
  case c4 => omega
  intro v' w' hown' hgrow _
  have hbel : Below C w w' := (Below.refl C w).grown hgrow hbase (fun k hk => (World.ownsRow.lt h1 k hk).1)
  have hstay : ∀ (cc : Value) (r : List Int), Own base w cc r → Own base w' cc r := fun cc r hh =>
    World.ownsRow.kept hh hgrow (ownsRow_tags hh h1 (by decide))
  refine hK v' w' ⟨cells ++ news, by rw [List.length_append, hn2]; exact hown', fun j hj => ?_⟩ hbel
  rw [List.length_append, hn2] at hj
  by_cases hjl : j < rows.length
  · obtain ⟨c, q1, q2⟩ := h2 j hjl
    refine ⟨c, by rw [List.getElem?_append_left (by omega)]; exact q1, ?_⟩
    have : RW (rows ++ rows2) j = RW rows j := by rw [RW_get (by rw [List.length_append]; omega), RW_get hjl, List.getElem_append_left hjl]
    rw [this]
    exact hstay _ _ q2
  · obtain ⟨c, q1, _, q2⟩ := hget (j - rows.length) (by omega)
    refine ⟨c, by rw [List.getElem?_append_right (by omega), hlc]; exact q1, ?_⟩
    have : RW (rows ++ rows2) j = RW rows2 (j - rows.length) := by rw [RW_get (by rw [List.length_append]; omega), RW_get (by omega), List.getElem_append_right (by omega)]
    rw [this]
    exact hstay _ _ q2
def NetGot (base : Nat) (nds : List Nd) (fl : List (List Int)) (w : World) (e : Ending) (w' : World) : Prop := ∃ v, e = .returned v ∧ NetT base nds fl w' v ∧ Below w.heap.size w w'
set_option linter.unusedSimpArgs false in
set_option maxHeartbeats 8000000 in
set_option maxRecDepth 100000 in
theorem l16Off_any (base : Nat) (nds : List Nd) (fl : List (List Int)) (nv fv : Value) (at0 : Nat) (w : World) (hx : OwnNds base w nv nds) (hy : OwnRows base w fv fl) (hB : base ≤ w.heap.size) (hfw : AllR fl) (hat : at0 < fl.length) (hnf : fl.length ≤ 1048576) :
    Calls Tryz.prog 85 #[.agg #[nv, fv], .int .i64 at0] w (NetGot base nds (fl.eraseIdx at0) w) := by
  obtain ⟨an, cn, rfl⟩ := hx.slice
  obtain ⟨b, cf, rfl, -, -⟩ := hy.ptr (by omega)
  obtain ⟨af2, cf2, hfe, hrw, -⟩ := hy.rows hfw
  cases hfe
  have hf1 := hrw.hcap; have hf2 := hrw.hmax
  unfold maxLen at hf2
  clear hrw
  obtain ⟨nf, hnfe⟩ : ∃ x, fl.length = x := ⟨_, rfl⟩
  obtain ⟨nn, hnne⟩ : ∃ x, nds.length = x := ⟨_, rfl⟩
  rw [hnfe] at hy hat hnf hf1 ⊢
  rw [hnne] at hx ⊢
  have hlets := lets_of hy hnfe
  have hw1 : AllR (fl.take at0) := fun r hr => hfw r (List.mem_of_mem_take hr)
  have hw2 : AllR (fl.drop (at0 + 1)) := fun r hr => hfw r (List.mem_of_mem_drop hr)
  obtain ⟨wb, hwb⟩ : ∃ wb, wb = (w.alloc (.cells #[.slice an nn cn, .slice (some ⟨b, 0, none⟩) nf cf] 33)).alloc (.cells #[.slice none 0 0, .slice none 0 0] 33) := ⟨_, rfl⟩
  obtain ⟨gn, hgn0⟩ : ∃ g, g = w.heap.size := ⟨_, rfl⟩
  obtain ⟨gr, hgr0⟩ : ∃ gr, gr = w.heap.size + 1 := ⟨_, rfl⟩
  have hnet : Blk wb gn 33 #[.slice an nn cn, .slice (some ⟨b, 0, none⟩) nf cf] := by rw [hwb, hgn0]; exact (Blk.new _ _ _).alloc _
  have hres : Blk wb gr 33 #[.slice none 0 0, .slice none 0 0] := by
    rw [hwb, hgr0]
    have h := Blk.new (w.alloc (.cells #[.slice an nn cn, .slice (some ⟨b, 0, none⟩) nf cf] 33)) 33 #[.slice none 0 0, .slice none 0 0]
    simpa using h
  have hb0 : Below w.heap.size w wb := by rw [hwb]; exact ((Below.refl _ _).alloc (Nat.le_refl _) _).alloc (by simp) _
  have hgn : w.heap.size ≤ gn := by omega
  have hgr : w.heap.size ≤ gr := by omega
  have hne : gr ≠ gn := by omega
  have hs0 := hb0.size
  have hsz : wb.heap.size = w.heap.size + 2 := by rw [hwb]; simp
  have i0 : (0 : Int) ≤ at0 := by omega
  have i1 : (at0 : Int) ≤ nf := by omega
  have i2 : (at0 : Int) + 1 ≤ nf := by omega
  have i3 : (nf : Int) ≤ cf := by omega
  have i4 : (at0 : Int) ≤ cf := by omega
  have i5 : (0 : Int) ≤ (at0 : Int) + 1 := by omega
  have e1 : IntKind.i64.wrap ((at0 : Int) + 1) = (at0 : Int) + 1 := by rw [IntKind.wrap_i64]; omega
  have e2 : ((at0 : Int) + 1).toNat = at0 + 1 := by omega
  have hT1 := hlets.take at0 (by omega)
  obtain ⟨ad2, hval, hT2⟩ : ∃ ad2 : Addr, (if cf = at0 + 1 then (some ⟨b, 0, none⟩ : Option Addr) else some ⟨b, at0 + 1, none⟩) = some ad2 ∧ Lets base w ad2 (nf - (at0 + 1)) (fl.drop (at0 + 1)) := by
    by_cases hcp : cf = at0 + 1
    · refine ⟨⟨b, 0, none⟩, if_pos hcp, ?_⟩
      rw [show nf - (at0 + 1) = 0 by omega, List.drop_of_length_le (by omega)]
      exact Lets.none
    · exact ⟨⟨b, at0 + 1, none⟩, if_neg hcp, hlets.drop (at0 + 1) (by omega)⟩
  have HV := Lib.hid hval; clear hval
  go_enter Tryz.func85, Tryz.ntmps85
  go_upto_region 1 with fail
  rw [← hwb, ← hgr0, ← hgn0]
  clear hwb hgr0 hgn0
  refine wp_region_held_drew (S := (fun _ => True)) (by kernel_rfl) trivial (fun hHeld => ?_)
  obtain ⟨W0, hW0⟩ : ∃ x, x = wb.drew := ⟨_, rfl⟩
  have hbW : Below wb.heap.size wb W0 := by rw [hW0]; exact (Below.refl _ _).drew
  rw [← hW0]
  clear hW0
  have hnet0 := hnet.below hbW hnet.lt
  have hres0 := hres.below hbW hres.lt
  have hbw0 := hb0.trans (hbW.mono hs0)
  have hB0 : base ≤ W0.heap.size := by have := hbw0.size; omega
  replace hT1 := hT1.below hbw0
  replace hT2 := hT2.below hbw0
  have hnod0 := hx.below hbw0 (Nat.le_refl _)
  clear hnet hres
  refine tk (i := 1) (v := ?vs84x1) rfl (by kernel_rfl) (fun _ _ _ h => h) (Or.inl ⟨by rfl, ?hys84x1⟩) (by assumption) ?rs84x1
  case hys84x1 => (intro w hSw; (try dsimp only at hSw); go_simp; try with_reducible rfl)
  try simp only [Act.put, qGa, qGb, qGc, qSa, qSb, qSc]
  refine tk (i := 3) (v := ?vs84x3) rfl (by kernel_rfl) (fun _ _ _ h => h) (Or.inl ⟨by rfl, ?hys84x3⟩) (by assumption) ?rs84x3
  case hys84x3 => (intro w hSw; (try dsimp only at hSw); go_simp; try with_reducible rfl)
  try simp only [Act.put, qGa, qGb, qGc, qSa, qSb, qSc]
  refine tk (i := 6) (v := ?vs84x6) rfl (by kernel_rfl) (fun _ _ _ h => h) (Or.inl ⟨by rfl, ?hys84x6⟩) (by assumption) ?rs84x6
  case hys84x6 => (intro w hSw; (try dsimp only at hSw); go_simp; try with_reducible rfl)
  try simp only [Act.put, qGa, qGb, qGc, qSa, qSb, qSc]
  refine tk (i := 8) (v := ?vs84x8) rfl (by kernel_rfl) (fun _ _ _ h => h) (Or.inl ⟨by rfl, ?hys84x8⟩) (by assumption) ?rs84x8
  case hys84x8 => (intro w hSw; (try dsimp only at hSw); go_simp; try with_reducible rfl)
  try simp only [Act.put, qGa, qGb, qGc, qSa, qSb, qSc]
  refine tk (i := 9) (v := ?vs84x9) rfl (by kernel_rfl) (fun _ _ _ h => h) (Or.inl ⟨by rfl, ?hys84x9⟩) (by assumption) ?rs84x9
  case hys84x9 => (intro w hSw; (try dsimp only at hSw); go_simp; try with_reducible rfl)
  try simp only [Act.put, qGa, qGb, qGc, qSa, qSb, qSc]
  refine wpAnyH_ready (rs := [0, 2, 7]) (by kernel_rfl) (by simp) ?_
  refine AllReadyH.cons rfl (fun K85 hK85 => ?_) (AllReadyH.cons rfl (fun K86 hK86 => ?_) (AllReadyH.cons rfl (fun K87 hK87 => ?_) AllReadyH.nil))
  · obtain ⟨W1, hW1⟩ : ∃ x, x = W0.alloc (.cells #[] 78) := ⟨_, rfl⟩
    obtain ⟨ge, hge⟩ : ∃ x, x = W0.heap.size := ⟨_, rfl⟩
    have hr1 : RowsAt W0.heap.size base W1 (.slice (some ⟨ge, 0, none⟩) 0 0) [] := by rw [hW1, hge]; exact rowsAt_empty _ _
    have hb1 : Below W0.heap.size W0 W1 := by rw [hW1]; exact (Below.refl _ _).alloc (Nat.le_refl _) _
    have hnet1 := hnet0.below hb1 hnet0.lt
    go_simp
    rw [← hW1, ← hge]
    clear hW1 hge
    refine hK85.out _ _ trivial (fun hHeld => ?_)
    clear hK85 K85
    try simp only [Act.put, qGa, qGb, qGc, qSa, qSb, qSc]
    refine wpAnyH_ready (rs := [2, 7]) (by kernel_rfl) (by simp) ?_
    refine AllReadyH.cons rfl (fun K89 hK89 => ?_) (AllReadyH.cons rfl (fun K90 hK90 => ?_) AllReadyH.nil)
    · have zl := hnet1.cell 1
      go_simp
      refine hK89.out _ _ trivial (fun hHeld => ?_)
      clear hK89 K89 zl
      try simp only [Act.put, qGa, qGb, qGc, qSa, qSb, qSc]
      refine tk (i := 4) (v := ?vl914) rfl (by kernel_rfl) (fun _ _ _ h => h) (Or.inl ⟨by rfl, ?hyl914⟩) (by assumption) ?rl914
      case hyl914 => (intro w hSw; (try dsimp only at hSw); go_simp; try with_reducible rfl)
      try simp only [Act.put, qGa, qGb, qGc, qSa, qSb, qSc]
      refine wpAnyH_ready (rs := [5, 7]) (by kernel_rfl) (by simp) ?_
      refine AllReadyH.cons rfl (fun K92 hK92 => ?_) (AllReadyH.cons rfl (fun K93 hK93 => ?_) AllReadyH.nil)
      · refine stepS_all (w := W1) rfl _ _ rfl W0.heap.size base (.slice (some ⟨ge, 0, none⟩) 0 0) [] (fl.take at0) ⟨b, 0, none⟩ at0 cf rfl rfl hr1 (hT1.below hb1) hw1 hb1.size (by simp; omega) ?_
        intro v2 w2 hr2 hb2
        have hb02 := hb1.trans hb2
        have hnet2 := hnet0.below hb02 hnet0.lt
        rw [List.nil_append] at hr2
        have hr2k := hr2
        obtain ⟨a2, n2, c2, rfl⟩ := hr2.slice
        refine hK92.out _ _ trivial (fun hHeld => ?_)
        clear hK92 K92
        try simp only [Act.put, qGa, qGb, qGc, qSa, qSb, qSc]
        refine wpAnyH_ready (rs := [7]) (by kernel_rfl) (by simp) ?_
        refine AllReadyH.cons rfl (fun K95 hK95 => ?_) AllReadyH.nil
        have zl := hnet2.cell 1
        go_simp
        refine hK95.out _ _ trivial (fun hHeld => ?_)
        clear hK95 K95 zl
        try simp only [Act.put, qGa, qGb, qGc, qSa, qSb, qSc]
        refine tk (i := 10) (v := .slice (some ad2) (nf - (at0 + 1)) (cf - (at0 + 1))) rfl (by kernel_rfl) (fun _ _ _ h => h) (Or.inl ⟨by rfl, ?hyl96⟩) (by assumption) ?_
        case hyl96 =>
          intro w hSw
          go_simp
          first | exact HV.out | (rw [e1, if_pos ⟨i5, i2⟩, e2, HV.out])
        try simp only [Act.put, qGa, qGb, qGc, qSa, qSb, qSc]
        refine wpAnyH_ready (rs := [11]) (by kernel_rfl) (by simp) ?_
        refine AllReadyH.cons rfl (fun K97 hK97 => ?_) AllReadyH.nil
        refine stepS_all (w := w2) rfl _ _ rfl W0.heap.size base (.slice a2 n2 c2) (fl.take at0) (fl.drop (at0 + 1)) ad2 (nf - (at0 + 1)) (cf - (at0 + 1)) rfl rfl hr2k (hT2.below hb02) hw2 hb02.size (by rw [List.length_take]; omega) ?_
        intro v3 w3 hr3 hb3
        have hb03 := hb02.trans hb3
        have hnet3 := hnet0.below hb03 hnet0.lt
        have hres3 := hres0.below hb03 hres0.lt
        have hr3k := hr3
        obtain ⟨a3, n3, c3, rfl⟩ := hr3.slice
        refine hK97.out _ _ trivial (fun hHeld => ?_)
        clear hK97 K97
        try simp only [Act.put, qGa, qGb, qGc, qSa, qSb, qSc]
        refine tk (i := 12) (v := ?vp9812) rfl (by kernel_rfl) (fun _ _ _ h => h) (Or.inl ⟨by rfl, ?hyp9812⟩) (by assumption) ?rp9812
        case hyp9812 => (intro w hSw; (try dsimp only at hSw); go_simp; try with_reducible rfl)
        try simp only [Act.put, qGa, qGb, qGc, qSa, qSb, qSc]
        refine wpAnyH_ready (rs := [13]) (by kernel_rfl) (by simp) ?_
        refine AllReadyH.cons rfl (fun K99 hK99 => ?_) AllReadyH.nil
        have zs := hnet3.cell 1
        have fs := hnet3.frozen 1
        have hnet4 : Blk (w3.setCell ⟨gn, 1, none⟩ (.slice a3 n3 c3)) gn 33 #[.slice an nn cn, .slice a3 n3 c3] := by
          have h := hnet3.set_ 1 (.slice a3 n3 c3)
          simpa using h
        have hO4 := (Only.refl gn w3).setCell 1 (.slice a3 n3 c3)
        have hres4 := hres3.keeps hO4.keeps hne
        go_simp
        refine hK99.out _ _ trivial (fun hHeld => ?_)
        clear hK99 K99
        try simp only [Act.put, qGa, qGb, qGc, qSa, qSb, qSc]
        refine wpAnyH_done (by kernel_rfl) ?_ _
        obtain ⟨W4, hW4⟩ : ∃ x, x = w3.setCell ⟨gn, 1, none⟩ (.slice a3 n3 c3) := ⟨_, rfl⟩
        have hbf : Below w.heap.size w W4 := by rw [hW4]; exact (hbw0.trans (hb03.mono hbw0.size)).setCell (p := ⟨gn, 1, none⟩) hgn _
        have hrk := OwnRows.off (hr3k.own hB0) hnet3 hO4.keeps (by decide) (by decide)
        have hnk := OwnNds.off (hnod0.below hb03 (Nat.le_refl _)) hnet3 hO4.keeps (by decide) (by decide) (by decide) (by decide)
        rw [← hW4] at hnet4 hres4 hrk hnk ⊢
        clear hW4 zs fs hO4
        have o0 := hnet4.cell 0; have o1 := hnet4.cell 1
        have z0 := hres4.cell 0; have z1 := hres4.cell 1
        have y0 := hres4.frozen 0; have y1 := hres4.frozen 1
        have hZ := Blk.set2 hres4 (.slice an nn cn) (.slice a3 n3 c3)
        have hBZ := hbf.set2 hgr (.slice an nn cn) (.slice a3 n3 c3)
        have hOZ := Only.set2 gr W4 (.slice an nn cn) (.slice a3 n3 c3)
        have p0 := hZ.cell 0; have p1 := hZ.cell 1
        have hrz := OwnRows.off hrk hres4 hOZ.keeps (by decide) (by decide)
        have hnz := OwnNds.off hnk hres4 hOZ.keeps (by decide) (by decide) (by decide) (by decide)
        have HBZ := Lib.hid hBZ
        rw [← List.eraseIdx_eq_take_drop_succ] at hrz
        have HR : Hid (NetT base nds (fl.eraseIdx at0) _ (.agg #[.slice an nn cn, .slice a3 n3 c3])) := Lib.hid ⟨_, _, rfl, hnz, hrz⟩
        clear hBZ hZ hOZ hrz hrk hnz hnk hr3k hr2k hr1 hT1 hT2
        go_wp2_with fail
        refine bodyPost_ret (v := .agg #[.slice an nn cn, .slice a3 n3 c3]) (by simp [results, Tryz.results85, go_sem, p0, p1]) rfl ?_
        exact ⟨_, rfl, HR.out, HBZ.out⟩
      · have zl := hnet1.cell 1
        go_simp
        refine hK93.out _ _ trivial (fun hHeld => ?_)
        clear hK93 K93 zl
        try simp only [Act.put, qGa, qGb, qGc, qSa, qSb, qSc]
        refine tk (i := 10) (v := .slice (some ad2) (nf - (at0 + 1)) (cf - (at0 + 1))) rfl (by kernel_rfl) (fun _ _ _ h => h) (Or.inl ⟨by rfl, ?hyl101⟩) (by assumption) ?_
        case hyl101 =>
          intro w hSw
          go_simp
          first | exact HV.out | (rw [e1, if_pos ⟨i5, i2⟩, e2, HV.out])
        try simp only [Act.put, qGa, qGb, qGc, qSa, qSb, qSc]
        refine wpAnyH_ready (rs := [5]) (by kernel_rfl) (by simp) ?_
        refine AllReadyH.cons rfl (fun K102 hK102 => ?_) AllReadyH.nil
        refine stepS_all (w := W1) rfl _ _ rfl W0.heap.size base (.slice (some ⟨ge, 0, none⟩) 0 0) [] (fl.take at0) ⟨b, 0, none⟩ at0 cf rfl rfl hr1 (hT1.below hb1) hw1 hb1.size (by simp; omega) ?_
        intro v2 w2 hr2 hb2
        have hb02 := hb1.trans hb2
        have hnet2 := hnet0.below hb02 hnet0.lt
        rw [List.nil_append] at hr2
        have hr2k := hr2
        obtain ⟨a2, n2, c2, rfl⟩ := hr2.slice
        refine hK102.out _ _ trivial (fun hHeld => ?_)
        clear hK102 K102
        try simp only [Act.put, qGa, qGb, qGc, qSa, qSb, qSc]
        refine wpAnyH_ready (rs := [11]) (by kernel_rfl) (by simp) ?_
        refine AllReadyH.cons rfl (fun K104 hK104 => ?_) AllReadyH.nil
        refine stepS_all (w := w2) rfl _ _ rfl W0.heap.size base (.slice a2 n2 c2) (fl.take at0) (fl.drop (at0 + 1)) ad2 (nf - (at0 + 1)) (cf - (at0 + 1)) rfl rfl hr2k (hT2.below hb02) hw2 hb02.size (by rw [List.length_take]; omega) ?_
        intro v3 w3 hr3 hb3
        have hb03 := hb02.trans hb3
        have hnet3 := hnet0.below hb03 hnet0.lt
        have hres3 := hres0.below hb03 hres0.lt
        have hr3k := hr3
        obtain ⟨a3, n3, c3, rfl⟩ := hr3.slice
        refine hK104.out _ _ trivial (fun hHeld => ?_)
        clear hK104 K104
        try simp only [Act.put, qGa, qGb, qGc, qSa, qSb, qSc]
        refine tk (i := 12) (v := ?vp10512) rfl (by kernel_rfl) (fun _ _ _ h => h) (Or.inl ⟨by rfl, ?hyp10512⟩) (by assumption) ?rp10512
        case hyp10512 => (intro w hSw; (try dsimp only at hSw); go_simp; try with_reducible rfl)
        try simp only [Act.put, qGa, qGb, qGc, qSa, qSb, qSc]
        refine wpAnyH_ready (rs := [13]) (by kernel_rfl) (by simp) ?_
        refine AllReadyH.cons rfl (fun K106 hK106 => ?_) AllReadyH.nil
        have zs := hnet3.cell 1
        have fs := hnet3.frozen 1
        have hnet4 : Blk (w3.setCell ⟨gn, 1, none⟩ (.slice a3 n3 c3)) gn 33 #[.slice an nn cn, .slice a3 n3 c3] := by
          have h := hnet3.set_ 1 (.slice a3 n3 c3)
          simpa using h
        have hO4 := (Only.refl gn w3).setCell 1 (.slice a3 n3 c3)
        have hres4 := hres3.keeps hO4.keeps hne
        go_simp
        refine hK106.out _ _ trivial (fun hHeld => ?_)
        clear hK106 K106
        try simp only [Act.put, qGa, qGb, qGc, qSa, qSb, qSc]
        refine wpAnyH_done (by kernel_rfl) ?_ _
        obtain ⟨W4, hW4⟩ : ∃ x, x = w3.setCell ⟨gn, 1, none⟩ (.slice a3 n3 c3) := ⟨_, rfl⟩
        have hbf : Below w.heap.size w W4 := by rw [hW4]; exact (hbw0.trans (hb03.mono hbw0.size)).setCell (p := ⟨gn, 1, none⟩) hgn _
        have hrk := OwnRows.off (hr3k.own hB0) hnet3 hO4.keeps (by decide) (by decide)
        have hnk := OwnNds.off (hnod0.below hb03 (Nat.le_refl _)) hnet3 hO4.keeps (by decide) (by decide) (by decide) (by decide)
        rw [← hW4] at hnet4 hres4 hrk hnk ⊢
        clear hW4 zs fs hO4
        have o0 := hnet4.cell 0; have o1 := hnet4.cell 1
        have z0 := hres4.cell 0; have z1 := hres4.cell 1
        have y0 := hres4.frozen 0; have y1 := hres4.frozen 1
        have hZ := Blk.set2 hres4 (.slice an nn cn) (.slice a3 n3 c3)
        have hBZ := hbf.set2 hgr (.slice an nn cn) (.slice a3 n3 c3)
        have hOZ := Only.set2 gr W4 (.slice an nn cn) (.slice a3 n3 c3)
        have p0 := hZ.cell 0; have p1 := hZ.cell 1
        have hrz := OwnRows.off hrk hres4 hOZ.keeps (by decide) (by decide)
        have hnz := OwnNds.off hnk hres4 hOZ.keeps (by decide) (by decide) (by decide) (by decide)
        have HBZ := Lib.hid hBZ
        rw [← List.eraseIdx_eq_take_drop_succ] at hrz
        have HR : Hid (NetT base nds (fl.eraseIdx at0) _ (.agg #[.slice an nn cn, .slice a3 n3 c3])) := Lib.hid ⟨_, _, rfl, hnz, hrz⟩
        clear hBZ hZ hOZ hrz hrk hnz hnk hr3k hr2k hr1 hT1 hT2
        go_wp2_with fail
        refine bodyPost_ret (v := .agg #[.slice an nn cn, .slice a3 n3 c3]) (by simp [results, Tryz.results85, go_sem, p0, p1]) rfl ?_
        exact ⟨_, rfl, HR.out, HBZ.out⟩
    · have zl := hnet1.cell 1
      go_simp
      refine hK90.out _ _ trivial (fun hHeld => ?_)
      clear hK90 K90 zl
      try simp only [Act.put, qGa, qGb, qGc, qSa, qSb, qSc]
      refine tk (i := 10) (v := .slice (some ad2) (nf - (at0 + 1)) (cf - (at0 + 1))) rfl (by kernel_rfl) (fun _ _ _ h => h) (Or.inl ⟨by rfl, ?hyl108⟩) (by assumption) ?_
      case hyl108 =>
        intro w hSw
        go_simp
        first | exact HV.out | (rw [e1, if_pos ⟨i5, i2⟩, e2, HV.out])
      try simp only [Act.put, qGa, qGb, qGc, qSa, qSb, qSc]
      refine wpAnyH_ready (rs := [2]) (by kernel_rfl) (by simp) ?_
      refine AllReadyH.cons rfl (fun K109 hK109 => ?_) AllReadyH.nil
      have zl := hnet1.cell 1
      go_simp
      refine hK109.out _ _ trivial (fun hHeld => ?_)
      clear hK109 K109 zl
      try simp only [Act.put, qGa, qGb, qGc, qSa, qSb, qSc]
      refine tk (i := 4) (v := ?vl1104) rfl (by kernel_rfl) (fun _ _ _ h => h) (Or.inl ⟨by rfl, ?hyl1104⟩) (by assumption) ?rl1104
      case hyl1104 => (intro w hSw; (try dsimp only at hSw); go_simp; try with_reducible rfl)
      try simp only [Act.put, qGa, qGb, qGc, qSa, qSb, qSc]
      refine wpAnyH_ready (rs := [5]) (by kernel_rfl) (by simp) ?_
      refine AllReadyH.cons rfl (fun K111 hK111 => ?_) AllReadyH.nil
      refine stepS_all (w := W1) rfl _ _ rfl W0.heap.size base (.slice (some ⟨ge, 0, none⟩) 0 0) [] (fl.take at0) ⟨b, 0, none⟩ at0 cf rfl rfl hr1 (hT1.below hb1) hw1 hb1.size (by simp; omega) ?_
      intro v2 w2 hr2 hb2
      have hb02 := hb1.trans hb2
      have hnet2 := hnet0.below hb02 hnet0.lt
      rw [List.nil_append] at hr2
      have hr2k := hr2
      obtain ⟨a2, n2, c2, rfl⟩ := hr2.slice
      refine hK111.out _ _ trivial (fun hHeld => ?_)
      clear hK111 K111
      try simp only [Act.put, qGa, qGb, qGc, qSa, qSb, qSc]
      refine wpAnyH_ready (rs := [11]) (by kernel_rfl) (by simp) ?_
      refine AllReadyH.cons rfl (fun K113 hK113 => ?_) AllReadyH.nil
      refine stepS_all (w := w2) rfl _ _ rfl W0.heap.size base (.slice a2 n2 c2) (fl.take at0) (fl.drop (at0 + 1)) ad2 (nf - (at0 + 1)) (cf - (at0 + 1)) rfl rfl hr2k (hT2.below hb02) hw2 hb02.size (by rw [List.length_take]; omega) ?_
      intro v3 w3 hr3 hb3
      have hb03 := hb02.trans hb3
      have hnet3 := hnet0.below hb03 hnet0.lt
      have hres3 := hres0.below hb03 hres0.lt
      have hr3k := hr3
      obtain ⟨a3, n3, c3, rfl⟩ := hr3.slice
      refine hK113.out _ _ trivial (fun hHeld => ?_)
      clear hK113 K113
      try simp only [Act.put, qGa, qGb, qGc, qSa, qSb, qSc]
      refine tk (i := 12) (v := ?vp11412) rfl (by kernel_rfl) (fun _ _ _ h => h) (Or.inl ⟨by rfl, ?hyp11412⟩) (by assumption) ?rp11412
      case hyp11412 => (intro w hSw; (try dsimp only at hSw); go_simp; try with_reducible rfl)
      try simp only [Act.put, qGa, qGb, qGc, qSa, qSb, qSc]
      refine wpAnyH_ready (rs := [13]) (by kernel_rfl) (by simp) ?_
      refine AllReadyH.cons rfl (fun K115 hK115 => ?_) AllReadyH.nil
      have zs := hnet3.cell 1
      have fs := hnet3.frozen 1
      have hnet4 : Blk (w3.setCell ⟨gn, 1, none⟩ (.slice a3 n3 c3)) gn 33 #[.slice an nn cn, .slice a3 n3 c3] := by
        have h := hnet3.set_ 1 (.slice a3 n3 c3)
        simpa using h
      have hO4 := (Only.refl gn w3).setCell 1 (.slice a3 n3 c3)
      have hres4 := hres3.keeps hO4.keeps hne
      go_simp
      refine hK115.out _ _ trivial (fun hHeld => ?_)
      clear hK115 K115
      try simp only [Act.put, qGa, qGb, qGc, qSa, qSb, qSc]
      refine wpAnyH_done (by kernel_rfl) ?_ _
      obtain ⟨W4, hW4⟩ : ∃ x, x = w3.setCell ⟨gn, 1, none⟩ (.slice a3 n3 c3) := ⟨_, rfl⟩
      have hbf : Below w.heap.size w W4 := by rw [hW4]; exact (hbw0.trans (hb03.mono hbw0.size)).setCell (p := ⟨gn, 1, none⟩) hgn _
      have hrk := OwnRows.off (hr3k.own hB0) hnet3 hO4.keeps (by decide) (by decide)
      have hnk := OwnNds.off (hnod0.below hb03 (Nat.le_refl _)) hnet3 hO4.keeps (by decide) (by decide) (by decide) (by decide)
      rw [← hW4] at hnet4 hres4 hrk hnk ⊢
      clear hW4 zs fs hO4
      have o0 := hnet4.cell 0; have o1 := hnet4.cell 1
      have z0 := hres4.cell 0; have z1 := hres4.cell 1
      have y0 := hres4.frozen 0; have y1 := hres4.frozen 1
      have hZ := Blk.set2 hres4 (.slice an nn cn) (.slice a3 n3 c3)
      have hBZ := hbf.set2 hgr (.slice an nn cn) (.slice a3 n3 c3)
      have hOZ := Only.set2 gr W4 (.slice an nn cn) (.slice a3 n3 c3)
      have p0 := hZ.cell 0; have p1 := hZ.cell 1
      have hrz := OwnRows.off hrk hres4 hOZ.keeps (by decide) (by decide)
      have hnz := OwnNds.off hnk hres4 hOZ.keeps (by decide) (by decide) (by decide) (by decide)
      have HBZ := Lib.hid hBZ
      rw [← List.eraseIdx_eq_take_drop_succ] at hrz
      have HR : Hid (NetT base nds (fl.eraseIdx at0) _ (.agg #[.slice an nn cn, .slice a3 n3 c3])) := Lib.hid ⟨_, _, rfl, hnz, hrz⟩
      clear hBZ hZ hOZ hrz hrk hnz hnk hr3k hr2k hr1 hT1 hT2
      go_wp2_with fail
      refine bodyPost_ret (v := .agg #[.slice an nn cn, .slice a3 n3 c3]) (by simp [results, Tryz.results85, go_sem, p0, p1]) rfl ?_
      exact ⟨_, rfl, HR.out, HBZ.out⟩
  · have zl := hnet0.cell 1
    go_simp
    refine hK86.out _ _ trivial (fun hHeld => ?_)
    clear hK86 K86 zl
    try simp only [Act.put, qGa, qGb, qGc, qSa, qSb, qSc]
    refine tk (i := 4) (v := ?vl1174) rfl (by kernel_rfl) (fun _ _ _ h => h) (Or.inl ⟨by rfl, ?hyl1174⟩) (by assumption) ?rl1174
    case hyl1174 => (intro w hSw; (try dsimp only at hSw); go_simp; try with_reducible rfl)
    try simp only [Act.put, qGa, qGb, qGc, qSa, qSb, qSc]
    refine wpAnyH_ready (rs := [0, 7]) (by kernel_rfl) (by simp) ?_
    refine AllReadyH.cons rfl (fun K118 hK118 => ?_) (AllReadyH.cons rfl (fun K119 hK119 => ?_) AllReadyH.nil)
    · obtain ⟨W1, hW1⟩ : ∃ x, x = W0.alloc (.cells #[] 78) := ⟨_, rfl⟩
      obtain ⟨ge, hge⟩ : ∃ x, x = W0.heap.size := ⟨_, rfl⟩
      have hr1 : RowsAt W0.heap.size base W1 (.slice (some ⟨ge, 0, none⟩) 0 0) [] := by rw [hW1, hge]; exact rowsAt_empty _ _
      have hb1 : Below W0.heap.size W0 W1 := by rw [hW1]; exact (Below.refl _ _).alloc (Nat.le_refl _) _
      have hnet1 := hnet0.below hb1 hnet0.lt
      go_simp
      rw [← hW1, ← hge]
      clear hW1 hge
      refine hK118.out _ _ trivial (fun hHeld => ?_)
      clear hK118 K118
      try simp only [Act.put, qGa, qGb, qGc, qSa, qSb, qSc]
      refine wpAnyH_ready (rs := [5, 7]) (by kernel_rfl) (by simp) ?_
      refine AllReadyH.cons rfl (fun K121 hK121 => ?_) (AllReadyH.cons rfl (fun K122 hK122 => ?_) AllReadyH.nil)
      · refine stepS_all (w := W1) rfl _ _ rfl W0.heap.size base (.slice (some ⟨ge, 0, none⟩) 0 0) [] (fl.take at0) ⟨b, 0, none⟩ at0 cf rfl rfl hr1 (hT1.below hb1) hw1 hb1.size (by simp; omega) ?_
        intro v2 w2 hr2 hb2
        have hb02 := hb1.trans hb2
        have hnet2 := hnet0.below hb02 hnet0.lt
        rw [List.nil_append] at hr2
        have hr2k := hr2
        obtain ⟨a2, n2, c2, rfl⟩ := hr2.slice
        refine hK121.out _ _ trivial (fun hHeld => ?_)
        clear hK121 K121
        try simp only [Act.put, qGa, qGb, qGc, qSa, qSb, qSc]
        refine wpAnyH_ready (rs := [7]) (by kernel_rfl) (by simp) ?_
        refine AllReadyH.cons rfl (fun K124 hK124 => ?_) AllReadyH.nil
        have zl := hnet2.cell 1
        go_simp
        refine hK124.out _ _ trivial (fun hHeld => ?_)
        clear hK124 K124 zl
        try simp only [Act.put, qGa, qGb, qGc, qSa, qSb, qSc]
        refine tk (i := 10) (v := .slice (some ad2) (nf - (at0 + 1)) (cf - (at0 + 1))) rfl (by kernel_rfl) (fun _ _ _ h => h) (Or.inl ⟨by rfl, ?hyl125⟩) (by assumption) ?_
        case hyl125 =>
          intro w hSw
          go_simp
          first | exact HV.out | (rw [e1, if_pos ⟨i5, i2⟩, e2, HV.out])
        try simp only [Act.put, qGa, qGb, qGc, qSa, qSb, qSc]
        refine wpAnyH_ready (rs := [11]) (by kernel_rfl) (by simp) ?_
        refine AllReadyH.cons rfl (fun K126 hK126 => ?_) AllReadyH.nil
        refine stepS_all (w := w2) rfl _ _ rfl W0.heap.size base (.slice a2 n2 c2) (fl.take at0) (fl.drop (at0 + 1)) ad2 (nf - (at0 + 1)) (cf - (at0 + 1)) rfl rfl hr2k (hT2.below hb02) hw2 hb02.size (by rw [List.length_take]; omega) ?_
        intro v3 w3 hr3 hb3
        have hb03 := hb02.trans hb3
        have hnet3 := hnet0.below hb03 hnet0.lt
        have hres3 := hres0.below hb03 hres0.lt
        have hr3k := hr3
        obtain ⟨a3, n3, c3, rfl⟩ := hr3.slice
        refine hK126.out _ _ trivial (fun hHeld => ?_)
        clear hK126 K126
        try simp only [Act.put, qGa, qGb, qGc, qSa, qSb, qSc]
        refine tk (i := 12) (v := ?vp12712) rfl (by kernel_rfl) (fun _ _ _ h => h) (Or.inl ⟨by rfl, ?hyp12712⟩) (by assumption) ?rp12712
        case hyp12712 => (intro w hSw; (try dsimp only at hSw); go_simp; try with_reducible rfl)
        try simp only [Act.put, qGa, qGb, qGc, qSa, qSb, qSc]
        refine wpAnyH_ready (rs := [13]) (by kernel_rfl) (by simp) ?_
        refine AllReadyH.cons rfl (fun K128 hK128 => ?_) AllReadyH.nil
        have zs := hnet3.cell 1
        have fs := hnet3.frozen 1
        have hnet4 : Blk (w3.setCell ⟨gn, 1, none⟩ (.slice a3 n3 c3)) gn 33 #[.slice an nn cn, .slice a3 n3 c3] := by
          have h := hnet3.set_ 1 (.slice a3 n3 c3)
          simpa using h
        have hO4 := (Only.refl gn w3).setCell 1 (.slice a3 n3 c3)
        have hres4 := hres3.keeps hO4.keeps hne
        go_simp
        refine hK128.out _ _ trivial (fun hHeld => ?_)
        clear hK128 K128
        try simp only [Act.put, qGa, qGb, qGc, qSa, qSb, qSc]
        refine wpAnyH_done (by kernel_rfl) ?_ _
        obtain ⟨W4, hW4⟩ : ∃ x, x = w3.setCell ⟨gn, 1, none⟩ (.slice a3 n3 c3) := ⟨_, rfl⟩
        have hbf : Below w.heap.size w W4 := by rw [hW4]; exact (hbw0.trans (hb03.mono hbw0.size)).setCell (p := ⟨gn, 1, none⟩) hgn _
        have hrk := OwnRows.off (hr3k.own hB0) hnet3 hO4.keeps (by decide) (by decide)
        have hnk := OwnNds.off (hnod0.below hb03 (Nat.le_refl _)) hnet3 hO4.keeps (by decide) (by decide) (by decide) (by decide)
        rw [← hW4] at hnet4 hres4 hrk hnk ⊢
        clear hW4 zs fs hO4
        have o0 := hnet4.cell 0; have o1 := hnet4.cell 1
        have z0 := hres4.cell 0; have z1 := hres4.cell 1
        have y0 := hres4.frozen 0; have y1 := hres4.frozen 1
        have hZ := Blk.set2 hres4 (.slice an nn cn) (.slice a3 n3 c3)
        have hBZ := hbf.set2 hgr (.slice an nn cn) (.slice a3 n3 c3)
        have hOZ := Only.set2 gr W4 (.slice an nn cn) (.slice a3 n3 c3)
        have p0 := hZ.cell 0; have p1 := hZ.cell 1
        have hrz := OwnRows.off hrk hres4 hOZ.keeps (by decide) (by decide)
        have hnz := OwnNds.off hnk hres4 hOZ.keeps (by decide) (by decide) (by decide) (by decide)
        have HBZ := Lib.hid hBZ
        rw [← List.eraseIdx_eq_take_drop_succ] at hrz
        have HR : Hid (NetT base nds (fl.eraseIdx at0) _ (.agg #[.slice an nn cn, .slice a3 n3 c3])) := Lib.hid ⟨_, _, rfl, hnz, hrz⟩
        clear hBZ hZ hOZ hrz hrk hnz hnk hr3k hr2k hr1 hT1 hT2
        go_wp2_with fail
        refine bodyPost_ret (v := .agg #[.slice an nn cn, .slice a3 n3 c3]) (by simp [results, Tryz.results85, go_sem, p0, p1]) rfl ?_
        exact ⟨_, rfl, HR.out, HBZ.out⟩
      · have zl := hnet1.cell 1
        go_simp
        refine hK122.out _ _ trivial (fun hHeld => ?_)
        clear hK122 K122 zl
        try simp only [Act.put, qGa, qGb, qGc, qSa, qSb, qSc]
        refine tk (i := 10) (v := .slice (some ad2) (nf - (at0 + 1)) (cf - (at0 + 1))) rfl (by kernel_rfl) (fun _ _ _ h => h) (Or.inl ⟨by rfl, ?hyl130⟩) (by assumption) ?_
        case hyl130 =>
          intro w hSw
          go_simp
          first | exact HV.out | (rw [e1, if_pos ⟨i5, i2⟩, e2, HV.out])
        try simp only [Act.put, qGa, qGb, qGc, qSa, qSb, qSc]
        refine wpAnyH_ready (rs := [5]) (by kernel_rfl) (by simp) ?_
        refine AllReadyH.cons rfl (fun K131 hK131 => ?_) AllReadyH.nil
        refine stepS_all (w := W1) rfl _ _ rfl W0.heap.size base (.slice (some ⟨ge, 0, none⟩) 0 0) [] (fl.take at0) ⟨b, 0, none⟩ at0 cf rfl rfl hr1 (hT1.below hb1) hw1 hb1.size (by simp; omega) ?_
        intro v2 w2 hr2 hb2
        have hb02 := hb1.trans hb2
        have hnet2 := hnet0.below hb02 hnet0.lt
        rw [List.nil_append] at hr2
        have hr2k := hr2
        obtain ⟨a2, n2, c2, rfl⟩ := hr2.slice
        refine hK131.out _ _ trivial (fun hHeld => ?_)
        clear hK131 K131
        try simp only [Act.put, qGa, qGb, qGc, qSa, qSb, qSc]
        refine wpAnyH_ready (rs := [11]) (by kernel_rfl) (by simp) ?_
        refine AllReadyH.cons rfl (fun K133 hK133 => ?_) AllReadyH.nil
        refine stepS_all (w := w2) rfl _ _ rfl W0.heap.size base (.slice a2 n2 c2) (fl.take at0) (fl.drop (at0 + 1)) ad2 (nf - (at0 + 1)) (cf - (at0 + 1)) rfl rfl hr2k (hT2.below hb02) hw2 hb02.size (by rw [List.length_take]; omega) ?_
        intro v3 w3 hr3 hb3
        have hb03 := hb02.trans hb3
        have hnet3 := hnet0.below hb03 hnet0.lt
        have hres3 := hres0.below hb03 hres0.lt
        have hr3k := hr3
        obtain ⟨a3, n3, c3, rfl⟩ := hr3.slice
        refine hK133.out _ _ trivial (fun hHeld => ?_)
        clear hK133 K133
        try simp only [Act.put, qGa, qGb, qGc, qSa, qSb, qSc]
        refine tk (i := 12) (v := ?vp13412) rfl (by kernel_rfl) (fun _ _ _ h => h) (Or.inl ⟨by rfl, ?hyp13412⟩) (by assumption) ?rp13412
        case hyp13412 => (intro w hSw; (try dsimp only at hSw); go_simp; try with_reducible rfl)
        try simp only [Act.put, qGa, qGb, qGc, qSa, qSb, qSc]
        refine wpAnyH_ready (rs := [13]) (by kernel_rfl) (by simp) ?_
        refine AllReadyH.cons rfl (fun K135 hK135 => ?_) AllReadyH.nil
        have zs := hnet3.cell 1
        have fs := hnet3.frozen 1
        have hnet4 : Blk (w3.setCell ⟨gn, 1, none⟩ (.slice a3 n3 c3)) gn 33 #[.slice an nn cn, .slice a3 n3 c3] := by
          have h := hnet3.set_ 1 (.slice a3 n3 c3)
          simpa using h
        have hO4 := (Only.refl gn w3).setCell 1 (.slice a3 n3 c3)
        have hres4 := hres3.keeps hO4.keeps hne
        go_simp
        refine hK135.out _ _ trivial (fun hHeld => ?_)
        clear hK135 K135
        try simp only [Act.put, qGa, qGb, qGc, qSa, qSb, qSc]
        refine wpAnyH_done (by kernel_rfl) ?_ _
        obtain ⟨W4, hW4⟩ : ∃ x, x = w3.setCell ⟨gn, 1, none⟩ (.slice a3 n3 c3) := ⟨_, rfl⟩
        have hbf : Below w.heap.size w W4 := by rw [hW4]; exact (hbw0.trans (hb03.mono hbw0.size)).setCell (p := ⟨gn, 1, none⟩) hgn _
        have hrk := OwnRows.off (hr3k.own hB0) hnet3 hO4.keeps (by decide) (by decide)
        have hnk := OwnNds.off (hnod0.below hb03 (Nat.le_refl _)) hnet3 hO4.keeps (by decide) (by decide) (by decide) (by decide)
        rw [← hW4] at hnet4 hres4 hrk hnk ⊢
        clear hW4 zs fs hO4
        have o0 := hnet4.cell 0; have o1 := hnet4.cell 1
        have z0 := hres4.cell 0; have z1 := hres4.cell 1
        have y0 := hres4.frozen 0; have y1 := hres4.frozen 1
        have hZ := Blk.set2 hres4 (.slice an nn cn) (.slice a3 n3 c3)
        have hBZ := hbf.set2 hgr (.slice an nn cn) (.slice a3 n3 c3)
        have hOZ := Only.set2 gr W4 (.slice an nn cn) (.slice a3 n3 c3)
        have p0 := hZ.cell 0; have p1 := hZ.cell 1
        have hrz := OwnRows.off hrk hres4 hOZ.keeps (by decide) (by decide)
        have hnz := OwnNds.off hnk hres4 hOZ.keeps (by decide) (by decide) (by decide) (by decide)
        have HBZ := Lib.hid hBZ
        rw [← List.eraseIdx_eq_take_drop_succ] at hrz
        have HR : Hid (NetT base nds (fl.eraseIdx at0) _ (.agg #[.slice an nn cn, .slice a3 n3 c3])) := Lib.hid ⟨_, _, rfl, hnz, hrz⟩
        clear hBZ hZ hOZ hrz hrk hnz hnk hr3k hr2k hr1 hT1 hT2
        go_wp2_with fail
        refine bodyPost_ret (v := .agg #[.slice an nn cn, .slice a3 n3 c3]) (by simp [results, Tryz.results85, go_sem, p0, p1]) rfl ?_
        exact ⟨_, rfl, HR.out, HBZ.out⟩
    · have zl := hnet0.cell 1
      go_simp
      refine hK119.out _ _ trivial (fun hHeld => ?_)
      clear hK119 K119 zl
      try simp only [Act.put, qGa, qGb, qGc, qSa, qSb, qSc]
      refine tk (i := 10) (v := .slice (some ad2) (nf - (at0 + 1)) (cf - (at0 + 1))) rfl (by kernel_rfl) (fun _ _ _ h => h) (Or.inl ⟨by rfl, ?hyl137⟩) (by assumption) ?_
      case hyl137 =>
        intro w hSw
        go_simp
        first | exact HV.out | (rw [e1, if_pos ⟨i5, i2⟩, e2, HV.out])
      try simp only [Act.put, qGa, qGb, qGc, qSa, qSb, qSc]
      refine wpAnyH_ready (rs := [0]) (by kernel_rfl) (by simp) ?_
      refine AllReadyH.cons rfl (fun K138 hK138 => ?_) AllReadyH.nil
      obtain ⟨W1, hW1⟩ : ∃ x, x = W0.alloc (.cells #[] 78) := ⟨_, rfl⟩
      obtain ⟨ge, hge⟩ : ∃ x, x = W0.heap.size := ⟨_, rfl⟩
      have hr1 : RowsAt W0.heap.size base W1 (.slice (some ⟨ge, 0, none⟩) 0 0) [] := by rw [hW1, hge]; exact rowsAt_empty _ _
      have hb1 : Below W0.heap.size W0 W1 := by rw [hW1]; exact (Below.refl _ _).alloc (Nat.le_refl _) _
      have hnet1 := hnet0.below hb1 hnet0.lt
      go_simp
      rw [← hW1, ← hge]
      clear hW1 hge
      refine hK138.out _ _ trivial (fun hHeld => ?_)
      clear hK138 K138
      try simp only [Act.put, qGa, qGb, qGc, qSa, qSb, qSc]
      refine wpAnyH_ready (rs := [5]) (by kernel_rfl) (by simp) ?_
      refine AllReadyH.cons rfl (fun K140 hK140 => ?_) AllReadyH.nil
      refine stepS_all (w := W1) rfl _ _ rfl W0.heap.size base (.slice (some ⟨ge, 0, none⟩) 0 0) [] (fl.take at0) ⟨b, 0, none⟩ at0 cf rfl rfl hr1 (hT1.below hb1) hw1 hb1.size (by simp; omega) ?_
      intro v2 w2 hr2 hb2
      have hb02 := hb1.trans hb2
      have hnet2 := hnet0.below hb02 hnet0.lt
      rw [List.nil_append] at hr2
      have hr2k := hr2
      obtain ⟨a2, n2, c2, rfl⟩ := hr2.slice
      refine hK140.out _ _ trivial (fun hHeld => ?_)
      clear hK140 K140
      try simp only [Act.put, qGa, qGb, qGc, qSa, qSb, qSc]
      refine wpAnyH_ready (rs := [11]) (by kernel_rfl) (by simp) ?_
      refine AllReadyH.cons rfl (fun K142 hK142 => ?_) AllReadyH.nil
      refine stepS_all (w := w2) rfl _ _ rfl W0.heap.size base (.slice a2 n2 c2) (fl.take at0) (fl.drop (at0 + 1)) ad2 (nf - (at0 + 1)) (cf - (at0 + 1)) rfl rfl hr2k (hT2.below hb02) hw2 hb02.size (by rw [List.length_take]; omega) ?_
      intro v3 w3 hr3 hb3
      have hb03 := hb02.trans hb3
      have hnet3 := hnet0.below hb03 hnet0.lt
      have hres3 := hres0.below hb03 hres0.lt
      have hr3k := hr3
      obtain ⟨a3, n3, c3, rfl⟩ := hr3.slice
      refine hK142.out _ _ trivial (fun hHeld => ?_)
      clear hK142 K142
      try simp only [Act.put, qGa, qGb, qGc, qSa, qSb, qSc]
      refine tk (i := 12) (v := ?vp14312) rfl (by kernel_rfl) (fun _ _ _ h => h) (Or.inl ⟨by rfl, ?hyp14312⟩) (by assumption) ?rp14312
      case hyp14312 => (intro w hSw; (try dsimp only at hSw); go_simp; try with_reducible rfl)
      try simp only [Act.put, qGa, qGb, qGc, qSa, qSb, qSc]
      refine wpAnyH_ready (rs := [13]) (by kernel_rfl) (by simp) ?_
      refine AllReadyH.cons rfl (fun K144 hK144 => ?_) AllReadyH.nil
      have zs := hnet3.cell 1
      have fs := hnet3.frozen 1
      have hnet4 : Blk (w3.setCell ⟨gn, 1, none⟩ (.slice a3 n3 c3)) gn 33 #[.slice an nn cn, .slice a3 n3 c3] := by
        have h := hnet3.set_ 1 (.slice a3 n3 c3)
        simpa using h
      have hO4 := (Only.refl gn w3).setCell 1 (.slice a3 n3 c3)
      have hres4 := hres3.keeps hO4.keeps hne
      go_simp
      refine hK144.out _ _ trivial (fun hHeld => ?_)
      clear hK144 K144
      try simp only [Act.put, qGa, qGb, qGc, qSa, qSb, qSc]
      refine wpAnyH_done (by kernel_rfl) ?_ _
      obtain ⟨W4, hW4⟩ : ∃ x, x = w3.setCell ⟨gn, 1, none⟩ (.slice a3 n3 c3) := ⟨_, rfl⟩
      have hbf : Below w.heap.size w W4 := by rw [hW4]; exact (hbw0.trans (hb03.mono hbw0.size)).setCell (p := ⟨gn, 1, none⟩) hgn _
      have hrk := OwnRows.off (hr3k.own hB0) hnet3 hO4.keeps (by decide) (by decide)
      have hnk := OwnNds.off (hnod0.below hb03 (Nat.le_refl _)) hnet3 hO4.keeps (by decide) (by decide) (by decide) (by decide)
      rw [← hW4] at hnet4 hres4 hrk hnk ⊢
      clear hW4 zs fs hO4
      have o0 := hnet4.cell 0; have o1 := hnet4.cell 1
      have z0 := hres4.cell 0; have z1 := hres4.cell 1
      have y0 := hres4.frozen 0; have y1 := hres4.frozen 1
      have hZ := Blk.set2 hres4 (.slice an nn cn) (.slice a3 n3 c3)
      have hBZ := hbf.set2 hgr (.slice an nn cn) (.slice a3 n3 c3)
      have hOZ := Only.set2 gr W4 (.slice an nn cn) (.slice a3 n3 c3)
      have p0 := hZ.cell 0; have p1 := hZ.cell 1
      have hrz := OwnRows.off hrk hres4 hOZ.keeps (by decide) (by decide)
      have hnz := OwnNds.off hnk hres4 hOZ.keeps (by decide) (by decide) (by decide) (by decide)
      have HBZ := Lib.hid hBZ
      rw [← List.eraseIdx_eq_take_drop_succ] at hrz
      have HR : Hid (NetT base nds (fl.eraseIdx at0) _ (.agg #[.slice an nn cn, .slice a3 n3 c3])) := Lib.hid ⟨_, _, rfl, hnz, hrz⟩
      clear hBZ hZ hOZ hrz hrk hnz hnk hr3k hr2k hr1 hT1 hT2
      go_wp2_with fail
      refine bodyPost_ret (v := .agg #[.slice an nn cn, .slice a3 n3 c3]) (by simp [results, Tryz.results85, go_sem, p0, p1]) rfl ?_
      exact ⟨_, rfl, HR.out, HBZ.out⟩
  · have zl := hnet0.cell 1
    go_simp
    refine hK87.out _ _ trivial (fun hHeld => ?_)
    clear hK87 K87 zl
    try simp only [Act.put, qGa, qGb, qGc, qSa, qSb, qSc]
    refine tk (i := 10) (v := .slice (some ad2) (nf - (at0 + 1)) (cf - (at0 + 1))) rfl (by kernel_rfl) (fun _ _ _ h => h) (Or.inl ⟨by rfl, ?hyl146⟩) (by assumption) ?_
    case hyl146 =>
      intro w hSw
      go_simp
      first | exact HV.out | (rw [e1, if_pos ⟨i5, i2⟩, e2, HV.out])
    try simp only [Act.put, qGa, qGb, qGc, qSa, qSb, qSc]
    refine wpAnyH_ready (rs := [0, 2]) (by kernel_rfl) (by simp) ?_
    refine AllReadyH.cons rfl (fun K147 hK147 => ?_) (AllReadyH.cons rfl (fun K148 hK148 => ?_) AllReadyH.nil)
    · obtain ⟨W1, hW1⟩ : ∃ x, x = W0.alloc (.cells #[] 78) := ⟨_, rfl⟩
      obtain ⟨ge, hge⟩ : ∃ x, x = W0.heap.size := ⟨_, rfl⟩
      have hr1 : RowsAt W0.heap.size base W1 (.slice (some ⟨ge, 0, none⟩) 0 0) [] := by rw [hW1, hge]; exact rowsAt_empty _ _
      have hb1 : Below W0.heap.size W0 W1 := by rw [hW1]; exact (Below.refl _ _).alloc (Nat.le_refl _) _
      have hnet1 := hnet0.below hb1 hnet0.lt
      go_simp
      rw [← hW1, ← hge]
      clear hW1 hge
      refine hK147.out _ _ trivial (fun hHeld => ?_)
      clear hK147 K147
      try simp only [Act.put, qGa, qGb, qGc, qSa, qSb, qSc]
      refine wpAnyH_ready (rs := [2]) (by kernel_rfl) (by simp) ?_
      refine AllReadyH.cons rfl (fun K150 hK150 => ?_) AllReadyH.nil
      have zl := hnet1.cell 1
      go_simp
      refine hK150.out _ _ trivial (fun hHeld => ?_)
      clear hK150 K150 zl
      try simp only [Act.put, qGa, qGb, qGc, qSa, qSb, qSc]
      refine tk (i := 4) (v := ?vl1514) rfl (by kernel_rfl) (fun _ _ _ h => h) (Or.inl ⟨by rfl, ?hyl1514⟩) (by assumption) ?rl1514
      case hyl1514 => (intro w hSw; (try dsimp only at hSw); go_simp; try with_reducible rfl)
      try simp only [Act.put, qGa, qGb, qGc, qSa, qSb, qSc]
      refine wpAnyH_ready (rs := [5]) (by kernel_rfl) (by simp) ?_
      refine AllReadyH.cons rfl (fun K152 hK152 => ?_) AllReadyH.nil
      refine stepS_all (w := W1) rfl _ _ rfl W0.heap.size base (.slice (some ⟨ge, 0, none⟩) 0 0) [] (fl.take at0) ⟨b, 0, none⟩ at0 cf rfl rfl hr1 (hT1.below hb1) hw1 hb1.size (by simp; omega) ?_
      intro v2 w2 hr2 hb2
      have hb02 := hb1.trans hb2
      have hnet2 := hnet0.below hb02 hnet0.lt
      rw [List.nil_append] at hr2
      have hr2k := hr2
      obtain ⟨a2, n2, c2, rfl⟩ := hr2.slice
      refine hK152.out _ _ trivial (fun hHeld => ?_)
      clear hK152 K152
      try simp only [Act.put, qGa, qGb, qGc, qSa, qSb, qSc]
      refine wpAnyH_ready (rs := [11]) (by kernel_rfl) (by simp) ?_
      refine AllReadyH.cons rfl (fun K154 hK154 => ?_) AllReadyH.nil
      refine stepS_all (w := w2) rfl _ _ rfl W0.heap.size base (.slice a2 n2 c2) (fl.take at0) (fl.drop (at0 + 1)) ad2 (nf - (at0 + 1)) (cf - (at0 + 1)) rfl rfl hr2k (hT2.below hb02) hw2 hb02.size (by rw [List.length_take]; omega) ?_
      intro v3 w3 hr3 hb3
      have hb03 := hb02.trans hb3
      have hnet3 := hnet0.below hb03 hnet0.lt
      have hres3 := hres0.below hb03 hres0.lt
      have hr3k := hr3
      obtain ⟨a3, n3, c3, rfl⟩ := hr3.slice
      refine hK154.out _ _ trivial (fun hHeld => ?_)
      clear hK154 K154
      try simp only [Act.put, qGa, qGb, qGc, qSa, qSb, qSc]
      refine tk (i := 12) (v := ?vp15512) rfl (by kernel_rfl) (fun _ _ _ h => h) (Or.inl ⟨by rfl, ?hyp15512⟩) (by assumption) ?rp15512
      case hyp15512 => (intro w hSw; (try dsimp only at hSw); go_simp; try with_reducible rfl)
      try simp only [Act.put, qGa, qGb, qGc, qSa, qSb, qSc]
      refine wpAnyH_ready (rs := [13]) (by kernel_rfl) (by simp) ?_
      refine AllReadyH.cons rfl (fun K156 hK156 => ?_) AllReadyH.nil
      have zs := hnet3.cell 1
      have fs := hnet3.frozen 1
      have hnet4 : Blk (w3.setCell ⟨gn, 1, none⟩ (.slice a3 n3 c3)) gn 33 #[.slice an nn cn, .slice a3 n3 c3] := by
        have h := hnet3.set_ 1 (.slice a3 n3 c3)
        simpa using h
      have hO4 := (Only.refl gn w3).setCell 1 (.slice a3 n3 c3)
      have hres4 := hres3.keeps hO4.keeps hne
      go_simp
      refine hK156.out _ _ trivial (fun hHeld => ?_)
      clear hK156 K156
      try simp only [Act.put, qGa, qGb, qGc, qSa, qSb, qSc]
      refine wpAnyH_done (by kernel_rfl) ?_ _
      obtain ⟨W4, hW4⟩ : ∃ x, x = w3.setCell ⟨gn, 1, none⟩ (.slice a3 n3 c3) := ⟨_, rfl⟩
      have hbf : Below w.heap.size w W4 := by rw [hW4]; exact (hbw0.trans (hb03.mono hbw0.size)).setCell (p := ⟨gn, 1, none⟩) hgn _
      have hrk := OwnRows.off (hr3k.own hB0) hnet3 hO4.keeps (by decide) (by decide)
      have hnk := OwnNds.off (hnod0.below hb03 (Nat.le_refl _)) hnet3 hO4.keeps (by decide) (by decide) (by decide) (by decide)
      rw [← hW4] at hnet4 hres4 hrk hnk ⊢
      clear hW4 zs fs hO4
      have o0 := hnet4.cell 0; have o1 := hnet4.cell 1
      have z0 := hres4.cell 0; have z1 := hres4.cell 1
      have y0 := hres4.frozen 0; have y1 := hres4.frozen 1
      have hZ := Blk.set2 hres4 (.slice an nn cn) (.slice a3 n3 c3)
      have hBZ := hbf.set2 hgr (.slice an nn cn) (.slice a3 n3 c3)
      have hOZ := Only.set2 gr W4 (.slice an nn cn) (.slice a3 n3 c3)
      have p0 := hZ.cell 0; have p1 := hZ.cell 1
      have hrz := OwnRows.off hrk hres4 hOZ.keeps (by decide) (by decide)
      have hnz := OwnNds.off hnk hres4 hOZ.keeps (by decide) (by decide) (by decide) (by decide)
      have HBZ := Lib.hid hBZ
      rw [← List.eraseIdx_eq_take_drop_succ] at hrz
      have HR : Hid (NetT base nds (fl.eraseIdx at0) _ (.agg #[.slice an nn cn, .slice a3 n3 c3])) := Lib.hid ⟨_, _, rfl, hnz, hrz⟩
      clear hBZ hZ hOZ hrz hrk hnz hnk hr3k hr2k hr1 hT1 hT2
      go_wp2_with fail
      refine bodyPost_ret (v := .agg #[.slice an nn cn, .slice a3 n3 c3]) (by simp [results, Tryz.results85, go_sem, p0, p1]) rfl ?_
      exact ⟨_, rfl, HR.out, HBZ.out⟩
    · have zl := hnet0.cell 1
      go_simp
      refine hK148.out _ _ trivial (fun hHeld => ?_)
      clear hK148 K148 zl
      try simp only [Act.put, qGa, qGb, qGc, qSa, qSb, qSc]
      refine tk (i := 4) (v := ?vl1584) rfl (by kernel_rfl) (fun _ _ _ h => h) (Or.inl ⟨by rfl, ?hyl1584⟩) (by assumption) ?rl1584
      case hyl1584 => (intro w hSw; (try dsimp only at hSw); go_simp; try with_reducible rfl)
      try simp only [Act.put, qGa, qGb, qGc, qSa, qSb, qSc]
      refine wpAnyH_ready (rs := [0]) (by kernel_rfl) (by simp) ?_
      refine AllReadyH.cons rfl (fun K159 hK159 => ?_) AllReadyH.nil
      obtain ⟨W1, hW1⟩ : ∃ x, x = W0.alloc (.cells #[] 78) := ⟨_, rfl⟩
      obtain ⟨ge, hge⟩ : ∃ x, x = W0.heap.size := ⟨_, rfl⟩
      have hr1 : RowsAt W0.heap.size base W1 (.slice (some ⟨ge, 0, none⟩) 0 0) [] := by rw [hW1, hge]; exact rowsAt_empty _ _
      have hb1 : Below W0.heap.size W0 W1 := by rw [hW1]; exact (Below.refl _ _).alloc (Nat.le_refl _) _
      have hnet1 := hnet0.below hb1 hnet0.lt
      go_simp
      rw [← hW1, ← hge]
      clear hW1 hge
      refine hK159.out _ _ trivial (fun hHeld => ?_)
      clear hK159 K159
      try simp only [Act.put, qGa, qGb, qGc, qSa, qSb, qSc]
      refine wpAnyH_ready (rs := [5]) (by kernel_rfl) (by simp) ?_
      refine AllReadyH.cons rfl (fun K161 hK161 => ?_) AllReadyH.nil
      refine stepS_all (w := W1) rfl _ _ rfl W0.heap.size base (.slice (some ⟨ge, 0, none⟩) 0 0) [] (fl.take at0) ⟨b, 0, none⟩ at0 cf rfl rfl hr1 (hT1.below hb1) hw1 hb1.size (by simp; omega) ?_
      intro v2 w2 hr2 hb2
      have hb02 := hb1.trans hb2
      have hnet2 := hnet0.below hb02 hnet0.lt
      rw [List.nil_append] at hr2
      have hr2k := hr2
      obtain ⟨a2, n2, c2, rfl⟩ := hr2.slice
      refine hK161.out _ _ trivial (fun hHeld => ?_)
      clear hK161 K161
      try simp only [Act.put, qGa, qGb, qGc, qSa, qSb, qSc]
      refine wpAnyH_ready (rs := [11]) (by kernel_rfl) (by simp) ?_
      refine AllReadyH.cons rfl (fun K163 hK163 => ?_) AllReadyH.nil
      refine stepS_all (w := w2) rfl _ _ rfl W0.heap.size base (.slice a2 n2 c2) (fl.take at0) (fl.drop (at0 + 1)) ad2 (nf - (at0 + 1)) (cf - (at0 + 1)) rfl rfl hr2k (hT2.below hb02) hw2 hb02.size (by rw [List.length_take]; omega) ?_
      intro v3 w3 hr3 hb3
      have hb03 := hb02.trans hb3
      have hnet3 := hnet0.below hb03 hnet0.lt
      have hres3 := hres0.below hb03 hres0.lt
      have hr3k := hr3
      obtain ⟨a3, n3, c3, rfl⟩ := hr3.slice
      refine hK163.out _ _ trivial (fun hHeld => ?_)
      clear hK163 K163
      try simp only [Act.put, qGa, qGb, qGc, qSa, qSb, qSc]
      refine tk (i := 12) (v := ?vp16412) rfl (by kernel_rfl) (fun _ _ _ h => h) (Or.inl ⟨by rfl, ?hyp16412⟩) (by assumption) ?rp16412
      case hyp16412 => (intro w hSw; (try dsimp only at hSw); go_simp; try with_reducible rfl)
      try simp only [Act.put, qGa, qGb, qGc, qSa, qSb, qSc]
      refine wpAnyH_ready (rs := [13]) (by kernel_rfl) (by simp) ?_
      refine AllReadyH.cons rfl (fun K165 hK165 => ?_) AllReadyH.nil
      have zs := hnet3.cell 1
      have fs := hnet3.frozen 1
      have hnet4 : Blk (w3.setCell ⟨gn, 1, none⟩ (.slice a3 n3 c3)) gn 33 #[.slice an nn cn, .slice a3 n3 c3] := by
        have h := hnet3.set_ 1 (.slice a3 n3 c3)
        simpa using h
      have hO4 := (Only.refl gn w3).setCell 1 (.slice a3 n3 c3)
      have hres4 := hres3.keeps hO4.keeps hne
      go_simp
      refine hK165.out _ _ trivial (fun hHeld => ?_)
      clear hK165 K165
      try simp only [Act.put, qGa, qGb, qGc, qSa, qSb, qSc]
      refine wpAnyH_done (by kernel_rfl) ?_ _
      obtain ⟨W4, hW4⟩ : ∃ x, x = w3.setCell ⟨gn, 1, none⟩ (.slice a3 n3 c3) := ⟨_, rfl⟩
      have hbf : Below w.heap.size w W4 := by rw [hW4]; exact (hbw0.trans (hb03.mono hbw0.size)).setCell (p := ⟨gn, 1, none⟩) hgn _
      have hrk := OwnRows.off (hr3k.own hB0) hnet3 hO4.keeps (by decide) (by decide)
      have hnk := OwnNds.off (hnod0.below hb03 (Nat.le_refl _)) hnet3 hO4.keeps (by decide) (by decide) (by decide) (by decide)
      rw [← hW4] at hnet4 hres4 hrk hnk ⊢
      clear hW4 zs fs hO4
      have o0 := hnet4.cell 0; have o1 := hnet4.cell 1
      have z0 := hres4.cell 0; have z1 := hres4.cell 1
      have y0 := hres4.frozen 0; have y1 := hres4.frozen 1
      have hZ := Blk.set2 hres4 (.slice an nn cn) (.slice a3 n3 c3)
      have hBZ := hbf.set2 hgr (.slice an nn cn) (.slice a3 n3 c3)
      have hOZ := Only.set2 gr W4 (.slice an nn cn) (.slice a3 n3 c3)
      have p0 := hZ.cell 0; have p1 := hZ.cell 1
      have hrz := OwnRows.off hrk hres4 hOZ.keeps (by decide) (by decide)
      have hnz := OwnNds.off hnk hres4 hOZ.keeps (by decide) (by decide) (by decide) (by decide)
      have HBZ := Lib.hid hBZ
      rw [← List.eraseIdx_eq_take_drop_succ] at hrz
      have HR : Hid (NetT base nds (fl.eraseIdx at0) _ (.agg #[.slice an nn cn, .slice a3 n3 c3])) := Lib.hid ⟨_, _, rfl, hnz, hrz⟩
      clear hBZ hZ hOZ hrz hrk hnz hnk hr3k hr2k hr1 hT1 hT2
      go_wp2_with fail
      refine bodyPost_ret (v := .agg #[.slice an nn cn, .slice a3 n3 c3]) (by simp [results, Tryz.results85, go_sem, p0, p1]) rfl ?_
      exact ⟨_, rfl, HR.out, HBZ.out⟩
end Go.Proofs.YtoniahfdjhhalaaGreat
