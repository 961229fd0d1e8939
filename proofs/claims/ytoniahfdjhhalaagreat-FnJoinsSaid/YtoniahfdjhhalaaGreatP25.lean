/- Texts of this claim, put together. -/
import Derived.Test.YtoniahfdjhhalaaGreatP1
import Derived.Test.YtoniahfdjhhalaaGreatP16
import Derived.Test.YtoniahfdjhhalaaGreatP17

namespace Go.Proofs.YtoniahfdjhhalaaGreat
open Go.RowKit
def flatN (nds : List Nd) (vs : List (Value × Value)) : List Value := (nds.zip vs).flatMap fun q => [.int .i64 q.1.me, q.2.1, q.2.2]
theorem flatN_snoc (nds : List Nd) (vs : List (Value × Value)) (h : vs.length = nds.length) (nd : Nd) (p : Value × Value) : flatN (nds ++ [nd]) (vs ++ [p]) = flatN nds vs ++ [.int .i64 nd.me, p.1, p.2] := by
  unfold flatN
  rw [List.zip_append (by omega), List.flatMap_append]
  rfl
theorem flatN_get (nds : List Nd) (vs : List (Value × Value)) (h : vs.length = nds.length) (j : Nat) (hj : j < nds.length) (p : Value × Value) (hp : vs[j]? = some p) :
    (flatN nds vs)[j * 3]? = some (.int .i64 (ND nds j).me) ∧ (flatN nds vs)[j * 3 + 1]? = some p.1 ∧ (flatN nds vs)[j * 3 + 2]? = some p.2 := by
  induction nds generalizing vs j with
  | nil => simp at hj
  | cons x r ih =>
    cases vs with
    | nil => simp at h
    | cons q qs =>
      have hc : flatN (x :: r) (q :: qs) = .int .i64 x.me :: q.1 :: q.2 :: flatN r qs := by simp [flatN, List.zip_cons_cons, List.flatMap_cons]
      rw [hc]
      cases j with
      | zero =>
        simp at hp
        subst hp
        exact ⟨rfl, rfl, rfl⟩
      | succ j =>
        obtain ⟨h1, h2, h3⟩ := ih qs (by simpa using h) j (by simpa using hj) (by simpa using hp)
        rw [show (j + 1) * 3 = j * 3 + 1 + 1 + 1 by omega]
        exact ⟨h1, h2, h3⟩
theorem OwnE.grownT {B base s n : Nat} {t : TypeId} {w w' : World} {v u : Value} {xs : List Value} {es : List Ent} (h : OwnE base w u es) (hown : w.ownsRow B t s v n xs) (hg : w.grownBy w' v.ownBlock) (hne : 47 ≠ t) : OwnE base w' u es :=
  World.ownsRow.kept h hg (ownsRow_tags h hown hne)
theorem OwnRows.grownT {B base s n : Nat} {t : TypeId} {w w' : World} {v u : Value} {xs : List Value} {rows : List (List Int)} (h : OwnRows base w u rows) (hown : w.ownsRow B t s v n xs) (hg : w.grownBy w' v.ownBlock) (hne : 78 ≠ t) (hne2 : 2 ≠ t) : OwnRows base w' u rows := by
  obtain ⟨cells, h1, h2⟩ := h
  refine ⟨cells, World.ownsRow.kept h1 hg (ownsRow_tags h1 hown hne), fun j hj => ?_⟩
  obtain ⟨c, hc, ho⟩ := h2 j hj
  exact ⟨c, hc, World.ownsRow.kept ho hg (ownsRow_tags ho hown hne2)⟩
def OwnNds (base : Nat) (w : World) (v : Value) (nds : List Nd) : Prop :=
  ∃ vs : List (Value × Value), vs.length = nds.length ∧ w.ownsRow base 39 3 v nds.length (flatN nds vs) ∧ ∀ j, j < nds.length → ∃ p, vs[j]? = some p ∧ OwnE base w p.1 (ND nds j).book ∧ OwnRows base w p.2 (ND nds j).acks
def NdWf (nd : Nd) : Prop := AllE nd.book ∧ AllR nd.acks
theorem ownNds_nil (B : Nat) (w : World) : OwnNds B w (.slice none 0 0) [] := ⟨[], rfl, World.ownsRow_nil w B 39 3, fun j hj => by simp at hj⟩
theorem OwnNds.below {base C : Nat} {w w' : World} {v : Value} {nds : List Nd} (h : OwnNds base w v nds) (hb : Below C w w') (hC : w.heap.size ≤ C) : OwnNds base w' v nds := by
  obtain ⟨vs, h0, h1, h2⟩ := h
  refine ⟨vs, h0, ownsRow_below h1 hb hC, fun j hj => ?_⟩
  obtain ⟨p, hp, he, hr⟩ := h2 j hj
  exact ⟨p, hp, he.below hb hC, hr.below hb hC⟩
theorem OwnNds.mono {base base' : Nat} {w : World} {v : Value} {nds : List Nd} (h : OwnNds base w v nds) (hb : base' ≤ base) : OwnNds base' w v nds := by
  obtain ⟨vs, h0, h1, h2⟩ := h
  refine ⟨vs, h0, ?_, fun j hj => ?_⟩
  · refine ⟨h1.1, ?_⟩
    rcases h1.2 with h3 | ⟨g, cap, cur, hv, hg, r⟩
    · exact .inl h3
    · exact .inr ⟨g, cap, cur, hv, by omega, r⟩
  · obtain ⟨p, hp, he, hr⟩ := h2 j hj
    exact ⟨p, hp, he.mono hb, hr.mono hb⟩
theorem OwnNds.off {base g : Nat} {t' : TypeId} {w w' : World} {v : Value} {nds : List Nd} {cs : Array Value} (h : OwnNds base w v nds) (hb : Blk w g t' cs) (hk : Keeps g w w') (n1 : 39 ≠ t') (n2 : 47 ≠ t') (n3 : 78 ≠ t') (n4 : 2 ≠ t') : OwnNds base w' v nds := by
  obtain ⟨vs, h0, h1, h2⟩ := h
  refine ⟨vs, h0, row_off h1 hb hk n1, fun j hj => ?_⟩
  obtain ⟨p, hp, he, hr⟩ := h2 j hj
  exact ⟨p, hp, he.off hb hk n2, hr.off hb hk n3 n4⟩
theorem infoN : (Tryz.prog.info? 39).map (fun i => (i.zero, i.size, i.bytes)) = some (some (.agg #[.int .i64 0, .slice none 0 0, .slice none 0 0]), 3, 56) := by kernel_rfl
theorem ND_snoc_old {nds : List Nd} {nd : Nd} {j : Nat} (h : j < nds.length) : ND (nds ++ [nd]) j = ND nds j := by
  rw [ND_get (by simp; omega), ND_get h, List.getElem_append_left h]
theorem ND_snoc_new {nds : List Nd} {nd : Nd} : ND (nds ++ [nd]) nds.length = nd := by
  rw [ND_get (by simp)]
  simp
theorem OwnNds.nds {base : Nat} {w : World} {v : Value} {nds : List Nd} (h : OwnNds base w v nds) (hw : ∀ j, j < nds.length → NdWf (ND nds j)) : ∃ ao cap, v = .slice ao nds.length cap ∧ Nds w.heap.size w ao nds.length cap nds ∧ (ao = none → cap = 0) := by
  obtain ⟨vs, h0, h1, h2⟩ := h
  rcases h1.2 with ⟨rfl, h3⟩ | ⟨g, cap, cur, rfl, hb, hg, hn, hm, hs, ht⟩
  · have : nds = [] := List.eq_nil_of_length_eq_zero h3
    subst this
    exact ⟨none, 0, rfl, ⟨rfl, Nat.le_refl _, by unfold maxLen; omega, fun j hj => by simp at hj⟩, fun _ => rfl⟩
  · refine ⟨some ⟨g, 0, none⟩, cap, rfl, ⟨rfl, hn, hm, fun j hj => ?_⟩, fun h => by cases h⟩
    obtain ⟨p, hp, he, hr⟩ := h2 j hj
    obtain ⟨f0, f1, f2⟩ := flatN_get nds vs h0 j hj p hp
    obtain ⟨ab, cb, e1, hei, hez⟩ := he.ents (hw j hj).1
    obtain ⟨aa, ca, e2, hri, -⟩ := hr.rows (hw j hj).2
    have hc : ∀ k u, k < 3 → (flatN nds vs)[j * 3 + k]? = some u → w.cell? ⟨g, 0 + j * 3 + k, none⟩ = some u := fun k u hk hu => by
      rw [Nat.zero_add, cell_of_row w g (j * 3 + k) cur _ (0, 0) hg, ← hu, ← ht, List.getElem?_take, if_pos (by omega)]
      simp
    exact ⟨g, 0, rfl, (Array.getElem?_eq_some_iff.1 hg).1, ab, _, cb, aa, _, ca, hc 0 _ (by omega) f0, by rw [hc 1 _ (by omega) f1, e1], by rw [hc 2 _ (by omega) f2, e2], hei, hez, hri⟩
structure AsideN (w w' : World) : Prop where
  blk : ∀ (g : Nat) (t : TypeId) (cs : Array Value), t ≠ 39 → Blk w g t cs → Blk w' g t cs
  row : ∀ (base s n : Nat) (t : TypeId) (v : Value) (xs : List Value), t ≠ 39 → w.ownsRow base t s v n xs → w'.ownsRow base t s v n xs
theorem stepN_one {ops : Array Oper} {o : Oper} {a : Act} {K : Act → World → Prop} {Q : Exit → Act → World → Prop} {E : Prop} {w : World} (nd : Nd) (bv av : Value)
    (hgd : o.guard = none) (s x : Operand) (ho : o.op = .call { callee := .builtin .append, args := #[s, x], argTypes := #[30, 30] })
    (B : Nat) (v : Value) (nds : List Nd) (hs : a.eval s = v) (hx : a.eval x = .slice (some ⟨w.heap.size, 0, none⟩) 1 1)
    (hown : OwnNds B w v nds) (hbv : OwnE B w bv nd.book) (hav : OwnRows B w av nd.acks) (hw : NdWf nd) (hB : B ≤ w.heap.size) (hlen : nds.length ≤ 1099511627776)
    (hK : ∀ v' w', OwnNds B w' v' (nds ++ [nd]) → Below B w w' → AsideN w w' → K (a.put o.dst v') w') :
    if Region.wanted o (yielded ops a.tmps) = true then Oper.wp Tryz.prog o a (w.alloc (.cells #[.int .i64 nd.me, bv, av] 39)) K Q else E := by
  have hw1 : Region.wanted o (yielded ops a.tmps) = true := by simp [Region.wanted, hgd]
  rw [if_pos hw1]
  obtain ⟨i0, hi, hz0, hz1, hz2⟩ := info_parts infoN
  obtain ⟨vs, h0, h1, h2⟩ := hown
  have hone : ∀ u ∈ [Value.int .i64 nd.me, bv, av], u.oneCell' = true := by
    intro u hu
    obtain ⟨ao, cap, hb1, _⟩ := hbv.ents hw.1
    obtain ⟨ao2, cap2, hb2, _⟩ := hav.rows hw.2
    simp at hu
    rcases hu with rfl | rfl | rfl
    · rfl
    · rw [hb1]; rfl
    · rw [hb2]; rfl
  refine wp_append_own _ s x 30 ho B 39 i0 _ 3 56 Tryz.underlying30 hi hz0 hz1 hz2 rfl (by decide) v nds.length (flatN nds vs) hs (World.ownsRow.alloc h1 _)
    ⟨w.heap.size, 0, none⟩ 1 1 [.int .i64 nd.me, bv, av] hx rfl ?c1 hone ?c3 ?c4 ?c5 ?_
  case c1 =>
    intro j u hu
    rw [Addr.add_lit, Nat.zero_add, cell_of_row _ _ j #[.int .i64 nd.me, bv, av] 39 (0, 0) (heap_alloc_new w _)]
    simpa using hu
  case c3 => unfold maxLen; omega
  case c4 => omega
  case c5 => simp; omega
  intro v' w' hown' hgrow _
  have h1a := World.ownsRow.alloc h1 (.cells #[.int .i64 nd.me, bv, av] 39)
  have hstE : ∀ (u : Value) (es : List Ent), OwnE B w u es → OwnE B w' u es := fun u es hh => OwnE.grownT (hh.alloc _) h1a hgrow (by decide)
  have hstR : ∀ (u : Value) (rows : List (List Int)), OwnRows B w u rows → OwnRows B w' u rows := fun u rows hh => OwnRows.grownT (hh.alloc _) h1a hgrow (by decide) (by decide)
  refine hK v' w' ⟨vs ++ [(bv, av)], by simp [h0], ?_, fun j hj => ?_⟩ ?_ ⟨fun g t cs hne hb => (hb.alloc _).asideT h1a hne hgrow, fun base s n t v xs hne hh => World.ownsRow.kept (World.ownsRow.alloc hh _) hgrow (ownsRow_tags hh h1 hne)⟩
  · rw [List.length_append, flatN_snoc nds vs h0]
    exact hown'
  · rw [List.length_append, List.length_singleton] at hj
    by_cases hjl : j < nds.length
    · obtain ⟨p, hp, he, hr⟩ := h2 j hjl
      refine ⟨p, by rw [List.getElem?_append_left (by omega)]; exact hp, ?_⟩
      rw [ND_snoc_old hjl]
      exact ⟨hstE _ _ he, hstR _ _ hr⟩
    · have ej : j = nds.length := by omega
      subst ej
      refine ⟨(bv, av), by rw [List.getElem?_append_right (by omega), h0]; simp, ?_⟩
      rw [ND_snoc_new]
      exact ⟨hstE _ _ hbv, hstR _ _ hav⟩
  · refine ((Below.refl B w).alloc hB _).grown hgrow (by simp; omega) ?_
    intro k hk
    exact (World.ownsRow.lt h1 k hk).1
theorem Blk.set2 {w : World} {g : Nat} {t : TypeId} {a b : Value} (h : Blk w g t #[a, b]) (a' b' : Value) : Blk ((w.setCell ⟨g, 0, none⟩ a').setCell ⟨g, 1, none⟩ b') g t #[a', b'] := by
  have h4 := (h.set_ 0 a').set_ 1 b'
  simpa using h4
theorem _root_.Go.RowKit.Below.set2 {B : Nat} {w w' : World} {g : Nat} (h : Below B w w') (hg : B ≤ g) (a b : Value) : Below B w ((w'.setCell ⟨g, 0, none⟩ a).setCell ⟨g, 1, none⟩ b) :=
  (h.setCell (p := ⟨g, 0, none⟩) hg a).setCell (p := ⟨g, 1, none⟩) hg b
theorem Only.set2 (g : Nat) (w : World) (a b : Value) : Only g w ((w.setCell ⟨g, 0, none⟩ a).setCell ⟨g, 1, none⟩ b) :=
  ((Only.refl g w).setCell 0 a).setCell 1 b
def NetPost (nds : List Nd) (fl : List (List Int)) (w : World) (e : Ending) (w' : World) : Prop := ∃ nv fv, e = .returned (.agg #[nv, fv]) ∧ OwnNds w.heap.size w' nv nds ∧ OwnRows w.heap.size w' fv fl ∧ Below w.heap.size w w'
def nodesTo (k : Nat) : List Nd := (List.range k).map fun i : Nat => newNode (i : Int)
def newNet (n : Int) : List Nd := if n ≤ 4 then nodesTo n.toNat else []
theorem nodesTo_succ (k : Nat) : nodesTo (k + 1) = nodesTo k ++ [newNode k] := by simp [nodesTo, List.range_succ]
theorem nodesTo_len (k : Nat) : (nodesTo k).length = k := by simp [nodesTo]
theorem newNode_wf (me : Int) : NdWf (newNode me) := by
  unfold newNode
  split
  · exact ⟨(fun e he => by cases he), zeros_wf⟩
  · exact ⟨(fun e he => by cases he), (fun r hr => by cases hr)⟩
theorem nodesTo_wf (k j : Nat) (hj : j < (nodesTo k).length) : NdWf (ND (nodesTo k) j) := by
  rw [ND_get hj]
  simp only [nodesTo, List.getElem_map]
  exact newNode_wf _
set_option linter.unusedSimpArgs false in
set_option maxHeartbeats 4000000 in
set_option maxRecDepth 100000 in
theorem specNewNet_any (n : Int) (w : World) :
    Calls Tryz.prog 24 #[.int .i64 n] w (NetPost (newNet n) [] w) := by
  obtain ⟨wb, hwb⟩ : ∃ wb, wb = w.alloc (.cells #[.slice none 0 0, .slice none 0 0] 33) := ⟨_, rfl⟩
  obtain ⟨gr, hgr0⟩ : ∃ g, g = w.heap.size := ⟨_, rfl⟩
  have hres : Blk wb gr 33 #[.slice none 0 0, .slice none 0 0] := by rw [hwb, hgr0]; exact Blk.new _ _ _
  have hb0 : Below w.heap.size w wb := by rw [hwb]; exact (Below.refl _ _).alloc (Nat.le_refl _) _
  have hgr : w.heap.size ≤ gr := by omega
  have hs0 := hb0.size
  have hsr := hres.lt
  have HRES : Hid (∀ w', Below wb.heap.size wb w' → Blk w' gr 33 #[.slice none 0 0, .slice none 0 0]) := Lib.hid (fun w' h => hres.below h hsr)
  have HA : Hid (∀ w', Below wb.heap.size wb w' → Below w.heap.size w w') := Lib.hid (fun w' h => hb0.trans (h.mono hs0))
  obtain ⟨wc, hwc⟩ : ∃ x, x = wb.alloc (.cells #[.slice none 0 0, .slice none 0 0] 33) := ⟨_, rfl⟩
  obtain ⟨go, hgo0⟩ : ∃ x, x = wb.heap.size := ⟨_, rfl⟩
  have hout0 : Blk wc go 33 #[.slice none 0 0, .slice none 0 0] := by rw [hwc, hgo0]; exact Blk.new _ _ _
  have hbx : Below wb.heap.size wb wc := by rw [hwc]; exact (Below.refl _ _).alloc (Nat.le_refl _) _
  have hgo : wb.heap.size ≤ go := by omega
  have hne : gr ≠ go := by omega
  obtain ⟨m, hm⟩ : ∃ m, (if n ≤ 4 then n.toNat else 0) = m := ⟨_, rfl⟩
  have hnet : newNet n = nodesTo m := by
    rw [newNet, ← hm]
    split
    · rfl
    · rfl
  have hm4 : m ≤ 4 := by
    rw [← hm]
    split <;> omega
  have hlo : ∀ i : Nat, i < m → (i : Int) < n ∧ n ≤ 4 := fun i hi => by
    rw [← hm] at hi
    split at hi <;> omega
  have hhi : ¬ ((m : Int) < n ∧ n ≤ 4) := by
    rw [← hm]
    split <;> omega
  have HNET := Lib.hid hnet; have HLO := Lib.hid hlo; have HHI := Lib.hid hhi; clear hnet hlo hhi hm
  go_enter Tryz.func24, Tryz.ntmps24
  go_upto_region 1 with fail
  rw [← hwb, ← hgr0]
  clear hwb hgr0
  go_upto_region 2 with fail
  rw [← hwc, ← hgo0]
  clear hwc hgo0
  go_wp2
  go_loopw [4] (fun s4 wr => ∃ (i : Nat) (ak : Option Addr) (nk ck : Nat), i ≤ m ∧ s4 = .int .i64 i ∧ Blk wr go 33 #[.slice ak nk ck, .slice none 0 0] ∧ OwnNds wb.heap.size wr (.slice ak nk ck) (nodesTo i) ∧ Below wb.heap.size wb wr) (fun s4 _ => m - (intOf s4).toNat)
  case atStart => exact ⟨0, none, 0, 0, Nat.zero_le _, rfl, hout0, ownNds_nil _ _, hbx⟩
  case round =>
    obtain ⟨i, ak, nk, ck, hi, rfl, hout, hown, hbel⟩ := hrel
    have hsz := hbel.size
    by_cases hlt : i < m
    · obtain ⟨i1, i2⟩ := HLO.out i hlt
      have htk := nodesTo_succ i
      have hndw := newNode_wf i
      have hnds2 : ∀ j, j < (nodesTo i ++ [newNode i]).length → NdWf (ND (nodesTo i ++ [newNode i]) j) := fun j hj => by
        rw [← htk] at hj ⊢
        exact nodesTo_wf _ j hj
      have HNN : Hid (∀ w', Calls Tryz.prog 36 #[.int .i64 i] w' (NodePost (newNode i) w')) := Lib.hid (fun w' => specNewNode_any i w')
      have htl : (nodesTo i).length ≤ 1099511627776 := by rw [nodesTo_len]; omega
      have HTK := Lib.hid htk; clear htk
      generalize newNode i = nd at HNN hndw hnds2 HTK
      go_wp2_with fail
      refine wp_region_held_drew (S := fun _ => True) (by kernel_rfl) trivial (fun hHeld => ?_)
      obtain ⟨W0, hW0⟩ : ∃ x, x = wr.drew := ⟨_, rfl⟩
      have hbW : Below wb.heap.size wb W0 := by rw [hW0]; exact hbel.drew
      have houtW : Blk W0 go 33 #[.slice ak nk ck, .slice none 0 0] := by rw [hW0]; exact hout
      have horW : OwnNds wb.heap.size W0 (.slice ak nk ck) (nodesTo i) := by rw [hW0]; exact hown.below (Below.refl wr.heap.size wr).drew (Nat.le_refl _)
      rw [← hW0]
      clear hW0
      refine tk (i := 0) (v := ?vj0) rfl (by kernel_rfl) (fun _ _ _ h => h) (Or.inl ⟨by rfl, ?hyj0⟩) (by assumption) ?rj0
      case hyj0 => (intro w hSw; (try dsimp only at hSw); go_simp; try with_reducible rfl)
      try simp only [Act.put, qGa, qGb, qGc, qSa, qSb, qSc]
      refine tk (i := 2) (v := ?vj2) rfl (by kernel_rfl) (fun _ _ _ h => h) (Or.inl ⟨by rfl, ?hyj2⟩) (by assumption) ?rj2
      case hyj2 => (intro w hSw; (try dsimp only at hSw); go_simp; try with_reducible rfl)
      try simp only [Act.put, qGa, qGb, qGc, qSa, qSb, qSc]
      refine wpAnyH_ready (rs := [1, 3]) (by kernel_rfl) (by simp) ?_
      refine AllReadyH.cons rfl (fun K1 hK1 => ?_) (AllReadyH.cons rfl (fun K2 hK2 => ?_) AllReadyH.nil)
      · have zl := houtW.cell 0
        go_simp
        refine hK1.out _ _ trivial (fun hHeld => ?_)
        clear hK1 K1 zl
        try simp only [Act.put, qGa, qGb, qGc, qSa, qSb, qSc]
        refine wpAnyH_ready (rs := [3]) (by kernel_rfl) (by simp) ?_
        refine AllReadyH.cons rfl (fun K4 hK4 => ?_) AllReadyH.nil
        go_simp
        refine (HNN.out _).mono ?_
        rintro e w2 ⟨bv, av, rfl, hbv, hav, hb2⟩
        have hbel2 := hbW.trans (hb2.mono hbW.size)
        have hbvk := hbv.mono hbW.size
        have havk := hav.mono hbW.size
        obtain ⟨a2, c2, rfl, -⟩ := hbv.ents hndw.1
        obtain ⟨a3, c3, rfl, -⟩ := hav.rows hndw.2
        have hout2 := houtW.below hb2 houtW.lt
        have hor2 := horW.below hb2 (Nat.le_refl _)
        go_wp2_with fail
        refine hK4.out _ _ trivial (fun hHeld => ?_)
        clear hK4 K4
        try simp only [Act.put, qGa, qGb, qGc, qSa, qSb, qSc]
        refine wpAnyH_ready (rs := [4]) (by kernel_rfl) (by simp) ?_
        refine AllReadyH.cons rfl (fun K6 hK6 => ?_) AllReadyH.nil
        obtain ⟨W3, hW3⟩ : ∃ x, x = w2.alloc (.cells #[.int .i64 nd.me, .slice a2 nd.book.length c2, .slice a3 nd.acks.length c3] 39) := ⟨_, rfl⟩
        have hbel3 : Below wb.heap.size wb W3 := by rw [hW3]; exact hbel2.alloc hbel2.size _
        have hout3 : Blk W3 go 33 #[.slice ak nk ck, .slice none 0 0] := by rw [hW3]; exact hout2.alloc _
        have HW3 := Lib.hid hW3; clear hW3
        go_simp
        rw [← HW3.out]
        refine hK6.out _ _ trivial (fun hHeld => ?_)
        clear hK6 K6
        try simp only [Act.put, qGa, qGb, qGc, qSa, qSb, qSc]
        refine wpAnyH_ready (rs := [5]) (by kernel_rfl) (by simp) ?_
        refine AllReadyH.cons rfl (fun K8 hK8 => ?_) AllReadyH.nil
        rw [HW3.out]
        refine stepN_one (w := w2) nd (.slice a2 nd.book.length c2) (.slice a3 nd.acks.length c3) rfl _ _ rfl wb.heap.size (.slice ak nk ck) (nodesTo i) rfl rfl hor2 hbvk havk hndw hbel2.size htl ?_
        intro v4 w4 hor4 hb4 haside
        have hbel4 := hbel2.trans hb4
        have hout4 := haside.blk go _ _ (by decide) hout2
        have hor4k := hor4
        obtain ⟨a4, c4, rfl, -⟩ := hor4.nds hnds2
        obtain ⟨n4, hn4⟩ : ∃ n4, (nodesTo i ++ [nd]).length = n4 := ⟨_, rfl⟩
        rw [hn4] at hor4k ⊢
        clear hn4
        refine hK8.out _ _ trivial (fun hHeld => ?_)
        clear hK8 K8 HW3 hbel3 hout3
        try simp only [Act.put, qGa, qGb, qGc, qSa, qSb, qSc]
        refine tk (i := 6) (v := ?vq96) rfl (by kernel_rfl) (fun _ _ _ h => h) (Or.inl ⟨by rfl, ?hyq96⟩) (by assumption) ?rq96
        case hyq96 => (intro w hSw; (try dsimp only at hSw); go_simp; try with_reducible rfl)
        try simp only [Act.put, qGa, qGb, qGc, qSa, qSb, qSc]
        refine wpAnyH_ready (rs := [7]) (by kernel_rfl) (by simp) ?_
        refine AllReadyH.cons rfl (fun K10 hK10 => ?_) AllReadyH.nil
        have z0 := hout4.cell 0
        have f0 := hout4.frozen 0
        have hout5 : Blk (w4.setCell ⟨go, 0, none⟩ (.slice a4 n4 c4)) go 33 #[.slice a4 n4 c4, .slice none 0 0] := by
          have h := hout4.set_ 0 (.slice a4 n4 c4)
          simpa using h
        have hbel5 := hbel4.setCell (p := ⟨go, 0, none⟩) hgo (.slice a4 n4 c4)
        have hO5 := (Only.refl go w4).setCell 0 (.slice a4 n4 c4)
        have hor5 := OwnNds.off hor4k hout4 hO5.keeps (by decide) (by decide) (by decide) (by decide)
        go_simp
        refine hK10.out _ _ trivial (fun hHeld => ?_)
        clear hK10 K10
        try simp only [Act.put, qGa, qGb, qGc, qSa, qSb, qSc]
        refine wpAnyH_done (by kernel_rfl) ?_ _
        go_wp2_with fail
        go_roundw
        case rel => exact ⟨i + 1, _, _, _, by omega, by go_num, hout5, by rw [HTK.out]; exact hor5, hbel5⟩
        case measure => simp [intOf]; omega
      · go_simp
        refine (HNN.out _).mono ?_
        rintro e w2 ⟨bv, av, rfl, hbv, hav, hb2⟩
        have hbel2 := hbW.trans (hb2.mono hbW.size)
        have hbvk := hbv.mono hbW.size
        have havk := hav.mono hbW.size
        obtain ⟨a2, c2, rfl, -⟩ := hbv.ents hndw.1
        obtain ⟨a3, c3, rfl, -⟩ := hav.rows hndw.2
        have hout2 := houtW.below hb2 houtW.lt
        have hor2 := horW.below hb2 (Nat.le_refl _)
        go_wp2_with fail
        refine hK2.out _ _ trivial (fun hHeld => ?_)
        clear hK2 K2
        try simp only [Act.put, qGa, qGb, qGc, qSa, qSb, qSc]
        refine wpAnyH_ready (rs := [1, 4]) (by kernel_rfl) (by simp) ?_
        refine AllReadyH.cons rfl (fun K13 hK13 => ?_) (AllReadyH.cons rfl (fun K14 hK14 => ?_) AllReadyH.nil)
        · have zl := hout2.cell 0
          go_simp
          refine hK13.out _ _ trivial (fun hHeld => ?_)
          clear hK13 K13 zl
          try simp only [Act.put, qGa, qGb, qGc, qSa, qSb, qSc]
          refine wpAnyH_ready (rs := [4]) (by kernel_rfl) (by simp) ?_
          refine AllReadyH.cons rfl (fun K16 hK16 => ?_) AllReadyH.nil
          obtain ⟨W3, hW3⟩ : ∃ x, x = w2.alloc (.cells #[.int .i64 nd.me, .slice a2 nd.book.length c2, .slice a3 nd.acks.length c3] 39) := ⟨_, rfl⟩
          have hbel3 : Below wb.heap.size wb W3 := by rw [hW3]; exact hbel2.alloc hbel2.size _
          have hout3 : Blk W3 go 33 #[.slice ak nk ck, .slice none 0 0] := by rw [hW3]; exact hout2.alloc _
          have HW3 := Lib.hid hW3; clear hW3
          go_simp
          rw [← HW3.out]
          refine hK16.out _ _ trivial (fun hHeld => ?_)
          clear hK16 K16
          try simp only [Act.put, qGa, qGb, qGc, qSa, qSb, qSc]
          refine wpAnyH_ready (rs := [5]) (by kernel_rfl) (by simp) ?_
          refine AllReadyH.cons rfl (fun K18 hK18 => ?_) AllReadyH.nil
          rw [HW3.out]
          refine stepN_one (w := w2) nd (.slice a2 nd.book.length c2) (.slice a3 nd.acks.length c3) rfl _ _ rfl wb.heap.size (.slice ak nk ck) (nodesTo i) rfl rfl hor2 hbvk havk hndw hbel2.size htl ?_
          intro v4 w4 hor4 hb4 haside
          have hbel4 := hbel2.trans hb4
          have hout4 := haside.blk go _ _ (by decide) hout2
          have hor4k := hor4
          obtain ⟨a4, c4, rfl, -⟩ := hor4.nds hnds2
          obtain ⟨n4, hn4⟩ : ∃ n4, (nodesTo i ++ [nd]).length = n4 := ⟨_, rfl⟩
          rw [hn4] at hor4k ⊢
          clear hn4
          refine hK18.out _ _ trivial (fun hHeld => ?_)
          clear hK18 K18 HW3 hbel3 hout3
          try simp only [Act.put, qGa, qGb, qGc, qSa, qSb, qSc]
          refine tk (i := 6) (v := ?vq196) rfl (by kernel_rfl) (fun _ _ _ h => h) (Or.inl ⟨by rfl, ?hyq196⟩) (by assumption) ?rq196
          case hyq196 => (intro w hSw; (try dsimp only at hSw); go_simp; try with_reducible rfl)
          try simp only [Act.put, qGa, qGb, qGc, qSa, qSb, qSc]
          refine wpAnyH_ready (rs := [7]) (by kernel_rfl) (by simp) ?_
          refine AllReadyH.cons rfl (fun K20 hK20 => ?_) AllReadyH.nil
          have z0 := hout4.cell 0
          have f0 := hout4.frozen 0
          have hout5 : Blk (w4.setCell ⟨go, 0, none⟩ (.slice a4 n4 c4)) go 33 #[.slice a4 n4 c4, .slice none 0 0] := by
            have h := hout4.set_ 0 (.slice a4 n4 c4)
            simpa using h
          have hbel5 := hbel4.setCell (p := ⟨go, 0, none⟩) hgo (.slice a4 n4 c4)
          have hO5 := (Only.refl go w4).setCell 0 (.slice a4 n4 c4)
          have hor5 := OwnNds.off hor4k hout4 hO5.keeps (by decide) (by decide) (by decide) (by decide)
          go_simp
          refine hK20.out _ _ trivial (fun hHeld => ?_)
          clear hK20 K20
          try simp only [Act.put, qGa, qGb, qGc, qSa, qSb, qSc]
          refine wpAnyH_done (by kernel_rfl) ?_ _
          go_wp2_with fail
          go_roundw
          case rel => exact ⟨i + 1, _, _, _, by omega, by go_num, hout5, by rw [HTK.out]; exact hor5, hbel5⟩
          case measure => simp [intOf]; omega
        · obtain ⟨W3, hW3⟩ : ∃ x, x = w2.alloc (.cells #[.int .i64 nd.me, .slice a2 nd.book.length c2, .slice a3 nd.acks.length c3] 39) := ⟨_, rfl⟩
          have hbel3 : Below wb.heap.size wb W3 := by rw [hW3]; exact hbel2.alloc hbel2.size _
          have hout3 : Blk W3 go 33 #[.slice ak nk ck, .slice none 0 0] := by rw [hW3]; exact hout2.alloc _
          have HW3 := Lib.hid hW3; clear hW3
          go_simp
          rw [← HW3.out]
          refine hK14.out _ _ trivial (fun hHeld => ?_)
          clear hK14 K14
          try simp only [Act.put, qGa, qGb, qGc, qSa, qSb, qSc]
          refine wpAnyH_ready (rs := [1]) (by kernel_rfl) (by simp) ?_
          refine AllReadyH.cons rfl (fun K23 hK23 => ?_) AllReadyH.nil
          have zl := hout3.cell 0
          go_simp
          refine hK23.out _ _ trivial (fun hHeld => ?_)
          clear hK23 K23 zl
          try simp only [Act.put, qGa, qGb, qGc, qSa, qSb, qSc]
          refine wpAnyH_ready (rs := [5]) (by kernel_rfl) (by simp) ?_
          refine AllReadyH.cons rfl (fun K25 hK25 => ?_) AllReadyH.nil
          rw [HW3.out]
          refine stepN_one (w := w2) nd (.slice a2 nd.book.length c2) (.slice a3 nd.acks.length c3) rfl _ _ rfl wb.heap.size (.slice ak nk ck) (nodesTo i) rfl rfl hor2 hbvk havk hndw hbel2.size htl ?_
          intro v4 w4 hor4 hb4 haside
          have hbel4 := hbel2.trans hb4
          have hout4 := haside.blk go _ _ (by decide) hout2
          have hor4k := hor4
          obtain ⟨a4, c4, rfl, -⟩ := hor4.nds hnds2
          obtain ⟨n4, hn4⟩ : ∃ n4, (nodesTo i ++ [nd]).length = n4 := ⟨_, rfl⟩
          rw [hn4] at hor4k ⊢
          clear hn4
          refine hK25.out _ _ trivial (fun hHeld => ?_)
          clear hK25 K25 HW3 hbel3 hout3
          try simp only [Act.put, qGa, qGb, qGc, qSa, qSb, qSc]
          refine tk (i := 6) (v := ?vq266) rfl (by kernel_rfl) (fun _ _ _ h => h) (Or.inl ⟨by rfl, ?hyq266⟩) (by assumption) ?rq266
          case hyq266 => (intro w hSw; (try dsimp only at hSw); go_simp; try with_reducible rfl)
          try simp only [Act.put, qGa, qGb, qGc, qSa, qSb, qSc]
          refine wpAnyH_ready (rs := [7]) (by kernel_rfl) (by simp) ?_
          refine AllReadyH.cons rfl (fun K27 hK27 => ?_) AllReadyH.nil
          have z0 := hout4.cell 0
          have f0 := hout4.frozen 0
          have hout5 : Blk (w4.setCell ⟨go, 0, none⟩ (.slice a4 n4 c4)) go 33 #[.slice a4 n4 c4, .slice none 0 0] := by
            have h := hout4.set_ 0 (.slice a4 n4 c4)
            simpa using h
          have hbel5 := hbel4.setCell (p := ⟨go, 0, none⟩) hgo (.slice a4 n4 c4)
          have hO5 := (Only.refl go w4).setCell 0 (.slice a4 n4 c4)
          have hor5 := OwnNds.off hor4k hout4 hO5.keeps (by decide) (by decide) (by decide) (by decide)
          go_simp
          refine hK27.out _ _ trivial (fun hHeld => ?_)
          clear hK27 K27
          try simp only [Act.put, qGa, qGb, qGc, qSa, qSb, qSc]
          refine wpAnyH_done (by kernel_rfl) ?_ _
          go_wp2_with fail
          go_roundw
          case rel => exact ⟨i + 1, _, _, _, by omega, by go_num, hout5, by rw [HTK.out]; exact hor5, hbel5⟩
          case measure => simp [intOf]; omega
    · have ek : i = m := by omega
      subst ek
      have hhi := HHI.out
      have hownk := hown
      have hresr := HRES.out wr hbel
      have hBr := HA.out wr hbel
      have o0 := hout.cell 0; have o1 := hout.cell 1
      have z0 := hresr.cell 0; have z1 := hresr.cell 1
      have y0 := hresr.frozen 0; have y1 := hresr.frozen 1
      have hZ := Blk.set2 hresr (.slice ak nk ck) (.slice none 0 0)
      have hBZ := hBr.set2 hgr (.slice ak nk ck) (.slice none 0 0)
      have hOZ := Only.set2 gr wr (.slice ak nk ck) (.slice none 0 0)
      have p0 := hZ.cell 0; have p1 := hZ.cell 1
      have ho2 := (OwnNds.off hownk hresr hOZ.keeps (by decide) (by decide) (by decide) (by decide)).mono hs0
      have HBZ := Lib.hid hBZ; have HO2 := Lib.hid ho2
      clear hBZ ho2 hOZ hZ
      by_cases hn : (i : Int) < n
      · have hn4 : ¬ n ≤ 4 := fun h => hhi ⟨hn, h⟩
        clear hhi
        go_wp2_with fail
        refine bodyPost_ret (v := .agg #[.slice ak nk ck, .slice none 0 0]) (by simp [results, Tryz.results24, go_sem, p0, p1]) rfl ?_
        exact ⟨_, _, rfl, by rw [HNET.out]; exact HO2.out, ownRows_nil _ _, HBZ.out⟩
      · clear hhi
        go_wp2_with fail
        refine bodyPost_ret (v := .agg #[.slice ak nk ck, .slice none 0 0]) (by simp [results, Tryz.results24, go_sem, p0, p1]) rfl ?_
        exact ⟨_, _, rfl, by rw [HNET.out]; exact HO2.out, ownRows_nil _ _, HBZ.out⟩
end Go.Proofs.YtoniahfdjhhalaaGreat
