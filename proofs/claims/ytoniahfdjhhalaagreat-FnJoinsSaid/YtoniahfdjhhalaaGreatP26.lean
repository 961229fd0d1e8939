/- Texts of this claim, put together. -/
import Derived.Test.YtoniahfdjhhalaaGreatP1
import Derived.Test.YtoniahfdjhhalaaGreatP23
import Derived.Test.YtoniahfdjhhalaaGreatP25

namespace Go.Proofs.YtoniahfdjhhalaaGreat
open Go.RowKit
def Lone (cells : List Value) : Prop := ∀ (j k : Nat) (c d : Value), j ≠ k → cells[j]? = some c → cells[k]? = some d → c.ownBlock = none ∨ c.ownBlock ≠ d.ownBlock
def OwnRowsL (base : Nat) (w : World) (v : Value) (rows : List (List Int)) : Prop :=
  ∃ cells : List Value, w.ownsRow base 78 1 v rows.length cells ∧ (∀ j, j < rows.length → ∃ c, cells[j]? = some c ∧ Own base w c (RW rows j)) ∧ Lone cells
theorem OwnRowsL.own {base : Nat} {w : World} {v : Value} {rows : List (List Int)} (h : OwnRowsL base w v rows) : OwnRows base w v rows := by
  obtain ⟨cells, h1, h2, _⟩ := h
  exact ⟨cells, h1, h2⟩
theorem ownRowsL_nil (B : Nat) (w : World) : OwnRowsL B w (.slice none 0 0) [] := ⟨[], World.ownsRow_nil w B 78 1, fun j hj => by simp at hj, fun j k c d _ h _ => by simp at h⟩
theorem OwnRowsL.below {base C : Nat} {w w' : World} {v : Value} {rows : List (List Int)} (h : OwnRowsL base w v rows) (hb : Below C w w') (hC : w.heap.size ≤ C) : OwnRowsL base w' v rows := by
  obtain ⟨cells, h1, h2, h3⟩ := h
  refine ⟨cells, ownsRow_below h1 hb hC, fun j hj => ?_, h3⟩
  obtain ⟨c, hc, ho⟩ := h2 j hj
  exact ⟨c, hc, ho.below hb hC⟩
theorem OwnRowsL.off {base g : Nat} {t' : TypeId} {w w' : World} {v : Value} {rows : List (List Int)} {cs : Array Value} (h : OwnRowsL base w v rows) (hb : Blk w g t' cs) (hk : Keeps g w w') (hne : 78 ≠ t') (hne2 : 2 ≠ t') : OwnRowsL base w' v rows := by
  obtain ⟨cells, h1, h2, h3⟩ := h
  refine ⟨cells, row_off h1 hb hk hne, fun j hj => ?_, h3⟩
  obtain ⟨c, hc, ho⟩ := h2 j hj
  exact ⟨c, hc, ho.off hb hk hne2⟩
theorem stepL_one {ops : Array Oper} {o : Oper} {a : Act} {K : Act → World → Prop} {Q : Exit → Act → World → Prop} {E : Prop} {w0 w : World} (c : Value) (row : List Int)
    (hgd : o.guard = none) (s x : Operand) (ho : o.op = .call { callee := .builtin .append, args := #[s, x], argTypes := #[31, 31] })
    (B : Nat) (v : Value) (rows : List (List Int)) (hs : a.eval s = v) (hx : a.eval x = .slice (some ⟨w.heap.size, 0, none⟩) 1 1)
    (hown0 : OwnRowsL B w0 v rows) (hb0 : Below w0.heap.size w0 w) (hc : Own w0.heap.size w c row) (hcw : AllI64 row) (hB : B ≤ w0.heap.size) (hlen : rows.length ≤ 1099511627776)
    (hK : ∀ v' w', OwnRowsL B w' v' (rows ++ [row]) → Below B w w' → Aside w w' → K (a.put o.dst v') w') :
    if Region.wanted o (yielded ops a.tmps) = true then Oper.wp Tryz.prog o a (w.alloc (.cells #[c] 78)) K Q else E := by
  have hw : Region.wanted o (yielded ops a.tmps) = true := by simp [Region.wanted, hgd]
  rw [if_pos hw]
  obtain ⟨i0, hi, hz0, hz1, hz2⟩ := info_parts infoR
  have hown := hown0.below hb0 (Nat.le_refl _)
  have hBw : B ≤ w.heap.size := Nat.le_trans hB hb0.size
  obtain ⟨cells, q1, q2, q3⟩ := hown0
  have h1 := ownsRow_below q1 hb0 (Nat.le_refl _)
  have h2 : ∀ j, j < rows.length → ∃ c, cells[j]? = some c ∧ Own B w c (RW rows j) := fun j hj => by
    obtain ⟨c, hc, ho⟩ := q2 j hj
    exact ⟨c, hc, ho.below hb0 (Nat.le_refl _)⟩
  have hone : c.oneCell' = true := by
    obtain ⟨ao, cap, rfl, _⟩ := hc.ints hcw
    rfl
  have hlc : cells.length = rows.length := by have := h1.1; omega
  refine wp_append_own _ s x 31 ho B 78 i0 _ 1 24 Tryz.underlying31 hi hz0 hz1 hz2 rfl (by decide) v rows.length cells hs (World.ownsRow.alloc h1 _)
    ⟨w.heap.size, 0, none⟩ 1 1 [c] hx rfl ?c1 ?c2 ?c3 ?c4 ?c5 ?_
  case c1 =>
    intro j u hu
    rw [Addr.add_lit, Nat.zero_add, cell_of_row _ _ j #[c] 78 (0, 0) (heap_alloc_new w _)]
    simpa using hu
  case c2 =>
    intro u hu
    rw [List.mem_singleton.1 hu]
    exact hone
  case c3 => unfold maxLen; omega
  case c4 => omega
  case c5 => simp; omega
  intro v' w' hown' hgrow _
  have hstay : ∀ (cc : Value) (r : List Int) (B : Nat), Own B w cc r → Own B w' cc r := fun cc r B hh =>
    World.ownsRow.kept (World.ownsRow.alloc hh _) hgrow (ownsRow_tags hh h1 (by decide))
  have hnew : ∀ (j : Nat) (d : Value), cells[j]? = some d → (d.ownBlock = none ∨ d.ownBlock ≠ c.ownBlock) ∧ (c.ownBlock = none ∨ c.ownBlock ≠ d.ownBlock) := fun j d hd => by
    have hj : j < rows.length := by have := (List.getElem?_eq_some_iff.1 hd).1; omega
    obtain ⟨d', hd', hod⟩ := q2 j hj
    rw [hd] at hd'
    cases hd'
    have a1 := World.ownsRow.lt hod
    have a2 := World.ownsRow.lt hc
    cases hdb : d.ownBlock with
    | none =>
      refine ⟨.inl rfl, ?_⟩
      cases hcb : c.ownBlock with
      | none => exact .inl rfl
      | some k => exact .inr (fun e => by cases e)
    | some k =>
      have b1 := a1 k hdb
      cases hcb : c.ownBlock with
      | none => exact ⟨.inr (fun e => by cases e), .inl rfl⟩
      | some k' =>
        have b2 := a2 k' hcb
        exact ⟨.inr (fun e => by cases e; omega), .inr (fun e => by cases e; omega)⟩
  refine hK v' w' ⟨cells ++ [c], ?_, fun j hj => ?_, ?_⟩ ?_ ⟨fun g t cs hne hb => (hb.alloc _).asideT (World.ownsRow.alloc h1 _) hne hgrow, fun base s n t v xs hne hh => World.ownsRow.kept (World.ownsRow.alloc hh _) hgrow (ownsRow_tags hh h1 hne)⟩
  · rw [List.length_append]
    exact hown'
  · rw [List.length_append, List.length_singleton] at hj
    by_cases hjl : j < rows.length
    · obtain ⟨cc, hcc, hco⟩ := h2 j hjl
      refine ⟨cc, by rw [List.getElem?_append_left (by omega)]; exact hcc, ?_⟩
      rw [RW_snoc_old hjl]
      exact hstay _ _ _ hco
    · have ej : j = rows.length := by omega
      subst ej
      refine ⟨c, by rw [List.getElem?_append_right (by omega), hlc]; simp, ?_⟩
      rw [RW_snoc_new]
      exact (hstay _ _ _ hc).mono hB
  · intro j k d e hjk hd he
    by_cases hjl : j < cells.length
    · rw [List.getElem?_append_left hjl] at hd
      by_cases hkl : k < cells.length
      · rw [List.getElem?_append_left hkl] at he
        exact q3 j k d e hjk hd he
      · rw [List.getElem?_append_right (by omega)] at he
        have : e = c := by
          cases hm : k - cells.length with
          | zero => rw [hm] at he; simpa using he.symm
          | succ m => rw [hm] at he; simp at he
        subst this
        exact (hnew j d hd).1
    · rw [List.getElem?_append_right (by omega)] at hd
      have hdc : d = c := by
        cases hm : j - cells.length with
        | zero => rw [hm] at hd; simpa using hd.symm
        | succ m => rw [hm] at hd; simp at hd
      subst hdc
      by_cases hkl : k < cells.length
      · rw [List.getElem?_append_left hkl] at he
        exact (hnew k e he).2
      · exfalso
        have j1 : j - cells.length = 0 := by
          cases hm : j - cells.length with
          | zero => rfl
          | succ m => rw [hm] at hd; simp at hd
        rw [List.getElem?_append_right (by omega)] at he
        have k1 : k - cells.length = 0 := by
          cases hm : k - cells.length with
          | zero => rfl
          | succ m => rw [hm] at he; simp at he
        omega
  · refine ((Below.refl B w).alloc hBw _).grown hgrow (by simp; omega) ?_
    intro k hk
    exact (World.ownsRow.lt h1 k hk).1
theorem flatN_set (nds : List Nd) (vs : List (Value × Value)) (h : vs.length = nds.length) (j : Nat) (hj : j < nds.length) (nd : Nd) (p : Value × Value) :
    (((flatN nds vs).set (j * 3) (.int .i64 nd.me)).set (j * 3 + 1) p.1).set (j * 3 + 2) p.2 = flatN (nds.set j nd) (vs.set j p) := by
  induction nds generalizing vs j with
  | nil => simp at hj
  | cons x r ih =>
    cases vs with
    | nil => simp at h
    | cons q qs =>
      have hc : ∀ (y : Nd) (l : List Nd) (z : Value × Value) (zs : List (Value × Value)), flatN (y :: l) (z :: zs) = .int .i64 y.me :: z.1 :: z.2 :: flatN l zs := fun y l z zs => by simp [flatN, List.zip_cons_cons, List.flatMap_cons]
      cases j with
      | zero => rw [List.set_cons_zero, List.set_cons_zero, hc, hc]; rfl
      | succ j =>
        have h2 := ih qs (by simpa using h) j (by simpa using hj)
        rw [List.set_cons_succ, List.set_cons_succ, hc, hc, ← h2]
        have e1 : (j + 1) * 3 = j * 3 + 1 + 1 + 1 := by omega
        rw [e1]
        rfl
theorem ND_set {nds : List Nd} {j i : Nat} {nd : Nd} (hi : i < nds.length) : ND (nds.set j nd) i = if i = j then nd else ND nds i := by
  rw [ND_get (by rw [List.length_set]; exact hi), ND_get hi, List.getElem_set]
  by_cases e : j = i
  · subst e; simp
  · rw [if_neg e, if_neg (fun h => e h.symm)]
theorem OwnNds.ptr {base : Nat} {w : World} {v : Value} {nds : List Nd} (h : OwnNds base w v nds) (h0 : 0 < nds.length) : ∃ g cap, v = .slice (some ⟨g, 0, none⟩) nds.length cap ∧ base ≤ g ∧ ∃ cur, Blk w g 39 cur := by
  obtain ⟨vs, h0', h1, h2⟩ := h
  rcases h1.2 with ⟨rfl, h3⟩ | ⟨g, cap, cur, rfl, hb, hg, hn, hm, hs, ht⟩
  · omega
  · exact ⟨g, cap, rfl, hb, cur, hg⟩
theorem OwnNds.spot {base g n cap : Nat} {w : World} {nds : List Nd} (h : OwnNds base w (.slice (some ⟨g, 0, none⟩) n cap) nds) (hw : ∀ j, j < nds.length → NdWf (ND nds j)) (j : Nat) (hj : j < nds.length) :
    ∃ ab cb aa ca, w.cell? ⟨g, j * 3, none⟩ = some (.int .i64 (ND nds j).me) ∧ w.cell? ⟨g, j * 3 + 1, none⟩ = some (.slice ab (ND nds j).book.length cb) ∧ w.cell? ⟨g, j * 3 + 2, none⟩ = some (.slice aa (ND nds j).acks.length ca) ∧
      w.frozen? ⟨g, j * 3, none⟩ = false ∧ w.frozen? ⟨g, j * 3 + 1, none⟩ = false ∧ w.frozen? ⟨g, j * 3 + 2, none⟩ = false ∧
      Ents w.heap.size w ab (ND nds j).book.length cb (ND nds j).book ∧ (ab = none → cb = 0) ∧ Rws w.heap.size w aa (ND nds j).acks.length ca (ND nds j).acks := by
  obtain ⟨vs, h0, h1, h2⟩ := h
  have hn : nds.length = n := by
    rcases h1.2 with ⟨h3, _⟩ | ⟨g', cap', cur, h3, _⟩
    · cases h3
    · cases h3; rfl
  subst hn
  obtain ⟨p, hp, he, hr⟩ := h2 j hj
  obtain ⟨f0, f1, f2⟩ := flatN_get nds vs h0 j hj p hp
  obtain ⟨ab, cb, e1, hei, hez⟩ := he.ents (hw j hj).1
  obtain ⟨aa, ca, e2, hri, -⟩ := hr.rows (hw j hj).2
  exact ⟨ab, cb, aa, ca, by rw [h1.cellAt (j * 3) (by omega), f0], by rw [h1.cellAt (j * 3 + 1) (by omega), f1, e1], by rw [h1.cellAt (j * 3 + 2) (by omega), f2, e2], h1.frozenAt _, h1.frozenAt _, h1.frozenAt _, hei, hez, hri⟩
theorem keeps_set3 {g o : Nat} (w : World) (a b c : Value) : Keeps g w (((w.setCell ⟨g, o, none⟩ a).setCell ⟨g, o + 1, none⟩ b).setCell ⟨g, o + 2, none⟩ c) :=
  ((((Only.refl g w).setCell o a).setCell (o + 1) b).setCell (o + 2) c).keeps
theorem OwnNds.put {base g n cap : Nat} {w : World} {nds : List Nd} (h : OwnNds base w (.slice (some ⟨g, 0, none⟩) n cap) nds) (j : Nat) (hj : j < nds.length) (nd : Nd) (bv av : Value) (hbv : OwnE base w bv nd.book) (hav : OwnRows base w av nd.acks) :
    OwnNds base (((w.setCell ⟨g, j * 3, none⟩ (.int .i64 nd.me)).setCell ⟨g, j * 3 + 1, none⟩ bv).setCell ⟨g, j * 3 + 2, none⟩ av) (.slice (some ⟨g, 0, none⟩) n cap) (nds.set j nd) := by
  obtain ⟨vs, h0, h1, h2⟩ := h
  have hn : nds.length = n := by
    rcases h1.2 with ⟨h3, _⟩ | ⟨g', cap', cur, h3, _⟩
    · cases h3
    · cases h3; rfl
  subst hn
  have s1 := (h1.stored (j * 3) (.int .i64 nd.me)).1
  have s2 := (s1.stored (j * 3 + 1) bv).1
  have s3 := (s2.stored (j * 3 + 2) av).1
  have hblk : ∃ cur, Blk w g 39 cur := by
    rcases h1.2 with ⟨h3, _⟩ | ⟨g', cap', cur, h3, _, hh, _⟩
    · cases h3
    · cases h3; exact ⟨cur, hh⟩
  obtain ⟨cur, hblk⟩ := hblk
  have hk := keeps_set3 (g := g) (o := j * 3) w (.int .i64 nd.me) bv av
  rw [flatN_set nds vs h0 j hj nd (bv, av)] at s3
  refine ⟨vs.set j (bv, av), by simp [h0], by rw [List.length_set]; exact s3, fun i hi => ?_⟩
  rw [List.length_set] at hi
  rw [ND_set hi, List.getElem?_set]
  by_cases e : j = i
  · subst e
    rw [if_pos rfl, if_pos rfl, if_pos (by omega)]
    exact ⟨_, rfl, hbv.off hblk hk (by decide), hav.off hblk hk (by decide) (by decide)⟩
  · rw [if_neg e, if_neg (fun h => e h.symm)]
    obtain ⟨p, hp, he, hr⟩ := h2 i hi
    exact ⟨p, hp, he.off hblk hk (by decide), hr.off hblk hk (by decide) (by decide)⟩
theorem Blk.offT {w w' : World} {g gd : Nat} {t t' : TypeId} {cs cs' : Array Value} (h : Blk w g t cs) (hb : Blk w gd t' cs') (hk : Keeps gd w w') (hne : t ≠ t') : Blk w' g t cs := h.keeps hk (fun e => by
  subst e
  have h2 : w.heap[g]? = some (.cells cs t (0, 0)) := h
  have h3 : w.heap[g]? = some (.cells cs' t' (0, 0)) := hb
  rw [h2] at h3
  cases h3
  exact hne rfl)
def KeepNet (w w' : World) : Prop := ∀ g t cs, (t = 33 ∨ t = 62) → Blk w g t cs → Blk w' g t cs
theorem KeepNet.net {w w' : World} (h : KeepNet w w') {g : Nat} {cs : Array Value} (hb : Blk w g 33 cs) : Blk w' g 33 cs := h g _ cs (.inl rfl) hb
theorem KeepNet.stp {w w' : World} (h : KeepNet w w') {g : Nat} {cs : Array Value} (hb : Blk w g 62 cs) : Blk w' g 62 cs := h g _ cs (.inr rfl) hb
theorem KeepNet.trans {a b c : World} (h : KeepNet a b) (k : KeepNet b c) : KeepNet a c := fun g t cs ht hb => k g t cs ht (h g t cs ht hb)
theorem KeepNet.of_below {w w' : World} (h : Below w.heap.size w w') : KeepNet w w' := fun _ _ _ _ hb => hb.below h hb.lt
theorem KeepNet.set_ {w w' : World} (h : KeepNet w w') {p : Addr} (hp : w.heap.size ≤ p.block) (u : Value) : KeepNet w (w'.setCell p u) := fun g t cs ht hb => (h g t cs ht hb).far (by have := hb.lt; omega) u
def NetT (base : Nat) (nds : List Nd) (fl : List (List Int)) (w : World) (v : Value) : Prop := ∃ nv fv, v = .agg #[nv, fv] ∧ OwnNds base w nv nds ∧ OwnRows base w fv fl
def AllN (nds : List Nd) : Prop := ∀ j, j < nds.length → NdWf (ND nds j)
theorem NetT.below {base : Nat} {nds : List Nd} {fl : List (List Int)} {w w' : World} {v : Value} (h : NetT base nds fl w v) (hb : Below w.heap.size w w') : NetT base nds fl w' v := by
  obtain ⟨nv, fv, rfl, h1, h2⟩ := h
  exact ⟨nv, fv, rfl, h1.below hb (Nat.le_refl _), h2.below hb (Nat.le_refl _)⟩
theorem NetT.mono {base base' : Nat} {nds : List Nd} {fl : List (List Int)} {w : World} {v : Value} (h : NetT base nds fl w v) (hb : base' ≤ base) : NetT base' nds fl w v := by
  obtain ⟨nv, fv, rfl, h1, h2⟩ := h
  exact ⟨nv, fv, rfl, h1.mono hb, h2.mono hb⟩
theorem NetT.off {base g : Nat} {t' : TypeId} {nds : List Nd} {fl : List (List Int)} {w w' : World} {v : Value} {cs : Array Value} (h : NetT base nds fl w v) (hb : Blk w g t' cs) (hk : Keeps g w w') (n1 : 39 ≠ t') (n2 : 47 ≠ t') (n3 : 78 ≠ t') (n4 : 2 ≠ t') : NetT base nds fl w' v := by
  obtain ⟨nv, fv, rfl, h1, h2⟩ := h
  exact ⟨nv, fv, rfl, h1.off hb hk n1 n2 n3 n4, h2.off hb hk n3 n4⟩
theorem NetT.read {base : Nat} {nds : List Nd} {fl : List (List Int)} {w : World} {v : Value} (h : NetT base nds fl w v) (hn : AllN nds) (hf : AllR fl) :
    ∃ an cn af cf, v = .agg #[.slice an nds.length cn, .slice af fl.length cf] ∧ Nds w.heap.size w an nds.length cn nds ∧ Rws w.heap.size w af fl.length cf fl ∧ (an = none → cn = 0) ∧ (af = none → cf = 0) := by
  obtain ⟨nv, fv, rfl, h1, h2⟩ := h
  obtain ⟨an, cn, rfl, a1, a2⟩ := h1.nds hn
  obtain ⟨af, cf, rfl, b1, b2⟩ := h2.rows hf
  exact ⟨an, cn, af, cf, rfl, a1, b1, a2, b2⟩
theorem OwnNds.slice {base : Nat} {w : World} {v : Value} {nds : List Nd} (h : OwnNds base w v nds) : ∃ a c, v = .slice a nds.length c := by
  obtain ⟨vs, h0, h1, h2⟩ := h
  rcases h1.2 with ⟨rfl, h3⟩ | ⟨g, cap, cur, rfl, _⟩
  · exact ⟨_, _, by rw [h3]⟩
  · exact ⟨_, _, rfl⟩
theorem OwnRows.slice {base : Nat} {w : World} {v : Value} {rows : List (List Int)} (h : OwnRows base w v rows) : ∃ a c, v = .slice a rows.length c := by
  obtain ⟨cells, h1, h2⟩ := h
  rcases h1.2 with ⟨rfl, h3⟩ | ⟨g, cap, cur, rfl, _⟩
  · exact ⟨_, _, by rw [h3]⟩
  · exact ⟨_, _, rfl⟩
theorem OwnRows.letter {base g n cap : Nat} {w : World} {rows : List (List Int)} (h : OwnRows base w (.slice (some ⟨g, 0, none⟩) n cap) rows) (j : Nat) (hj : j < rows.length) : ∃ c, w.cell? ⟨g, j, none⟩ = some c ∧ Own base w c (RW rows j) := by
  obtain ⟨cells, h1, h2⟩ := h
  obtain ⟨c, hc, ho⟩ := h2 j hj
  have hn : rows.length = n := by
    rcases h1.2 with ⟨h3, _⟩ | ⟨g', cap', cur, h3, _⟩
    · cases h3
    · cases h3; rfl
  subst hn
  exact ⟨c, by rw [h1.cellAt j (by omega), hc], ho⟩
theorem Own.slice {base : Nat} {w : World} {v : Value} {xs : List Int} (h : Own base w v xs) : ∃ a c, v = .slice a xs.length c := by
  rcases h.2 with ⟨rfl, h3⟩ | ⟨g, cap, cur, rfl, _⟩
  · exact ⟨_, _, by rw [h3]⟩
  · exact ⟨_, _, rfl⟩
def Lower (top : Nat) (v : Value) : Prop := ∀ k, v.ownBlock = some k → k < top
theorem Lower.apart {top F : Nat} {v : Value} (h : Lower top v) (hF : top ≤ F) : v.ownBlock = none ∨ v.ownBlock ≠ some F := by
  cases hv : v.ownBlock with
  | none => exact .inl rfl
  | some k => exact .inr (fun e => by cases e; have := h _ hv; omega)
def OwnNdsU (base top : Nat) (w : World) (v : Value) (nds : List Nd) : Prop :=
  ∃ vs : List (Value × Value), vs.length = nds.length ∧ (w.ownsRow base 39 3 v nds.length (flatN nds vs) ∧ Lower top v) ∧ ∀ j, j < nds.length → ∃ p, vs[j]? = some p ∧ (OwnE base w p.1 (ND nds j).book ∧ Lower top p.1) ∧
    ∃ cells : List Value, (w.ownsRow base 78 1 p.2 (ND nds j).acks.length cells ∧ Lower top p.2) ∧ ∀ i, i < (ND nds j).acks.length → ∃ c, cells[i]? = some c ∧ Own base w c (RW (ND nds j).acks i) ∧ Lower top c
theorem OwnNdsU.own {base top : Nat} {w : World} {v : Value} {nds : List Nd} (h : OwnNdsU base top w v nds) : OwnNds base w v nds := by
  obtain ⟨vs, h0, ⟨h1, _⟩, h2⟩ := h
  refine ⟨vs, h0, h1, fun j hj => ?_⟩
  obtain ⟨p, hp, ⟨he, _⟩, cells, ⟨hr, _⟩, hc⟩ := h2 j hj
  refine ⟨p, hp, he, cells, hr, fun i hi => ?_⟩
  obtain ⟨c, q1, q2, _⟩ := hc i hi
  exact ⟨c, q1, q2⟩
theorem OwnNds.upto {base : Nat} {w : World} {v : Value} {nds : List Nd} (h : OwnNds base w v nds) : OwnNdsU base w.heap.size w v nds := by
  obtain ⟨vs, h0, h1, h2⟩ := h
  refine ⟨vs, h0, ⟨h1, fun k hk => (World.ownsRow.lt h1 k hk).2⟩, fun j hj => ?_⟩
  obtain ⟨p, hp, he, cells, hr, hc⟩ := h2 j hj
  refine ⟨p, hp, ⟨he, fun k hk => (World.ownsRow.lt he k hk).2⟩, cells, ⟨hr, fun k hk => (World.ownsRow.lt hr k hk).2⟩, fun i hi => ?_⟩
  obtain ⟨c, q1, q2⟩ := hc i hi
  exact ⟨c, q1, q2, fun k hk => (World.ownsRow.lt q2 k hk).2⟩
theorem OwnNdsU.below {base top C : Nat} {w w' : World} {v : Value} {nds : List Nd} (h : OwnNdsU base top w v nds) (hb : Below C w w') (hC : w.heap.size ≤ C) : OwnNdsU base top w' v nds := by
  obtain ⟨vs, h0, ⟨h1, l1⟩, h2⟩ := h
  refine ⟨vs, h0, ⟨ownsRow_below h1 hb hC, l1⟩, fun j hj => ?_⟩
  obtain ⟨p, hp, ⟨he, l2⟩, cells, ⟨hr, l3⟩, hc⟩ := h2 j hj
  refine ⟨p, hp, ⟨he.below hb hC, l2⟩, cells, ⟨ownsRow_below hr hb hC, l3⟩, fun i hi => ?_⟩
  obtain ⟨c, q1, q2, q3⟩ := hc i hi
  exact ⟨c, q1, q2.below hb hC, q3⟩
theorem OwnNdsU.mono {base base' top : Nat} {w : World} {v : Value} {nds : List Nd} (h : OwnNdsU base top w v nds) (hb : base' ≤ base) : OwnNdsU base' top w v nds := by
  obtain ⟨vs, h0, ⟨h1, l1⟩, h2⟩ := h
  have hm : ∀ {t : TypeId} {s n : Nat} {u : Value} {xs : List Value}, w.ownsRow base t s u n xs → w.ownsRow base' t s u n xs := fun h => by
    refine ⟨h.1, ?_⟩
    rcases h.2 with h3 | ⟨g, cap, cur, hv, hg, r⟩
    · exact .inl h3
    · exact .inr ⟨g, cap, cur, hv, by omega, r⟩
  refine ⟨vs, h0, ⟨hm h1, l1⟩, fun j hj => ?_⟩
  obtain ⟨p, hp, ⟨he, l2⟩, cells, ⟨hr, l3⟩, hc⟩ := h2 j hj
  refine ⟨p, hp, ⟨he.mono hb, l2⟩, cells, ⟨hm hr, l3⟩, fun i hi => ?_⟩
  obtain ⟨c, q1, q2, q3⟩ := hc i hi
  exact ⟨c, q1, q2.mono hb, q3⟩
theorem OwnNdsU.off {base top g : Nat} {t' : TypeId} {w w' : World} {v : Value} {nds : List Nd} {cs : Array Value} (h : OwnNdsU base top w v nds) (hb : Blk w g t' cs) (hk : Keeps g w w') (n1 : 39 ≠ t') (n2 : 47 ≠ t') (n3 : 78 ≠ t') (n4 : 2 ≠ t') : OwnNdsU base top w' v nds := by
  obtain ⟨vs, h0, ⟨h1, l1⟩, h2⟩ := h
  refine ⟨vs, h0, ⟨row_off h1 hb hk n1, l1⟩, fun j hj => ?_⟩
  obtain ⟨p, hp, ⟨he, l2⟩, cells, ⟨hr, l3⟩, hc⟩ := h2 j hj
  refine ⟨p, hp, ⟨he.off hb hk n2, l2⟩, cells, ⟨row_off hr hb hk n3, l3⟩, fun i hi => ?_⟩
  obtain ⟨c, q1, q2, q3⟩ := hc i hi
  exact ⟨c, q1, q2.off hb hk n4, q3⟩
theorem OwnNdsU.kept {base top F : Nat} {w w' : World} {v : Value} {nds : List Nd} (h : OwnNdsU base top w v nds) (hk : w.grownBy w' (some F)) (hF : top ≤ F) : OwnNds base w' v nds := by
  obtain ⟨vs, h0, ⟨h1, l1⟩, h2⟩ := h
  refine ⟨vs, h0, World.ownsRow.kept h1 hk (l1.apart hF), fun j hj => ?_⟩
  obtain ⟨p, hp, ⟨he, l2⟩, cells, ⟨hr, l3⟩, hc⟩ := h2 j hj
  refine ⟨p, hp, World.ownsRow.kept he hk (l2.apart hF), cells, World.ownsRow.kept hr hk (l3.apart hF), fun i hi => ?_⟩
  obtain ⟨c, q1, q2, q3⟩ := hc i hi
  exact ⟨c, q1, World.ownsRow.kept q2 hk (q3.apart hF)⟩
theorem ownsRow_lower {base top C s n : Nat} {t : TypeId} {w w' : World} {v : Value} {xs : List Value} (h : w.ownsRow base t s v n xs) (hl : Lower top v) (hb : Below C w w') (hC : top ≤ C) : w'.ownsRow base t s v n xs := by
  refine ⟨h.1, ?_⟩
  rcases h.2 with h3 | ⟨g, cap, cur, hv, hg, hh, r⟩
  · exact .inl h3
  · refine .inr ⟨g, cap, cur, hv, hg, ?_, r⟩
    have hk : g < top := hl g (by rw [hv]; rfl)
    rw [hb.block g (by omega)]
    exact hh
theorem OwnNdsU.lower {base top C : Nat} {w w' : World} {v : Value} {nds : List Nd} (h : OwnNdsU base top w v nds) (hb : Below C w w') (hC : top ≤ C) : OwnNdsU base top w' v nds := by
  obtain ⟨vs, h0, ⟨h1, l1⟩, h2⟩ := h
  refine ⟨vs, h0, ⟨ownsRow_lower h1 l1 hb hC, l1⟩, fun j hj => ?_⟩
  obtain ⟨p, hp, ⟨he, l2⟩, cells, ⟨hr, l3⟩, hc⟩ := h2 j hj
  refine ⟨p, hp, ⟨ownsRow_lower he l2 hb hC, l2⟩, cells, ⟨ownsRow_lower hr l3 hb hC, l3⟩, fun i hi => ?_⟩
  obtain ⟨c, q1, q2, q3⟩ := hc i hi
  exact ⟨c, q1, ownsRow_lower q2 q3 hb hC, q3⟩
structure NetOwn (base mid : Nat) (nds : List Nd) (fl : List (List Int)) (w : World) (nv fv : Value) : Prop where
  le : base ≤ mid
  size : mid ≤ w.heap.size
  nodes : OwnNdsU base mid w nv nds
  letters : OwnRowsL mid w fv fl
theorem NetOwn.below {base mid : Nat} {nds : List Nd} {fl : List (List Int)} {w w' : World} {nv fv : Value} (h : NetOwn base mid nds fl w nv fv) (hb : Below w.heap.size w w') : NetOwn base mid nds fl w' nv fv :=
  ⟨h.le, Nat.le_trans h.size hb.size, h.nodes.below hb (Nat.le_refl _), h.letters.below hb (Nat.le_refl _)⟩
def NetOwnPost (nds : List Nd) (fl : List (List Int)) (w : World) (e : Ending) (w' : World) : Prop := ∃ mid nv fv, e = .returned (.agg #[nv, fv]) ∧ NetOwn w.heap.size mid nds fl w' nv fv ∧ Below w.heap.size w w'
end Go.Proofs.YtoniahfdjhhalaaGreat
