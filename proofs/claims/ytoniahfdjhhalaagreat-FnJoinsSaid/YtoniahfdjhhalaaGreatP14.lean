/- Texts of this claim, put together. -/
import Derived.Test.YtoniahfdjhhalaaGreatP1
import Derived.Test.YtoniahfdjhhalaaGreatP2
import Derived.Test.YtoniahfdjhhalaaGreatP4
import Derived.Test.YtoniahfdjhhalaaGreatP7
import Derived.Test.YtoniahfdjhhalaaGreatP8

namespace Go.Proofs.YtoniahfdjhhalaaGreat
open Go.RowKit
theorem ownsRow_tags {w : World} {B B' s s' n n' : Nat} {t t' : TypeId} {v v' : Value} {xs ys : List Value} (h : w.ownsRow B t s v n xs) (h' : w.ownsRow B' t' s' v' n' ys) (hne : t ≠ t') : v.ownBlock = none ∨ v.ownBlock ≠ v'.ownBlock := by
  rcases h.2 with ⟨rfl, _⟩ | ⟨g, cap, cur, rfl, _, hh, _⟩
  · exact .inl rfl
  · right
    rcases h'.2 with ⟨rfl, _⟩ | ⟨g', cap', cur', rfl, _, hh', _⟩
    · intro e; cases e
    · intro e
      have e2 : g = g' := Option.some.inj e
      subst e2
      rw [hh] at hh'
      cases hh'
      exact hne rfl
theorem infoR : (Tryz.prog.info? 78).map (fun i => (i.zero, i.size, i.bytes)) = some (some (.slice none 0 0), 1, 24) := by kernel_rfl
def RW (rows : List (List Int)) (j : Nat) : List Int := rows.getD j []
theorem RW_get {rows : List (List Int)} {j : Nat} (h : j < rows.length) : RW rows j = rows[j] := by simp [RW, List.getD, h]
theorem RW_snoc_old {rows : List (List Int)} {r : List Int} {j : Nat} (h : j < rows.length) : RW (rows ++ [r]) j = RW rows j := by
  rw [RW_get (by simp; omega), RW_get h, List.getElem_append_left h]
theorem RW_snoc_new {rows : List (List Int)} {r : List Int} : RW (rows ++ [r]) rows.length = r := by
  rw [RW_get (by simp)]
  simp
def AllR (rows : List (List Int)) : Prop := ∀ r ∈ rows, AllI64 r
theorem AllR.at {rows : List (List Int)} (h : AllR rows) (j : Nat) (hj : j < rows.length) : AllI64 (RW rows j) := by
  rw [RW_get hj]
  exact h _ (List.getElem_mem _)
structure Rws (B : Nat) (w : World) (ao : Option Addr) (n cap : Nat) (rows : List (List Int)) : Prop where
  hlen : rows.length = n
  hcap : n ≤ cap
  hmax : cap ≤ maxLen
  cell : ∀ j, j < n → ∃ b off a m c, ao = some ⟨b, off, none⟩ ∧ b < B ∧ w.cell? ⟨b, off + j, none⟩ = some (.slice a m c) ∧ Ints B w a m c (RW rows j) ∧ (a = none → c = 0)
theorem Rws.below {B B' C : Nat} {w w' : World} {ao : Option Addr} {n cap : Nat} {rows : List (List Int)} (h : Rws B w ao n cap rows) (hb : Below C w w') (hC : B ≤ C) (hB : B ≤ B') : Rws B' w' ao n cap rows :=
  ⟨h.hlen, h.hcap, h.hmax, fun j hj => by
    obtain ⟨b, off, a, m, c, e, hlt, hc, hi, hz⟩ := h.cell j hj
    exact ⟨b, off, a, m, c, e, by omega, (hb.cell (p := ⟨b, off + j, none⟩) (by show b < C; omega)).trans hc, hi.below hb hC hB, hz⟩⟩
theorem Rws.at {B : Nat} {w : World} {ao : Option Addr} {n cap : Nat} {rows : List (List Int)} (h : Rws B w ao n cap rows) (k : Nat) (hk : k < n) :
    ∃ b off, ao = some ⟨b, off, none⟩ ∧ b < B ∧ ∀ j, j < n → ∃ a m c, w.cell? ⟨b, off + j, none⟩ = some (.slice a m c) ∧ Ints B w a m c (RW rows j) ∧ (a = none → c = 0) := by
  obtain ⟨b, off, a, m, c, e, hb, _⟩ := h.cell k hk
  refine ⟨b, off, e, hb, fun j hj => ?_⟩
  obtain ⟨b', off', a', m', c', e', _, hc, hi, hz⟩ := h.cell j hj
  rw [e] at e'
  cases e'
  exact ⟨a', m', c', hc, hi, hz⟩
def OwnRows (base : Nat) (w : World) (v : Value) (rows : List (List Int)) : Prop :=
  ∃ cells : List Value, w.ownsRow base 78 1 v rows.length cells ∧ ∀ j, j < rows.length → ∃ c, cells[j]? = some c ∧ Own base w c (RW rows j)
theorem ownRows_nil (B : Nat) (w : World) : OwnRows B w (.slice none 0 0) [] := ⟨[], World.ownsRow_nil w B 78 1, fun j hj => by simp at hj⟩
theorem ownRows_empty (w : World) : OwnRows w.heap.size (w.alloc (.cells #[] 78)) (.slice (some ⟨w.heap.size, 0, none⟩) 0 0) [] :=
  ⟨[], World.ownsRow_lit w #[] 0 (Nat.le_refl _) (by unfold maxLen; omega) rfl, fun j hj => by simp at hj⟩
theorem ownsRow_below {base C s n : Nat} {t : TypeId} {w w' : World} {v : Value} {xs : List Value} (h : w.ownsRow base t s v n xs) (hb : Below C w w') (hC : w.heap.size ≤ C) : w'.ownsRow base t s v n xs := by
  refine ⟨h.1, ?_⟩
  rcases h.2 with h3 | ⟨g, cap, cur, hv, hg, hh, r⟩
  · exact .inl h3
  · exact .inr ⟨g, cap, cur, hv, hg, by rw [hb.block g (by have := (Array.getElem?_eq_some_iff.1 hh).1; omega)]; exact hh, r⟩
theorem OwnRows.below {base C : Nat} {w w' : World} {v : Value} {rows : List (List Int)} (h : OwnRows base w v rows) (hb : Below C w w') (hC : w.heap.size ≤ C) : OwnRows base w' v rows := by
  obtain ⟨cells, h1, h2⟩ := h
  refine ⟨cells, ownsRow_below h1 hb hC, fun j hj => ?_⟩
  obtain ⟨c, hc, ho⟩ := h2 j hj
  exact ⟨c, hc, ho.below hb hC⟩
theorem OwnRows.mono {base base' : Nat} {w : World} {v : Value} {rows : List (List Int)} (h : OwnRows base w v rows) (hb : base' ≤ base) : OwnRows base' w v rows := by
  obtain ⟨cells, h1, h2⟩ := h
  refine ⟨cells, ?_, fun j hj => ?_⟩
  · refine ⟨h1.1, ?_⟩
    rcases h1.2 with h3 | ⟨g, cap, cur, hv, hg, r⟩
    · exact .inl h3
    · exact .inr ⟨g, cap, cur, hv, by omega, r⟩
  · obtain ⟨c, hc, ho⟩ := h2 j hj
    exact ⟨c, hc, ho.mono hb⟩
theorem OwnRows.keeps {base g : Nat} {w w' : World} {v : Value} {rows : List (List Int)} (h : OwnRows base w v rows) (hb : Keeps g w w') (hg : g < base) : OwnRows base w' v rows := by
  obtain ⟨cells, h1, h2⟩ := h
  refine ⟨cells, World.ownsRow.kept h1 hb ?_, fun j hj => ?_⟩
  · cases hv : v.ownBlock with
    | none => exact .inl rfl
    | some k =>
      right
      intro e
      have h3 := (World.ownsRow.lt h1 k hv).1
      have h4 : k = g := Option.some.inj e
      omega
  · obtain ⟨c, hc, ho⟩ := h2 j hj
    exact ⟨c, hc, ho.keeps hb hg⟩
theorem OwnRows.alloc {base : Nat} {w : World} {v : Value} {rows : List (List Int)} (h : OwnRows base w v rows) (o : Obj) : OwnRows base (w.alloc o) v rows :=
  h.below ((Below.refl w.heap.size w).alloc (Nat.le_refl _) o) (Nat.le_refl _)
theorem OwnRows.rows {base : Nat} {w : World} {v : Value} {rows : List (List Int)} (h : OwnRows base w v rows) (hw : AllR rows) :
    ∃ ao cap, v = .slice ao rows.length cap ∧ Rws w.heap.size w ao rows.length cap rows ∧ (ao = none → cap = 0) := by
  obtain ⟨cells, h1, h2⟩ := h
  rcases h1.2 with ⟨rfl, h3⟩ | ⟨g, cap, cur, rfl, hb, hg, hn, hm, hs, ht⟩
  · have : rows = [] := List.eq_nil_of_length_eq_zero h3
    subst this
    exact ⟨none, 0, rfl, ⟨rfl, Nat.le_refl _, by unfold maxLen; omega, fun j hj => by simp at hj⟩, fun _ => rfl⟩
  · refine ⟨some ⟨g, 0, none⟩, cap, rfl, ⟨rfl, hn, hm, fun j hj => ?_⟩, fun h => by cases h⟩
    obtain ⟨c, hc, ho⟩ := h2 j hj
    obtain ⟨a, c', rfl, hi, hz⟩ := ho.ints' (hw.at j hj)
    refine ⟨g, 0, a, _, c', rfl, (Array.getElem?_eq_some_iff.1 hg).1, ?_, hi, hz⟩
    rw [Nat.zero_add, cell_of_row w g j cur _ (0, 0) hg, ← hc, ← ht, List.getElem?_take, if_pos (by omega)]
    simp
theorem appendR_one {ops : Array Oper} {rest : List Oper} {o : Oper} {a : Act} {Q : Exit → Act → World → Prop} {w : World} (c : Value) (row : List Int)
    (hgd : o.guard = none) (s x : Operand) (ho : o.op = .call { callee := .builtin .append, args := #[s, x], argTypes := #[31, 31] })
    (B : Nat) (v : Value) (rows : List (List Int)) (hs : a.eval s = v) (hx : a.eval x = .slice (some ⟨w.heap.size, 0, none⟩) 1 1)
    (hown : OwnRows B w v rows) (hc : Own B w c row) (hcw : AllI64 row) (hB : B ≤ w.heap.size) (hlen : rows.length ≤ 1099511627776)
    (hK : ∀ v' w', OwnRows B w' v' (rows ++ [row]) → Below B w w' → wpList Tryz.prog ops Q rest (a.put o.dst v') w') :
    wpList Tryz.prog ops Q (o :: rest) a (w.alloc (.cells #[c] 78)) := by
  obtain ⟨i0, hi, hz0, hz1, hz2⟩ := info_parts infoR
  obtain ⟨cells, h1, h2⟩ := hown
  have hone : c.oneCell' = true := by
    obtain ⟨ao, cap, rfl, _⟩ := hc.ints hcw
    rfl
  have hlc : cells.length = rows.length := by have := h1.1; omega
  refine wpList_append_own _ hgd s x 31 ho B 78 i0 _ 1 24 Tryz.underlying31 hi hz0 hz1 hz2 rfl (by decide) v rows.length cells hs (World.ownsRow.alloc h1 _)
    ⟨w.heap.size, 0, none⟩ 1 1 [c] hx rfl ?c1 ?c2 ?c3 ?c4 ?c5 ?_
  case c1 =>
    intro j u hu
    rw [Addr.add_lit, Nat.zero_add, cell_of_row _ _ j #[c] 78 (0, 0) (heap_alloc_new w _)]
    simpa using hu
  case c2 =>
    intro u hu
    rw [List.mem_singleton.1 hu]
    exact hone
  case c3 => unfold maxLen; omega
  case c4 => omega
  case c5 => simp; omega
  intro v' w' hown' hgrow _
  have hstay : ∀ (cc : Value) (r : List Int), Own B w cc r → Own B w' cc r := fun cc r hh =>
    World.ownsRow.kept (World.ownsRow.alloc hh _) hgrow (ownsRow_tags hh h1 (by decide))
  refine hK v' w' ⟨cells ++ [c], ?_, fun j hj => ?_⟩ ?_
  · rw [List.length_append]
    exact hown'
  · rw [List.length_append, List.length_singleton] at hj
    by_cases hjl : j < rows.length
    · obtain ⟨cc, hcc, hco⟩ := h2 j hjl
      refine ⟨cc, by rw [List.getElem?_append_left (by omega)]; exact hcc, ?_⟩
      rw [RW_snoc_old hjl]
      exact hstay _ _ hco
    · have ej : j = rows.length := by omega
      subst ej
      refine ⟨c, by rw [List.getElem?_append_right (by omega), hlc]; simp, ?_⟩
      rw [RW_snoc_new]
      exact hstay _ _ hc
  · refine ((Below.refl B w).alloc hB _).grown hgrow (by simp; omega) ?_
    intro k hk
    exact (World.ownsRow.lt h1 k hk).1
theorem Blk.asideT {base s n g : Nat} {t t' : TypeId} {w w' : World} {v : Value} {xs : List Value} {cs : Array Value} (h : Blk w g t cs) (hown : w.ownsRow base t' s v n xs) (hne : t ≠ t') (hg : w.grownBy w' v.ownBlock) : Blk w' g t cs := by
  refine (hg.block g h.lt (fun e => ?_)).trans h
  rcases hown.2 with ⟨rfl, _⟩ | ⟨g', cap, cur, rfl, _, hh, _⟩
  · cases e
  · have e2 : g' = g := Option.some.inj e.symm
    subst e2
    have h2 : w.heap[g']? = some (.cells cs t (0, 0)) := h
    rw [h2] at hh
    cases hh
    exact hne rfl
structure Aside (w w' : World) : Prop where
  blk : ∀ (g : Nat) (t : TypeId) (cs : Array Value), t ≠ 78 → Blk w g t cs → Blk w' g t cs
  row : ∀ (base s n : Nat) (t : TypeId) (v : Value) (xs : List Value), t ≠ 78 → w.ownsRow base t s v n xs → w'.ownsRow base t s v n xs
theorem stepR_one {ops : Array Oper} {o : Oper} {a : Act} {K : Act → World → Prop} {Q : Exit → Act → World → Prop} {E : Prop} {w : World} (c : Value) (row : List Int)
    (hgd : o.guard = none) (s x : Operand) (ho : o.op = .call { callee := .builtin .append, args := #[s, x], argTypes := #[31, 31] })
    (B : Nat) (v : Value) (rows : List (List Int)) (hs : a.eval s = v) (hx : a.eval x = .slice (some ⟨w.heap.size, 0, none⟩) 1 1)
    (hown : OwnRows B w v rows) (hc : Own B w c row) (hcw : AllI64 row) (hB : B ≤ w.heap.size) (hlen : rows.length ≤ 1099511627776)
    (hK : ∀ v' w', OwnRows B w' v' (rows ++ [row]) → Below B w w' → Aside w w' → K (a.put o.dst v') w') :
    if Region.wanted o (yielded ops a.tmps) = true then Oper.wp Tryz.prog o a (w.alloc (.cells #[c] 78)) K Q else E := by
  have hw : Region.wanted o (yielded ops a.tmps) = true := by simp [Region.wanted, hgd]
  rw [if_pos hw]
  obtain ⟨i0, hi, hz0, hz1, hz2⟩ := info_parts infoR
  obtain ⟨cells, h1, h2⟩ := hown
  have hone : c.oneCell' = true := by
    obtain ⟨ao, cap, rfl, _⟩ := hc.ints hcw
    rfl
  have hlc : cells.length = rows.length := by have := h1.1; omega
  refine wp_append_own _ s x 31 ho B 78 i0 _ 1 24 Tryz.underlying31 hi hz0 hz1 hz2 rfl (by decide) v rows.length cells hs (World.ownsRow.alloc h1 _)
    ⟨w.heap.size, 0, none⟩ 1 1 [c] hx rfl ?c1 ?c2 ?c3 ?c4 ?c5 ?_
  case c1 =>
    intro j u hu
    rw [Addr.add_lit, Nat.zero_add, cell_of_row _ _ j #[c] 78 (0, 0) (heap_alloc_new w _)]
    simpa using hu
  case c2 =>
    intro u hu
    rw [List.mem_singleton.1 hu]
    exact hone
  case c3 => unfold maxLen; omega
  case c4 => omega
  case c5 => simp; omega
  intro v' w' hown' hgrow _
  have hstay : ∀ (cc : Value) (r : List Int), Own B w cc r → Own B w' cc r := fun cc r hh =>
    World.ownsRow.kept (World.ownsRow.alloc hh _) hgrow (ownsRow_tags hh h1 (by decide))
  refine hK v' w' ⟨cells ++ [c], ?_, fun j hj => ?_⟩ ?_ ⟨fun g t cs hne hb => (hb.alloc _).asideT (World.ownsRow.alloc h1 _) hne hgrow, fun base s n t v xs hne hh => World.ownsRow.kept (World.ownsRow.alloc hh _) hgrow (ownsRow_tags hh h1 hne)⟩
  · rw [List.length_append]
    exact hown'
  · rw [List.length_append, List.length_singleton] at hj
    by_cases hjl : j < rows.length
    · obtain ⟨cc, hcc, hco⟩ := h2 j hjl
      refine ⟨cc, by rw [List.getElem?_append_left (by omega)]; exact hcc, ?_⟩
      rw [RW_snoc_old hjl]
      exact hstay _ _ hco
    · have ej : j = rows.length := by omega
      subst ej
      refine ⟨c, by rw [List.getElem?_append_right (by omega), hlc]; simp, ?_⟩
      rw [RW_snoc_new]
      exact hstay _ _ hc
  · refine ((Below.refl B w).alloc hB _).grown hgrow (by simp; omega) ?_
    intro k hk
    exact (World.ownsRow.lt h1 k hk).1
def heldStep (node acc : Int) (e : Ent) : Int := if e.s = node then acc + e.a else if e.o = node then acc - e.a else acc
def held (es : List Ent) (node : Int) : Int := es.foldl (heldStep node) 0
theorem held_snoc (es : List Ent) (e : Ent) (node : Int) : held (es ++ [e]) node = heldStep node (held es node) e := by simp [held, List.foldl_append]
theorem held_take {es : List Ent} {k : Nat} (h : k < es.length) (node : Int) : held (es.take (k + 1)) node = heldStep node (held (es.take k) node) (E es k) := by
  rw [List.take_succ_eq_append_getElem h, ← E_get h, held_snoc]
def Small (acc : Int) (k : Nat) : Prop := -(1000000 * (k : Int)) ≤ acc ∧ acc ≤ 1000000 * (k : Int)
theorem small_step {node acc : Int} {e : Ent} {k : Nat} (h : Small acc k) (he : 1 ≤ e.a ∧ e.a ≤ 1000000) : Small (heldStep node acc e) (k + 1) := by
  unfold Small heldStep at *
  split
  · push_cast; omega
  · split <;> (push_cast; omega)
set_option maxHeartbeats 2000000 in
set_option maxRecDepth 100000 in
theorem l6Held_any (B : Nat) (ao : Option Addr) (n cap : Nat) (es : List Ent) (node : Int) (w : World) (hx : Ents B w ao n cap es) (hB : B ≤ w.heap.size) (hok : bookOk es = true) :
    Calls Tryz.prog 89 #[.slice ao n cap, .int .i64 node] w (Says (.int .i64 (held es node)) w) := by
  have hx0 := hx.hlen; have hx1 := hx.hcap; have hx2 := hx.hmax
  unfold maxLen at hx2
  have hr := book_right hok
  have h20 := book_len hok
  rw [hx0] at hr h20
  have HX := Lib.hid hx0; have HR := Lib.hid hr; clear hx0 hr
  go_enter Tryz.func89, Tryz.ntmps89
  go_wp2
  go_loopw [5, 6] (fun sn si wr => ∃ (i : Nat) (m : Int), i ≤ n ∧ si = .int .i64 i ∧ sn = .int .i64 m ∧ Hid (held (es.take i) node = m) ∧ Small m i ∧ Below w.heap.size w wr) (fun _ si _ => n - (intOf si).toNat)
  case atStart => exact ⟨0, 0, Nat.zero_le _, rfl, rfl, Lib.hid rfl, ⟨by omega, by omega⟩, Below.refl _ _⟩
  case round =>
    obtain ⟨i, m, hi, rfl, rfl, hm, hsm, hbel⟩ := hrel
    have hxr := hx.below hbel hB hB
    by_cases hlt : i < n
    · obtain ⟨b, off, rfl, hbB, hc⟩ := hxr.at i hlt
      obtain ⟨c0, c1, c2, c3⟩ := hc i hlt
      have hgood := Ent.ok_all (HR.out i hlt).1
      have hstep := held_take (es := es) (k := i) (by have := HX.out; omega) node
      rw [hm.out] at hstep
      have hsm' := small_step (node := node) hsm ⟨hgood.2.2.2.2.1, hgood.2.2.2.2.2.1⟩
      clear hc
      generalize hxe : E es i = x at c0 c1 c2 c3 hgood hstep hsm'
      clear hxe
      unfold Small at hsm hsm'
      obtain ⟨hsm1, hsm2⟩ := hsm
      have hsz := hbel.size
      have hb1 := Lib.hid (hbel.alloc hsz (.cells #[.int .i64 x.o, .int .i64 x.s, .int .i64 x.a, .int .i64 x.d] 47))
      have i1 : (0 : Int) ≤ i := by omega
      have i2 : (i : Int) < n := by omega
      have a1 := hgood.2.2.2.2.1; have a2 := hgood.2.2.2.2.2.1
      clear hgood
      unfold heldStep at hstep hsm'
      by_cases hs : x.s = node
      · have hs' : (x.s == node) = true := by simpa using hs
        rw [if_pos hs] at hstep hsm'
        have HS := Lib.hid hstep; have HM := Lib.hid hsm'; clear hstep hsm' hs
        have e1 : IntKind.i64.wrap (m + x.a) = m + x.a := by rw [IntKind.wrap_i64]; omega
        by_cases ho : x.o = node
        · have ho' : (x.o == node) = true := by simpa using ho
          have ho2 : (x.o != node) = false := by simpa using ho
          clear ho
          go_wp2
          go_roundw
          case rel => exact ⟨i + 1, m + x.a, by omega, by go_num, by go_num, HS, HM.out, hb1.out⟩
          case measure => simp [intOf]; omega
        · have ho' : (x.o == node) = false := by simpa using ho
          have ho2 : (x.o != node) = true := by simpa using ho
          clear ho
          go_wp2
          go_roundw
          case rel => exact ⟨i + 1, m + x.a, by omega, by go_num, by go_num, HS, HM.out, hb1.out⟩
          case measure => simp [intOf]; omega
      · have hs' : (x.s == node) = false := by simpa using hs
        rw [if_neg hs] at hstep hsm'
        clear hs
        by_cases ho : x.o = node
        · have ho' : (x.o == node) = true := by simpa using ho
          have ho2 : (x.o != node) = false := by simpa using ho
          rw [if_pos ho] at hstep hsm'
          have HS := Lib.hid hstep; have HM := Lib.hid hsm'; clear hstep hsm' ho
          have e1 : IntKind.i64.wrap (m - x.a) = m - x.a := by rw [IntKind.wrap_i64]; omega
          go_wp2
          go_roundw
          case rel => exact ⟨i + 1, m - x.a, by omega, by go_num, by go_num, HS, HM.out, hb1.out⟩
          case measure => simp [intOf]; omega
        · have ho' : (x.o == node) = false := by simpa using ho
          have ho2 : (x.o != node) = true := by simpa using ho
          rw [if_neg ho] at hstep hsm'
          have HS := Lib.hid hstep; have HM := Lib.hid hsm'; clear hstep hsm' ho
          go_wp2
          go_roundw
          case rel => exact ⟨i + 1, m, by omega, by go_num, by go_num, HS, HM.out, hb1.out⟩
          case measure => simp [intOf]; omega
    · have ei : i = n := by omega
      subst ei
      have hv : held es node = m := by rw [← hm.out, List.take_of_length_le (by have := HX.out; omega)]
      have HV := Lib.hid hv; clear hv
      go_wp2
      go_ret
      exact ⟨ret_int HV.out.symm, hbel⟩
def HeldUp (es : List Ent) (k : Nat) : Prop := ∀ i : Nat, i < k → 0 ≤ held es i
instance (es : List Ent) (k : Nat) : Decidable (HeldUp es k) := by unfold HeldUp; infer_instance
def soundE (es : List Ent) : Bool := bookOk es && decide (HeldUp es 4)
theorem heldUp_succ {es : List Ent} {k : Nat} (h : HeldUp es k) (hk : 0 ≤ held es k) : HeldUp es (k + 1) := fun i hi => by
  by_cases e : i = k
  · subst e; exact hk
  · exact h i (by omega)
theorem sound_no {es : List Ent} (h : bookOk es = false) : soundE es = false := by simp [soundE, h]
theorem sound_yes {es : List Ent} (h : bookOk es = true) : soundE es = decide (HeldUp es 4) := by simp [soundE, h]
set_option maxHeartbeats 1000000 in
set_option maxRecDepth 100000 in
theorem specSound_any (B : Nat) (ao : Option Addr) (n cap : Nat) (es : List Ent) (w : World) (hx : Ents B w ao n cap es) (hB : B ≤ w.heap.size) :
    Calls Tryz.prog 71 #[.slice ao n cap] w (Says (.bool (soundE es)) w) := by
  have h1 := specBookOk_any B ao n cap es w hx hB
  have hh := fun (ok : bookOk es = true) (k : Nat) w' (hb : Below w.heap.size w w') => l6Held_any B ao n cap es k w' (hx.below hb hB (Nat.le_refl B)) (by have := hb.size; omega) ok
  have hno : bookOk es = false → soundE es = false := sound_no
  have hyes : bookOk es = true → soundE es = decide (HeldUp es 4) := sound_yes
  generalize soundE es = r at hno hyes
  generalize bookOk es = b1 at h1 hh hno hyes
  have HN := Lib.hid hno; have HY := Lib.hid hyes; have HH := Lib.hid hh; clear hno hyes hh
  go_enter Tryz.func71, Tryz.ntmps71
  go_wp2_with fail
  refine h1.mono ?_
  rintro e w1 ⟨rfl, hb1⟩
  rcases b1 with _ | _
  · have hr := HN.out (by first | rfl | trivial)
    subst hr
    go_wp2_with fail
    go_ret
    exact ⟨rfl, hb1⟩
  · have hr := HY.out (by first | rfl | trivial)
    have HR := Lib.hid hr; clear hr HN HY
    have HC : Hid (∀ (k : Nat) w', Below w.heap.size w w' → Calls Tryz.prog 89 #[.slice ao n cap, .int .i64 k] w' (Says (.int .i64 (held es k)) w')) := Lib.hid (fun k w' h => HH.out (by first | rfl | trivial) k w' h)
    clear HH
    go_wp2
    go_loopw [3] (fun sk wr => ∃ k : Nat, k ≤ 4 ∧ sk = .int .i64 k ∧ Hid (HeldUp es k) ∧ Below w.heap.size w wr) (fun sk _ => 4 - (intOf sk).toNat)
    case atStart => exact ⟨0, by omega, rfl, Lib.hid (fun i hi => absurd hi (by omega)), hb1⟩
    case round =>
      obtain ⟨k, hk, rfl, hup, hbel⟩ := hrel
      by_cases hlt : k < 4
      · have i1 : (k : Int) < 4 := by omega
        have hgo := fun h => heldUp_succ hup.out (k := k) h
        have hstop : ¬ 0 ≤ held es k → r = false := fun h => by rw [HR.out]; exact decide_eq_false (fun hu => h (hu k hlt))
        have HGO := Lib.hid hgo; have HST := Lib.hid hstop; clear hgo hstop
        have hc := HC.out k wr hbel
        generalize held es k = m at hc HGO HST
        go_wp2_with fail
        refine hc.mono ?_
        rintro e w2 ⟨rfl, hb2⟩
        have hB2 := hbel.trans (hb2.mono hbel.size)
        by_cases hm : m < 0
        · have hrf := HST.out (by omega)
          have HRF := Lib.hid hrf; clear hrf HGO HST hc
          go_wp2
          go_ret
          exact ⟨ret_bool HRF.out.symm, hB2⟩
        · have hn := Lib.hid (HGO.out (by omega))
          clear HGO HST hc
          go_wp2
          go_roundw
          case rel => exact ⟨k + 1, by omega, by go_num, hn, hB2⟩
          case measure => simp [intOf]; omega
      · have ek : k = 4 := by omega
        subst ek
        have hrt : r = true := by rw [HR.out]; exact decide_eq_true hup.out
        go_wp2
        go_ret
        exact ⟨ret_bool hrt.symm, hbel⟩
def acksOk (rows : List (List Int)) : Bool := rows.all vecOk && rows.length == 4
theorem acks_stop {rows : List (List Int)} {k : Nat} (h : k < rows.length) (hf : vecOk (RW rows k) = false) : acksOk rows = false := by
  have : rows.all vecOk = false := by
    rw [List.all_eq_false]
    exact ⟨RW rows k, by rw [RW_get h]; exact List.getElem_mem _, by rw [hf]; simp⟩
  simp [acksOk, this]
theorem acks_end {rows : List (List Int)} (h : ∀ j, j < rows.length → vecOk (RW rows j) = true) : acksOk rows = (rows.length == 4) := by
  have : rows.all vecOk = true := by
    rw [List.all_eq_true]
    intro r hr
    obtain ⟨i, hi, rfl⟩ := List.mem_iff_getElem.1 hr
    have := h i hi
    rwa [RW_get hi] at this
  simp [acksOk, this]
theorem acks_parts {rows : List (List Int)} (h : acksOk rows = true) : rows.length = 4 ∧ ∀ j, j < 4 → vecOk (RW rows j) = true := by
  simp only [acksOk, Bool.and_eq_true, List.all_eq_true, beq_iff_eq] at h
  refine ⟨h.2, fun j hj => ?_⟩
  rw [RW_get (by omega)]
  exact h.1 _ (List.getElem_mem _)
def nodeOk (me : Int) (book : List Ent) (acks : List (List Int)) : Bool := inB me 0 3 && soundE book && acksOk acks
set_option maxHeartbeats 1000000 in
set_option maxRecDepth 100000 in
theorem l15Acks_any (B : Nat) (ao : Option Addr) (n cap : Nat) (rows : List (List Int)) (w : World) (hx : Rws B w ao n cap rows) :
    Calls Tryz.prog 72 #[.slice ao n cap] w (fun e w' => e = .returned (.bool (acksOk rows)) ∧ w' = w) := by
  have hx0 := hx.hlen; have hx1 := hx.hcap; have hx2 := hx.hmax
  unfold maxLen at hx2
  subst hx0
  obtain ⟨r, hr⟩ : ∃ r, acksOk rows = r := ⟨_, rfl⟩
  have HR := Lib.hid hr
  rw [hr]
  clear hr
  go_enter Tryz.func72, Tryz.ntmps72
  go_wp2
  go_loopw [3] (fun s3 wr => ∃ k : Nat, k ≤ rows.length ∧ s3 = .int .i64 k ∧ Hid (∀ j, j < k → vecOk (RW rows j) = true) ∧ wr = w) (fun s3 _ => rows.length - (intOf s3).toNat)
  case atStart => exact ⟨0, Nat.zero_le _, rfl, Lib.hid (fun j hj => absurd hj (by omega)), rfl⟩
  case round =>
    obtain ⟨k, hk, rfl, hall, rfl⟩ := hrel
    by_cases hlt : k < rows.length
    · obtain ⟨b, off, rfl, hb, hc⟩ := hx.at k hlt
      obtain ⟨a, m, c, c0, hi, -⟩ := hc k hlt
      clear hc
      have hv := specVecOk_any B a m c (RW rows k) wr hi
      have hstop : vecOk (RW rows k) = false → r = false := fun h => by rw [← HR.out]; exact acks_stop hlt h
      have hgo : vecOk (RW rows k) = true → ∀ j, j < k + 1 → vecOk (RW rows j) = true := fun h j hj => by
        by_cases e : j = k
        · subst e; exact h
        · exact hall.out j (by omega)
      generalize vecOk (RW rows k) = v at hv hstop hgo
      have HS := Lib.hid hstop; have HG := Lib.hid hgo; clear hstop hgo
      have i0 : (0 : Int) ≤ k := by omega
      have i1 : (k : Int) < rows.length := by omega
      go_wp2_with fail
      refine hv.mono ?_
      rintro e w2 ⟨rfl, rfl⟩
      rcases v with _ | _
      · have hrf := HS.out rfl
        subst hrf
        clear HS HG
        go_wp2
        go_ret
        exact ⟨rfl, rfl⟩
      · have hn := Lib.hid (HG.out rfl)
        clear HS HG hv
        go_wp2
        go_roundw
        case rel => exact ⟨k + 1, by omega, by go_num, hn, by first | rfl | trivial⟩
        case measure => simp [intOf]; omega
    · have ek : k = rows.length := by omega
      subst ek
      have hre : r = (rows.length == 4) := by rw [← HR.out]; exact acks_end hall.out
      have hre' : r = ((rows.length : Int) == 4) := by
        rw [hre, Bool.eq_iff_iff]
        simp only [beq_iff_eq]
        omega
      have HRE := Lib.hid hre'; clear hre hre'
      go_wp2
      go_ret
      exact ⟨ret_bool HRE.out.symm, rfl⟩
theorem node_no1 {me : Int} {book : List Ent} {acks : List (List Int)} (h : inB me 0 3 = false) : nodeOk me book acks = false := by simp [nodeOk, h]
theorem node_no2 {me : Int} {book : List Ent} {acks : List (List Int)} (h : soundE book = false) : nodeOk me book acks = false := by simp [nodeOk, h]
theorem node_at {me : Int} {book : List Ent} {acks : List (List Int)} (h : inB me 0 3 = true) (h2 : soundE book = true) : nodeOk me book acks = acksOk acks := by simp [nodeOk, h, h2]
set_option maxHeartbeats 1000000 in
set_option maxRecDepth 100000 in
theorem specNodeOk_any (B : Nat) (me : Int) (ab : Option Addr) (nb cb : Nat) (book : List Ent) (aa : Option Addr) (na ca : Nat) (acks : List (List Int)) (w : World) (hx : Ents B w ab nb cb book) (ha : Rws B w aa na ca acks) (hB : B ≤ w.heap.size) :
    Calls Tryz.prog 50 #[.agg #[.int .i64 me, .slice ab nb cb, .slice aa na ca]] w (Says (.bool (nodeOk me book acks)) w) := by
  obtain ⟨wb, hwb⟩ : ∃ wb, wb = w.alloc (.cells #[.int .i64 me, .slice ab nb cb, .slice aa na ca] 39) := ⟨_, rfl⟩
  obtain ⟨g, hg⟩ : ∃ g, g = w.heap.size := ⟨_, rfl⟩
  have hblk : Blk wb g 39 #[.int .i64 me, .slice ab nb cb, .slice aa na ca] := by rw [hwb, hg]; exact Blk.new _ _ _
  have hb0 : Below w.heap.size w wb := by rw [hwb]; exact (Below.refl _ _).alloc (Nat.le_refl _) _
  have hs0 := hb0.size
  have h1 := fun w => l3Node_any me w
  have h2 := specSound_any B ab nb cb book wb (hx.below hb0 hB (Nat.le_refl B)) (by omega)
  have h3 := fun w' (h : Below w.heap.size w w') => l15Acks_any B aa na ca acks w' (ha.below h hB (Nat.le_refl B))
  obtain ⟨r, hr⟩ : ∃ r, nodeOk me book acks = r := ⟨_, rfl⟩
  have e1 : inB me 0 3 = false → r = false := fun h => by rw [← hr]; exact node_no1 h
  have e2 : soundE book = false → r = false := fun h => by rw [← hr]; exact node_no2 h
  have e3 : inB me 0 3 = true → soundE book = true → r = acksOk acks := fun h h2 => by rw [← hr]; exact node_at h h2
  rw [hr]
  clear hr
  generalize inB me 0 3 = b1 at h1 e1 e3
  generalize soundE book = b2 at h2 e2 e3
  generalize acksOk acks = b3 at h3 e3
  have E1 := Lib.hid e1; have E2 := Lib.hid e2; have E3 := Lib.hid e3; have H3 := Lib.hid h3
  clear e1 e2 e3 h3 hx ha
  have d0 := hblk.cell 0; have d1 := hblk.cell 1; have d2 := hblk.cell 2
  go_enter Tryz.func50, Tryz.ntmps50
  go_upto_region 1 with fail
  rw [← hwb, ← hg]
  clear hwb hg
  go_wp2_with fail
  refine (h1 _).mono ?_
  rintro e w1 ⟨rfl, rfl⟩
  rcases b1 with _ | _
  · have hr := E1.out (by first | rfl | trivial)
    subst hr
    clear E1 E2 E3
    go_wp2_with fail
    go_ret
    exact ⟨rfl, hb0⟩
  · go_wp2_with fail
    refine h2.mono ?_
    rintro e w2 ⟨rfl, hb2⟩
    have hB2 := hb0.trans (hb2.mono hs0)
    rcases b2 with _ | _
    · have hr := E2.out (by first | rfl | trivial)
      subst hr
      clear E1 E2 E3
      go_wp2_with fail
      go_ret
      exact ⟨rfl, hB2⟩
    · have hr := E3.out (by first | rfl | trivial) (by first | rfl | trivial)
      subst hr
      have hk2 := hblk.below hb2 hblk.lt
      clear d0 d1 d2 E1 E2 E3
      have d0 := hk2.cell 0; have d1 := hk2.cell 1; have d2 := hk2.cell 2
      go_wp2_with fail
      refine (H3.out _ hB2).mono ?_
      rintro e w3 ⟨rfl, rfl⟩
      go_wp2_with fail
      go_ret
      exact ⟨rfl, hB2⟩
def NewRows (rows : List (List Int)) (w : World) (e : Ending) (w' : World) : Prop := ∃ v, e = .returned v ∧ OwnRows w.heap.size w' v rows ∧ Below w.heap.size w w'
def zero4 : List Int := [0, 0, 0, 0]
def zeros : List (List Int) := [zero4, zero4, zero4, zero4]
set_option maxHeartbeats 1000000 in
set_option maxRecDepth 100000 in
theorem l15Zeros_any (w : World) :
    Calls Tryz.prog 48 #[] w (NewRows zeros w) := by
  have hzw : AllI64 zero4 := fun x hx => by simp [zero4] at hx; subst hx; exact ⟨by decide, by decide⟩
  have ho0 := ownRows_empty w
  have hb0 : Below w.heap.size w (w.alloc (.cells #[] 78)) := (Below.refl _ _).alloc (Nat.le_refl _) _
  have HZ : Hid (∀ w, Calls Tryz.prog 69 #[] w (NewInts zero4 w)) := Lib.hid (fun w => (l5Zero_any w).mono fun e w' ⟨h1, h2, h3⟩ => ⟨_, h1, h2, h3⟩)
  have HW := Lib.hid hzw; clear hzw
  go_enter Tryz.func48, Tryz.ntmps48
  go_wp2
  go_loopw [1, 2] (fun s1 s2 wr => ∃ k : Nat, k ≤ 4 ∧ s2 = .int .i64 k ∧ OwnRows w.heap.size wr s1 (zeros.take k) ∧ Below w.heap.size w wr) (fun _ s2 _ => 4 - (intOf s2).toNat)
  case atStart => exact ⟨0, by omega, rfl, ho0, hb0⟩
  case round =>
    obtain ⟨k, hk, rfl, hown, hbel⟩ := hrel
    have hsz := hbel.size
    by_cases hlt : k < 4
    · have hst : zeros.take (k + 1) = zeros.take k ++ [zero4] := by
        have h : k = 0 ∨ k = 1 ∨ k = 2 ∨ k = 3 := by omega
        rcases h with rfl | rfl | rfl | rfl <;> rfl
      have hkl : (zeros.take k).length ≤ 1099511627776 := by rw [List.length_take]; omega
      have HST := Lib.hid hst; clear hst
      generalize zeros.take k = rows at hown HST hkl
      have hzc := HZ.out wr
      have hzw := HW.out
      generalize zero4 = z at hzc hzw HST
      have i1 : (k : Int) < 4 := by omega
      go_wp2_with fail
      refine hzc.mono ?_
      rintro e w2 ⟨v2, rfl, hn2, hb2⟩
      have hB2 := hbel.trans (hb2.mono hsz)
      have ho2 := hown.below hb2 (Nat.le_refl _)
      have hs2 := hB2.size
      have hn2k := hn2
      obtain ⟨a2, c2, rfl, -⟩ := hn2.ints hzw
      go_wp2_with (at_builtin; refine appendR_one (.slice a2 z.length c2) z rfl _ _ rfl w.heap.size _ rows rfl rfl ho2 (hn2k.mono hsz) hzw hs2 hkl ?_; intro v' w' hown' hb')
      go_roundw
      case rel => exact ⟨k + 1, by omega, by go_num, by rw [HST.out]; exact hown', hB2.trans hb'⟩
      case measure => simp [intOf]; omega
    · have ek : k = 4 := by omega
      subst ek
      go_wp2
      go_ret
      exact ⟨_, rfl, hown, hbel⟩
end Go.Proofs.YtoniahfdjhhalaaGreat
