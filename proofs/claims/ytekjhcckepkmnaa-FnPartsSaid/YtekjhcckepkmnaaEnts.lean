/-
  Slices of entries: what they read as (Ents), a row of the call's own (OwnE); append.
-/
import Derived.Test.YtekjhcckepkmnaaEntry
import Derived.Laws.AppendOwnNone
namespace Go.Proofs.Ytekjhcckepkmnaa
open Go.RowKit

/-- An entry's four numbers. -/
structure Ent where
  o : Int
  s : Int
  a : Int
  d : Int

theorem Ent.same {x y : Ent} (h0 : x.o = y.o) (h1 : x.s = y.s) (h2 : x.a = y.a) (h3 : x.d = y.d) : x = y := by
  obtain ⟨a, b, c, d⟩ := x
  obtain ⟨a', b', c', d'⟩ := y
  simp only at h0 h1 h2 h3
  subst h0 h1 h2 h3
  rfl
instance : DecidableEq Ent := fun x y =>
  decidable_of_iff (x.o = y.o ∧ x.s = y.s ∧ x.a = y.a ∧ x.d = y.d) ⟨fun h => Ent.same h.1 h.2.1 h.2.2.1 h.2.2.2, fun h => by rw [h]; exact ⟨rfl, rfl, rfl, rfl⟩⟩

def Ent.cells (e : Ent) : List Value := [.int .i64 e.o, .int .i64 e.s, .int .i64 e.a, .int .i64 e.d]
def Ent.val (e : Ent) : Value := .agg #[.int .i64 e.o, .int .i64 e.s, .int .i64 e.a, .int .i64 e.d]
def Ent.wf (e : Ent) : Prop := I64 e.o ∧ I64 e.s ∧ I64 e.a ∧ I64 e.d
def zeroE : Ent := ⟨0, 0, 0, 0⟩
def AllE (es : List Ent) : Prop := ∀ e ∈ es, e.wf
/-- Entry number i. -/
def E (es : List Ent) (i : Nat) : Ent := es.getD i zeroE
theorem E_get {es : List Ent} {i : Nat} (h : i < es.length) : E es i = es[i] := by simp [E, List.getD, h]
theorem E_out {es : List Ent} {i : Nat} (h : es.length ≤ i) : E es i = zeroE := by simp [E, List.getD, h]
theorem E_wf {es : List Ent} (h : AllE es) (i : Nat) : (E es i).wf := by
  by_cases hi : i < es.length
  · rw [E_get hi]
    exact h _ (List.getElem_mem _)
  · rw [E_out (by omega)]
    exact ⟨⟨by decide, by decide⟩, ⟨by decide, by decide⟩, ⟨by decide, by decide⟩, ⟨by decide, by decide⟩⟩

def flatE (es : List Ent) : List Value := es.flatMap Ent.cells
theorem flatE_len (es : List Ent) : (flatE es).length = es.length * 4 := by
  induction es with
  | nil => rfl
  | cons e r ih => simp [flatE, List.flatMap_cons, Ent.cells] at *; omega
theorem flatE_append (xs ys : List Ent) : flatE (xs ++ ys) = flatE xs ++ flatE ys := by simp [flatE]
theorem flatE_one (e : Ent) : flatE [e] = e.cells := by simp [flatE]
theorem cells_get (e : Ent) : e.cells[0]? = some (.int .i64 e.o) ∧ e.cells[1]? = some (.int .i64 e.s) ∧ e.cells[2]? = some (.int .i64 e.a) ∧ e.cells[3]? = some (.int .i64 e.d) := ⟨rfl, rfl, rfl, rfl⟩
theorem flatE_get (es : List Ent) (j k : Nat) (hj : j < es.length) (hk : k < 4) : (flatE es)[j * 4 + k]? = (E es j).cells[k]? := by
  induction es generalizing j with
  | nil => simp at hj
  | cons e r ih =>
    rw [show flatE (e :: r) = e.cells ++ flatE r from by simp [flatE]]
    cases j with
    | zero => rw [List.getElem?_append_left (by simp [Ent.cells]; omega)]; simp [E]
    | succ j =>
      rw [List.getElem?_append_right (by simp [Ent.cells]; omega)]
      have e1 : (j + 1) * 4 + k - e.cells.length = j * 4 + k := by simp [Ent.cells]; omega
      rw [e1, ih j (by simpa using hj)]
      simp [E]

/-- The four cells from (b, o) on are the entry e. -/
structure Ent4 (w : World) (b o : Nat) (e : Ent) : Prop where
  h0 : w.cell? ⟨b, o, none⟩ = some (.int .i64 e.o)
  h1 : w.cell? ⟨b, o + 1, none⟩ = some (.int .i64 e.s)
  h2 : w.cell? ⟨b, o + 2, none⟩ = some (.int .i64 e.a)
  h3 : w.cell? ⟨b, o + 3, none⟩ = some (.int .i64 e.d)

/-- The slice (ao, n, cap) has the entries es in blocks below B. -/
structure Ents (B : Nat) (w : World) (ao : Option Addr) (n cap : Nat) (es : List Ent) : Prop where
  hlen : es.length = n
  hcap : n ≤ cap
  hmax : cap ≤ maxLen
  cell : ∀ j, j < n → ∃ b off, ao = some ⟨b, off, none⟩ ∧ b < B ∧ Ent4 w b (off + j * 4) (E es j)
  wf : AllE es

theorem Ent4.below {C b o : Nat} {w w' : World} {e : Ent} (h : Ent4 w b o e) (hb : Below C w w') (hC : b < C) : Ent4 w' b o e :=
  ⟨(hb.cell (p := ⟨b, o, none⟩) hC).trans h.h0, (hb.cell (p := ⟨b, o + 1, none⟩) hC).trans h.h1, (hb.cell (p := ⟨b, o + 2, none⟩) hC).trans h.h2, (hb.cell (p := ⟨b, o + 3, none⟩) hC).trans h.h3⟩

theorem Ents.below {B B' C : Nat} {w w' : World} {ao : Option Addr} {n cap : Nat} {es : List Ent} (h : Ents B w ao n cap es) (hb : Below C w w') (hC : B ≤ C) (hB : B ≤ B') : Ents B' w' ao n cap es :=
  ⟨h.hlen, h.hcap, h.hmax, fun j hj => by
    obtain ⟨b, off, e, hlt, hc⟩ := h.cell j hj
    exact ⟨b, off, e, by omega, hc.below hb (by omega)⟩, h.wf⟩

theorem Ents.at {B : Nat} {w : World} {ao : Option Addr} {n cap : Nat} {es : List Ent} (h : Ents B w ao n cap es) (k : Nat) (hk : k < n) :
    ∃ b off, ao = some ⟨b, off, none⟩ ∧ b < B ∧ ∀ j, j < n → Ent4 w b (off + j * 4) (E es j) := by
  obtain ⟨b, off, e, hb, _⟩ := h.cell k hk
  refine ⟨b, off, e, hb, fun j hj => ?_⟩
  obtain ⟨b', off', e', _, hc⟩ := h.cell j hj
  rw [e] at e'
  cases e'
  exact hc

/-- The call's own row of entries. -/
def OwnE (base : Nat) (w : World) (v : Value) (es : List Ent) : Prop :=
  w.ownsRow base 33 4 v es.length (flatE es)

theorem OwnE.ents {base : Nat} {w : World} {v : Value} {es : List Ent} (h : OwnE base w v es) (hx : AllE es) : ∃ ao cap, v = .slice ao es.length cap ∧ Ents w.heap.size w ao es.length cap es ∧ (ao = none → cap = 0) := by
  obtain ⟨h1, h2⟩ := h
  rcases h2 with ⟨rfl, h3⟩ | ⟨g, cap, cur, rfl, hb, hg, hn, hm, hs, ht⟩
  · have : es = [] := List.eq_nil_of_length_eq_zero h3
    subst this
    exact ⟨none, 0, rfl, ⟨rfl, Nat.le_refl _, by unfold maxLen; omega, fun j hj => by simp at hj, hx⟩, fun _ => rfl⟩
  · refine ⟨some ⟨g, 0, none⟩, cap, rfl, ⟨rfl, hn, hm, fun j hj => ⟨g, 0, rfl, (Array.getElem?_eq_some_iff.1 hg).1, ?_⟩, hx⟩, fun h => by cases h⟩
    have hc : ∀ k, k < 4 → w.cell? ⟨g, 0 + j * 4 + k, none⟩ = (E es j).cells[k]? := fun k hk => by
      rw [Nat.zero_add, cell_of_row w g (j * 4 + k) cur _ (0, 0) hg, ← flatE_get es j k hj hk, ← ht, List.getElem?_take, if_pos (by omega)]
      simp
    exact ⟨hc 0 (by omega), hc 1 (by omega), hc 2 (by omega), hc 3 (by omega)⟩

theorem OwnE.below {base C : Nat} {w w' : World} {v : Value} {es : List Ent} (h : OwnE base w v es) (hb : Below C w w') (hC : w.heap.size ≤ C) : OwnE base w' v es := by
  refine ⟨h.1, ?_⟩
  rcases h.2 with h3 | ⟨g, cap, cur, hv, hg, hh, r⟩
  · exact .inl h3
  · exact .inr ⟨g, cap, cur, hv, hg, by rw [hb.block g (by have := (Array.getElem?_eq_some_iff.1 hh).1; omega)]; exact hh, r⟩

theorem OwnE.mono {base base' : Nat} {w : World} {v : Value} {es : List Ent} (h : OwnE base w v es) (hb : base' ≤ base) : OwnE base' w v es := by
  refine ⟨h.1, ?_⟩
  rcases h.2 with h3 | ⟨g, cap, cur, hv, hg, r⟩
  · exact .inl h3
  · exact .inr ⟨g, cap, cur, hv, by omega, r⟩

theorem OwnE.alloc {base : Nat} {w : World} {v : Value} {es : List Ent} (h : OwnE base w v es) (o : Obj) : OwnE base (w.alloc o) v es := World.ownsRow.alloc h o

theorem infoE : (Try.prog.info? 33).map (fun i => (i.zero, i.size, i.bytes)) = some (some (.agg #[.int .i64 0, .int .i64 0, .int .i64 0, .int .i64 0]), 4, 32) := by kernel_rfl

theorem flatE_oneCell (es : List Ent) : ∀ u ∈ flatE es, u.oneCell' = true := by
  intro u hu
  simp only [flatE, List.mem_flatMap, Ent.cells] at hu
  obtain ⟨e, _, he⟩ := hu
  simp at he
  rcases he with rfl | rfl | rfl | rfl <;> rfl

theorem ownE_nil (B : Nat) (w : World) : OwnE B w (.slice none 0 0) [] := World.ownsRow_nil w B 33 4
theorem ownE_empty (w : World) : OwnE w.heap.size (w.alloc (.cells #[] 33)) (.slice (some ⟨w.heap.size, 0, none⟩) 0 0) [] := World.ownsRow_lit w #[] 0 (Nat.le_refl _) (by unfold maxLen; omega) rfl

/-- append of one entry, written out, onto the call's own row. -/
theorem appendE_one {ops : Array Oper} {rest : List Oper} {o : Oper} {a : Act} {Q : Exit → Act → World → Prop} {w : World} (y : Ent)
    (hgd : o.guard = none) (s x : Operand) (ho : o.op = .call { callee := .builtin .append, args := #[s, x], argTypes := #[24, 24] })
    (B : Nat) (v : Value) (es : List Ent) (hs : a.eval s = v) (hx : a.eval x = .slice (some ⟨w.heap.size, 0, none⟩) 1 1)
    (hown : OwnE B w v es) (hB : B ≤ w.heap.size) (hlen : es.length ≤ 1099511627776)
    (hK : ∀ v' w', OwnE B w' v' (es ++ [y]) → Below B w w' → wpList Try.prog ops Q rest (a.put o.dst v') w') :
    wpList Try.prog ops Q (o :: rest) a (w.alloc (.cells #[.int .i64 y.o, .int .i64 y.s, .int .i64 y.a, .int .i64 y.d] 33)) := by
  obtain ⟨i0, hi, hz0, hz1, hz2⟩ := info_parts infoE
  refine wpList_append_own _ hgd s x 24 ho B 33 i0 _ 4 32 Try.underlying24 hi hz0 hz1 hz2 rfl (by decide) v es.length (flatE es) hs (World.ownsRow.alloc hown _)
    ⟨w.heap.size, 0, none⟩ 1 1 (flatE [y]) hx rfl ?c1 (flatE_oneCell _) ?c3 ?c4 ?c5 ?_
  case c1 =>
    intro j u hu
    rw [Addr.add_lit, Nat.zero_add, cell_of_row _ _ j #[.int .i64 y.o, .int .i64 y.s, .int .i64 y.a, .int .i64 y.d] 33 (0, 0) (heap_alloc_new w _)]
    rw [flatE_one] at hu
    simpa [Ent.cells] using hu
  case c3 => unfold maxLen; omega
  case c4 => omega
  case c5 => simp; omega
  intro v' w' hown' hgrow _
  refine hK v' w' ?_ ?_
  · unfold OwnE
    rw [List.length_append, flatE_append]
    exact hown'
  · refine ((Below.refl B w).alloc hB _).grown hgrow (by simp; omega) ?_
    intro k hk
    exact (World.ownsRow.lt hown k hk).1

/-- append of a whole slice of entries onto the call's own row. -/
theorem appendE_all {ops : Array Oper} {rest : List Oper} {o : Oper} {a : Act} {Q : Exit → Act → World → Prop} {w : World}
    (hgd : o.guard = none) (s x : Operand) (ho : o.op = .call { callee := .builtin .append, args := #[s, x], argTypes := #[24, 24] })
    (B C : Nat) (v : Value) (xs ys : List Ent) (ao : Option Addr) (n cap : Nat) (hs : a.eval s = v) (hx : a.eval x = .slice ao n cap) (hi : Ents C w ao n cap ys) (hz : ao = none → cap = 0)
    (hown : OwnE B w v xs) (hB : B ≤ w.heap.size) (hlen : xs.length + n ≤ 1099511627776)
    (hK : ∀ v' w', OwnE B w' v' (xs ++ ys) → Below B w w' → wpList Try.prog ops Q rest (a.put o.dst v') w') :
    wpList Try.prog ops Q (o :: rest) a w := by
  obtain ⟨i0, hi0, hz0, hz1, hz2⟩ := info_parts infoE
  have hyl := hi.hlen
  cases ao with
  | none =>
    have hc0 := hz rfl
    have hn0 : n = 0 := by have := hi.hcap; omega
    subst hc0 hn0
    have hys : ys = [] := List.eq_nil_of_length_eq_zero hyl
    subst hys
    refine wpList_append_own_none hgd s x 24 ho B 33 i0 4 Try.underlying24 hi0 v xs.length (flatE xs) hs hown hx ?_
    exact hK v w (by rw [List.append_nil]; exact hown) (Below.refl _ _)
  | some ad =>
    refine wpList_append_own _ hgd s x 24 ho B 33 i0 _ 4 32 Try.underlying24 hi0 hz0 hz1 hz2 rfl (by decide) v xs.length (flatE xs) hs hown
      ad n cap (flatE ys) hx (by rw [flatE_len, hyl]) ?c1 (flatE_oneCell _) ?c3 ?c4 hB ?_
    case c1 =>
      intro j u hu
      have hj : j < n * 4 := by
        have := (List.getElem?_eq_some_iff.1 hu).1
        rwa [flatE_len, hyl] at this
      obtain ⟨b, off, e, _, hc⟩ := hi.cell (j / 4) (by omega)
      cases e
      have ej : j = j / 4 * 4 + j % 4 := by omega
      have hk : j % 4 < 4 := by omega
      rw [ej] at hu
      rw [flatE_get ys (j / 4) (j % 4) (by omega) hk] at hu
      rw [Addr.add_lit]
      have e2 : off + j = off + j / 4 * 4 + j % 4 := by omega
      rw [e2, ← hu]
      generalize j % 4 = k at hk
      have hk' : k = 0 ∨ k = 1 ∨ k = 2 ∨ k = 3 := by omega
      rcases hk' with rfl | rfl | rfl | rfl
      · exact hc.h0
      · exact hc.h1
      · exact hc.h2
      · exact hc.h3
    case c3 => unfold maxLen; omega
    case c4 => omega
    intro v' w' hown' hgrow _
    refine hK v' w' ?_ ?_
    · unfold OwnE
      rw [List.length_append, flatE_append, hyl]
      exact hown'
    · refine (Below.refl B w).grown hgrow hB ?_
      intro k hk
      exact (World.ownsRow.lt hown k hk).1

theorem Ents.take {B : Nat} {w : World} {ao : Option Addr} {n cap : Nat} {es : List Ent} (h : Ents B w ao n cap es) (k : Nat) (hk : k ≤ n) : Ents B w ao k cap (es.take k) := by
  have hl := h.hlen
  refine ⟨by rw [List.length_take]; omega, by have := h.hcap; omega, h.hmax, fun j hj => ?_, fun e he => h.wf e (List.mem_of_mem_take he)⟩
  obtain ⟨b, off, e, hb, hc⟩ := h.cell j (by omega)
  refine ⟨b, off, e, hb, ?_⟩
  have e2 : E (es.take k) j = E es j := by rw [E_get (by rw [List.length_take]; omega), E_get (by omega)]; simp
  rw [e2]
  exact hc

theorem Ents.drop {B : Nat} {w : World} {ao : Option Addr} {n cap : Nat} {es : List Ent} (h : Ents B w ao n cap es) (k : Nat) (hk : k ≤ n) :
    Ents B w (if cap = k then ao else ao.map (·.add (k * 4))) (n - k) (cap - k) (es.drop k) := by
  have hl := h.hlen
  have hc := h.hcap
  refine ⟨by rw [List.length_drop]; omega, by omega, by have := h.hmax; omega, fun j hj => ?_, fun e he => h.wf e (List.mem_of_mem_drop he)⟩
  obtain ⟨b, off, rfl, hb, hcell⟩ := h.cell (k + j) (by omega)
  rw [if_neg (by omega)]
  refine ⟨b, off + k * 4, by simp only [Option.map, Addr.add_lit], hb, ?_⟩
  have e2 : E (es.drop k) j = E es (k + j) := by rw [E_get (by rw [List.length_drop]; omega), E_get (by omega)]; simp
  have e3 : off + k * 4 + j * 4 = off + (k + j) * 4 := by omega
  rw [e2, e3]
  exact hcell
theorem drop_none {ao : Option Addr} {cap k : Nat} (hz : ao = none → cap = 0) : (if cap = k then ao else ao.map (·.add (k * 4))) = none → cap - k = 0 := by
  intro h
  split at h
  · omega
  · cases ao with
    | none => have := hz rfl; omega
    | some a => cases h

end Go.Proofs.Ytekjhcckepkmnaa
