/- Texts of this claim, put together. -/
import Derived.Test.YtccoljbnddfmpaaGreatDoorRows
import Derived.WalkKit
import Derived.WalkSpells
import Derived.WalkLawsBesides
import Derived.Lib.Hide
import Derived.IntWalk
import Derived.RegionTactic
import Derived.ChangeAlike
import Derived.Deep.QuietTactic
import Derived.BigQuiet
import Derived.Deep.LoopGhost
import Derived.Handy
import Derived.Laws.AppendOwnNone

namespace Go.Proofs.YtccoljbnddfmpaaGreatDoor
theorem qGa {α : Type} {xs : List α} {i : Nat} (h : i < xs.toArray.size) : xs.toArray[i] = xs[i]'(by simpa using h) := List.getElem_toArray h
theorem qGb {α : Type} {a : α} {l : List α} {i : Nat} (h : i + 1 < (a :: l).length) : (a :: l)[i + 1] = l[i]'(by simpa using h) := rfl
theorem qGc {α : Type} {a : α} {l : List α} : (a :: l)[0] = a := rfl
theorem qSa {α : Type} {xs : List α} {i : Nat} {a : α} : xs.toArray.setIfInBounds i a = (xs.set i a).toArray := by simp
theorem qSb {α : Type} {xs : List α} {a b : α} : (a :: xs).set 0 b = b :: xs := rfl
theorem qSc {α : Type} {xs : List α} {a b : α} {n : Nat} : (a :: xs).set (n + 1) b = a :: xs.set n b := rfl
end Go.Proofs.YtccoljbnddfmpaaGreatDoor

namespace Go.Proofs.YtccoljbnddfmpaaGreatDoor
open Go.RowKit
def I64 (x : Int) : Prop := -9223372036854775808 ≤ x ∧ x ≤ 9223372036854775807
def AllI64 (xs : List Int) : Prop := ∀ x ∈ xs, I64 x
structure Ints (B : Nat) (w : World) (ao : Option Addr) (n cap : Nat) (xs : List Int) : Prop where
  hlen : xs.length = n
  hcap : n ≤ cap
  hmax : cap ≤ maxLen
  cell : ∀ j, j < n → ∃ b off, ao = some ⟨b, off, none⟩ ∧ b < B ∧ w.cell? ⟨b, off + j, none⟩ = some (.int .i64 (xs.getD j 0))
  wf : AllI64 xs
theorem Ints.below {B B' C : Nat} {w w' : World} {ao : Option Addr} {n cap : Nat} {xs : List Int} (h : Ints B w ao n cap xs) (hb : Below C w w') (hC : B ≤ C) (hB : B ≤ B') : Ints B' w' ao n cap xs :=
  ⟨h.hlen, h.hcap, h.hmax, fun j hj => by
    obtain ⟨b, off, e, hlt, hc⟩ := h.cell j hj
    exact ⟨b, off, e, by omega, (hb.cell (p := ⟨b, off + j, none⟩) (by show b < C; omega)).trans hc⟩, h.wf⟩
theorem Ints.at {B : Nat} {w : World} {ao : Option Addr} {n cap : Nat} {xs : List Int} (h : Ints B w ao n cap xs) (k : Nat) (hk : k < n) :
    ∃ b off, ao = some ⟨b, off, none⟩ ∧ b < B ∧ ∀ j, j < n → w.cell? ⟨b, off + j, none⟩ = some (.int .i64 (xs.getD j 0)) := by
  obtain ⟨b, off, e, hb, _⟩ := h.cell k hk
  refine ⟨b, off, e, hb, fun j hj => ?_⟩
  obtain ⟨b', off', e', _, hc⟩ := h.cell j hj
  rw [e] at e'
  cases e'
  exact hc
theorem Ints.getD {B : Nat} {w : World} {ao : Option Addr} {n cap : Nat} {xs : List Int} (h : Ints B w ao n cap xs) (k : Nat) (hk : k < n) : I64 (xs.getD k 0) := by
  have hl := h.hlen
  have : xs.getD k 0 = xs[k]'(by omega) := by simp [List.getD, show k < xs.length by omega]
  rw [this]
  exact h.wf _ (List.getElem_mem _)
def Own (base : Nat) (w : World) (v : Value) (xs : List Int) : Prop :=
  w.ownsRow base 2 1 v xs.length (xs.map (Value.int .i64))
theorem Own.ints {base : Nat} {w : World} {v : Value} {xs : List Int} (h : Own base w v xs) (hx : AllI64 xs) : ∃ ao cap, v = .slice ao xs.length cap ∧ Ints w.heap.size w ao xs.length cap xs := by
  obtain ⟨h1, h2⟩ := h
  rcases h2 with ⟨rfl, h3⟩ | ⟨g, cap, cur, rfl, hb, hg, hn, hm, hs, ht⟩
  · have : xs = [] := List.eq_nil_of_length_eq_zero h3
    subst this
    exact ⟨none, 0, rfl, rfl, Nat.le_refl _, by unfold maxLen; omega, fun j hj => by simp at hj, hx⟩
  · refine ⟨some ⟨g, 0, none⟩, cap, rfl, rfl, hn, hm, fun j hj => ⟨g, 0, rfl, (Array.getElem?_eq_some_iff.1 hg).1, ?_⟩, hx⟩
    rw [Nat.zero_add, cell_of_row w g j cur _ (0, 0) hg]
    have e : (cur.toList.take (xs.length * 1))[j]? = some (.int .i64 (xs.getD j 0)) := by
      rw [ht]
      simp [List.getD, hj]
    rw [List.getElem?_take, if_pos (by omega)] at e
    simpa using e
theorem Own.below {base C : Nat} {w w' : World} {v : Value} {xs : List Int} (h : Own base w v xs) (hb : Below C w w') (hC : w.heap.size ≤ C) : Own base w' v xs := by
  refine ⟨h.1, ?_⟩
  rcases h.2 with h3 | ⟨g, cap, cur, hv, hg, hh, r⟩
  · exact .inl h3
  · exact .inr ⟨g, cap, cur, hv, hg, by rw [hb.block g (by have := (Array.getElem?_eq_some_iff.1 hh).1; omega)]; exact hh, r⟩
theorem Own.mono {base base' : Nat} {w : World} {v : Value} {xs : List Int} (h : Own base w v xs) (hb : base' ≤ base) : Own base' w v xs := by
  refine ⟨h.1, ?_⟩
  rcases h.2 with h3 | ⟨g, cap, cur, hv, hg, r⟩
  · exact .inl h3
  · exact .inr ⟨g, cap, cur, hv, by omega, r⟩
def Drew (w w' : World) : Prop := ∃ nq, w' = w.drewN nq
theorem Drew.refl (w : World) : Drew w w := ⟨0, rfl⟩
theorem Drew.one (w : World) (n : Nat) : Drew w (w.drewN n) := ⟨n, rfl⟩
theorem Drew.two (w : World) (n m : Nat) : Drew w ((w.drewN n).drewN m) := ⟨_, World.drewN_drewN _ _ _⟩
theorem Drew.below {w w' : World} (h : Drew w w') (B : Nat) : Below B w w' := by
  obtain ⟨n, rfl⟩ := h
  exact below_drewN (Below.refl _ _) n
theorem info64 : (Tryz.prog.info? 2).map (fun i => (i.zero, i.size, i.bytes)) = some (some (.int .i64 0), 1, 8) := by kernel_rfl
theorem map_set (xs : List Int) (k : Nat) (x : Int) : (xs.map (Value.int .i64)).set k (.int .i64 x) = (xs.set k x).map (Value.int .i64) := by
  simp
theorem ret_bool {a b : Bool} (h : a = b) : Ending.returned (.bool a) = .returned (.bool b) := by rw [h]
theorem ret_int {k : IntKind} {a b : Int} (h : a = b) : Ending.returned (.int k a) = .returned (.int k b) := by rw [h]
theorem bytes_i64 {xs : List Int} (h : ∀ x ∈ xs, 0 ≤ x ∧ x ≤ 255) : AllI64 xs := fun x hx => by have := h x hx; unfold I64; omega
def NewInts (xs : List Int) (w : World) (e : Ending) (w' : World) : Prop := ∃ v, e = .returned v ∧ Own w.heap.size w' v xs ∧ Below w.heap.size w w'
def Yes (w : World) (e : Ending) (w' : World) : Prop := e = .returned (.bool true) ∧ Below w.heap.size w w'
end Go.Proofs.YtccoljbnddfmpaaGreatDoor

namespace Go.Proofs.YtccoljbnddfmpaaGreatDoor
open Go.RowKit
theorem own_nil (B : Nat) (w : World) : Own B w (.slice none 0 0) [] := World.ownsRow_nil w B 2 1
theorem own_empty (w : World) : Own w.heap.size (w.alloc (.cells #[] 2)) (.slice (some ⟨w.heap.size, 0, none⟩) 0 0) [] := World.ownsRow_lit w #[] 0 (Nat.le_refl _) (by unfold maxLen; omega) rfl
theorem own_lit (w : World) (xs : List Int) (h : xs.length ≤ 1099511627776) : Own w.heap.size (w.alloc (.cells (xs.map (Value.int .i64)).toArray 2)) (.slice (some ⟨w.heap.size, 0, none⟩) xs.length xs.length) xs := by
  unfold Own
  exact World.ownsRow_lit w _ xs.length (Nat.le_refl _) (by unfold maxLen; omega) (by simp)
theorem append_one {ops : Array Oper} {rest : List Oper} {o : Oper} {a : Act} {Q : Exit → Act → World → Prop} {w : World} {y : Int}
    (hgd : o.guard = none) (s x : Operand) (ho : o.op = .call { callee := .builtin .append, args := #[s, x], argTypes := #[104, 104] })
    (B : Nat) (v : Value) (xs : List Int) (hs : a.eval s = v) (hx : a.eval x = .slice (some ⟨w.heap.size, 0, none⟩) 1 1)
    (hown : Own B w v xs) (hB : B ≤ w.heap.size) (hlen : xs.length ≤ 1099511627776)
    (hK : ∀ v' w', Own B w' v' (xs ++ [y]) → Below B w w' → wpList Tryz.prog ops Q rest (a.put o.dst v') w') :
    wpList Tryz.prog ops Q (o :: rest) a (w.alloc (.cells #[.int .i64 y] 2)) := by
  obtain ⟨i0, hi, hz0, hz1, hz2⟩ := info_parts info64
  refine wpList_append_own _ hgd s x 104 ho B 2 i0 (.int .i64 0) 1 8 Tryz.underlying104 hi hz0 hz1 hz2 rfl (by decide) v xs.length (xs.map (Value.int .i64)) hs (World.ownsRow.alloc hown _)
    ⟨w.heap.size, 0, none⟩ 1 1 [.int .i64 y] hx rfl ?c1 ?c2 ?c3 ?c4 ?c5 ?_
  case c1 =>
    intro j u hu
    match j, hu with
    | 0, hu =>
      simp at hu
      subst hu
      rw [Addr.add_lit]
      go_simp
  case c2 =>
    intro u hu
    simp at hu
    subst hu
    rfl
  case c3 => unfold maxLen; omega
  case c4 => omega
  case c5 => simp; omega
  intro v' w' hown' hgrow _
  refine hK v' w' ?_ ?_
  · unfold Own
    rw [List.length_append, List.map_append]
    exact hown'
  · refine ((Below.refl B w).alloc hB _).grown hgrow (by simp; omega) ?_
    intro k hk
    rcases hown.2 with ⟨rfl, _⟩ | ⟨g, cap, cur, rfl, hg, _⟩
    · cases hk
    · simp [Value.ownBlock] at hk
      omega
theorem append_all {ops : Array Oper} {rest : List Oper} {o : Oper} {a : Act} {Q : Exit → Act → World → Prop} {w : World}
    (hgd : o.guard = none) (s x : Operand) (ho : o.op = .call { callee := .builtin .append, args := #[s, x], argTypes := #[104, 104] })
    (B C : Nat) (v : Value) (xs ys : List Int) (ao : Option Addr) (n cap : Nat) (hs : a.eval s = v) (hx : a.eval x = .slice ao n cap) (hi : Ints C w ao n cap ys) (hz : ao = none → cap = 0)
    (hown : Own B w v xs) (hB : B ≤ w.heap.size) (hlen : xs.length + n ≤ 1099511627776)
    (hK : ∀ v' w', Own B w' v' (xs ++ ys) → Below B w w' → wpList Tryz.prog ops Q rest (a.put o.dst v') w') :
    wpList Tryz.prog ops Q (o :: rest) a w := by
  obtain ⟨i0, hi0, hz0, hz1, hz2⟩ := info_parts info64
  have hyl := hi.hlen
  cases ao with
  | none =>
    have hc0 := hz rfl
    have hn0 : n = 0 := by have := hi.hcap; omega
    subst hc0 hn0
    have hys : ys = [] := List.eq_nil_of_length_eq_zero hyl
    subst hys
    refine wpList_append_own_none hgd s x 104 ho B 2 i0 1 Tryz.underlying104 hi0 v xs.length (xs.map (Value.int .i64)) hs hown hx ?_
    exact hK v w (by rw [List.append_nil]; exact hown) (Below.refl _ _)
  | some ad =>
    refine wpList_append_own _ hgd s x 104 ho B 2 i0 (.int .i64 0) 1 8 Tryz.underlying104 hi0 hz0 hz1 hz2 rfl (by decide) v xs.length (xs.map (Value.int .i64)) hs hown
      ad n cap (ys.map (Value.int .i64)) hx (by simp [hyl]) ?c1 ?c2 ?c3 ?c4 hB ?_
    case c1 =>
      intro j u hu
      have hj : j < n := by
        have := (List.getElem?_eq_some_iff.1 hu).1
        simpa [hyl] using this
      obtain ⟨b, off, e, _, hc⟩ := hi.cell j hj
      cases e
      rw [Addr.add_lit, hc]
      have e2 : (ys.map (Value.int .i64))[j]? = some (.int .i64 (ys.getD j 0)) := by simp [List.getD, show j < ys.length by omega]
      rw [e2] at hu
      exact hu
    case c2 => exact ints_oneCell _ _
    case c3 => unfold maxLen; omega
    case c4 => omega
    intro v' w' hown' hgrow _
    refine hK v' w' ?_ ?_
    · unfold Own
      rw [List.length_append, List.map_append, hyl]
      exact hown'
    · refine (Below.refl B w).grown hgrow hB ?_
      intro k hk
      exact (World.ownsRow.lt hown k hk).1
theorem Own.ints' {base : Nat} {w : World} {v : Value} {xs : List Int} (h : Own base w v xs) (hx : AllI64 xs) : ∃ ao cap, v = .slice ao xs.length cap ∧ Ints w.heap.size w ao xs.length cap xs ∧ (ao = none → cap = 0) := by
  obtain ⟨ao, cap, rfl, hi⟩ := h.ints hx
  refine ⟨ao, cap, rfl, hi, ?_⟩
  rcases h.2 with ⟨e, _⟩ | ⟨g, cap', cur, e, _⟩
  · simp only [Value.slice.injEq] at e
    exact fun _ => e.2.2
  · simp only [Value.slice.injEq] at e
    intro h
    rw [e.1] at h
    cases h
end Go.Proofs.YtccoljbnddfmpaaGreatDoor

namespace Go.Proofs.YtccoljbnddfmpaaGreatDoor
open Go.RowKit
structure Only (g : Nat) (w w' : World) : Prop where
  grown : w.grownBy w' (some g)
  size : w'.heap.size = w.heap.size
theorem Only.refl (g : Nat) (w : World) : Only g w w := ⟨World.grownBy.refl _ _, rfl⟩
theorem Only.trans {g : Nat} {a b c : World} (h : Only g a b) (k : Only g b c) : Only g a c :=
  ⟨⟨k.grown.os.trans h.grown.os, k.grown.tape.trans h.grown.tape, k.grown.output.trans h.grown.output, Nat.le_trans h.grown.size k.grown.size, fun i hi hne => (k.grown.block i (by have := h.size; omega) hne).trans (h.grown.block i hi hne)⟩, k.size.trans h.size⟩
theorem Only.drewN {g : Nat} {a b : World} (h : Only g a b) (n : Nat) : Only g a (b.drewN n) :=
  h.trans ⟨⟨rfl, rfl, rfl, Nat.le_refl _, fun _ _ _ => rfl⟩, rfl⟩
theorem Only.setCell {g : Nat} {a b : World} (h : Only g a b) (o : Nat) (u : Value) : Only g a (b.setCell ⟨g, o, none⟩ u) :=
  h.trans ⟨⟨rfl, rfl, rfl, by simp [World.setCell], fun k _ hne => Below.heap_setCell _ _ _ _ (fun e => hne (by rw [e]))⟩, by simp [World.setCell]⟩
theorem Only.below {g : Nat} {w w' : World} (h : Only g w w') {B : Nat} (hB : B ≤ g) (hs : B ≤ w.heap.size) : Below B w w' :=
  ⟨h.grown.os, h.grown.tape, h.grown.output, h.grown.size, fun k hk => h.grown.block k (by omega) (fun e => by cases e; omega)⟩
theorem Only.cell {g : Nat} {w w' : World} (h : Only g w w') {a : Addr} {v : Value} (hc : w.cell? a = some v) (hne : a.block ≠ g) : w'.cell? a = some v :=
  h.grown.cell hc (fun e => hne (Option.some.inj e))
theorem Ints.only {B g : Nat} {w w' : World} {ao : Option Addr} {n cap : Nat} {xs : List Int} (h : Ints B w ao n cap xs) (hb : Only g w w') (hg : B ≤ g) : Ints B w' ao n cap xs :=
  ⟨h.hlen, h.hcap, h.hmax, fun j hj => by
    obtain ⟨b, off, e, hlt, hc⟩ := h.cell j hj
    exact ⟨b, off, e, hlt, hb.cell hc (by show b ≠ g; omega)⟩, h.wf⟩
def Keeps (g : Nat) (w w' : World) : Prop := w.grownBy w' (some g)
theorem Only.keeps {g : Nat} {w w' : World} (h : Only g w w') : Keeps g w w' := h.grown
theorem Keeps.refl (g : Nat) (w : World) : Keeps g w w := World.grownBy.refl _ _
theorem Keeps.trans {g : Nat} {a b c : World} (h : Keeps g a b) (k : Keeps g b c) : Keeps g a c :=
  ⟨k.os.trans h.os, k.tape.trans h.tape, k.output.trans h.output, Nat.le_trans h.size k.size, fun i hi hne => (k.block i (by have := h.size; omega) hne).trans (h.block i hi hne)⟩
theorem Keeps.alloc (g : Nat) (w : World) (o : Obj) : Keeps g w (w.alloc o) := World.grownBy_alloc w o _
theorem Keeps.drewN {g : Nat} {a b : World} (h : Keeps g a b) (n : Nat) : Keeps g a (b.drewN n) := ⟨h.os, h.tape, h.output, h.size, h.block⟩
theorem Keeps.below {g : Nat} {w w' : World} (h : Keeps g w w') {B : Nat} (hB : B ≤ g) (hs : B ≤ w.heap.size) : Below B w w' :=
  ⟨h.os, h.tape, h.output, h.size, fun k hk => h.block k (by omega) (fun e => by cases e; omega)⟩
theorem Keeps.of_below {g : Nat} {w w' : World} (h : Below w.heap.size w w') : Keeps g w w' :=
  ⟨h.os, h.tape, h.output, h.size, fun k hk _ => h.block k hk⟩
theorem Keeps.then_below {g : Nat} {a b c : World} (h : Keeps g a b) (k : Below a.heap.size b c) : Keeps g a c :=
  ⟨k.os.trans h.os, k.tape.trans h.tape, k.output.trans h.output, Nat.le_trans h.size k.size, fun i hi hne => (k.block i hi).trans (h.block i hi hne)⟩
theorem Own.keeps {base g : Nat} {w w' : World} {v : Value} {xs : List Int} (h : Own base w v xs) (hb : Keeps g w w') (hg : g < base) : Own base w' v xs := by
  refine World.ownsRow.kept h hb ?_
  cases hv : v.ownBlock with
  | none => exact .inl rfl
  | some k =>
    right
    intro e
    have := (World.ownsRow.lt h k hv).1
    have e2 : k = g := Option.some.inj e
    omega
end Go.Proofs.YtccoljbnddfmpaaGreatDoor

namespace Go.Proofs.YtccoljbnddfmpaaGreatDoor
open Go.RowKit
def Blk (w : World) (g : Nat) (t : TypeId) (cs : Array Value) : Prop := w.heap[g]? = some (.cells cs t (0, 0))
theorem Blk.lt {w : World} {g : Nat} {t : TypeId} {cs : Array Value} (h : Blk w g t cs) : g < w.heap.size := (Array.getElem?_eq_some_iff.1 h).1
theorem Blk.cell {w : World} {g : Nat} {t : TypeId} {cs : Array Value} (h : Blk w g t cs) (i : Nat) : w.cell? ⟨g, i, none⟩ = cs[i]? := cell_of_row w g i cs t (0, 0) h
theorem Blk.frozen {w : World} {g : Nat} {t : TypeId} {cs : Array Value} (h : Blk w g t cs) (i : Nat) : w.frozen? ⟨g, i, none⟩ = false := by
  unfold Blk at h
  simp [World.frozen?, h]
theorem Blk.new (w : World) (t : TypeId) (cs : Array Value) : Blk (w.alloc (.cells cs t)) w.heap.size t cs := heap_alloc_new w _
theorem Blk.drewN {w : World} {g : Nat} {t : TypeId} {cs : Array Value} (h : Blk w g t cs) (n : Nat) : Blk (w.drewN n) g t cs := h
theorem Blk.alloc {w : World} {g : Nat} {t : TypeId} {cs : Array Value} (h : Blk w g t cs) (o : Obj) : Blk (w.alloc o) g t cs := (Below.heap_alloc w o g h.lt).trans h
theorem Blk.below {w w' : World} {g B : Nat} {t : TypeId} {cs : Array Value} (h : Blk w g t cs) (hb : Below B w w') (hg : g < B) : Blk w' g t cs := (hb.block g hg).trans h
theorem Blk.keeps {w w' : World} {g k : Nat} {t : TypeId} {cs : Array Value} (h : Blk w g t cs) (hb : Keeps k w w') (hne : g ≠ k) : Blk w' g t cs :=
  (hb.block g h.lt (fun e => hne (Option.some.inj e))).trans h
theorem Blk.set_ {w : World} {g : Nat} {t : TypeId} {cs : Array Value} (h : Blk w g t cs) (i : Nat) (u : Value) : Blk (w.setCell ⟨g, i, none⟩ u) g t (cs.setIfInBounds i u) := by
  unfold Blk at h ⊢
  simp [World.setCell, Array.getElem?_modify, h]
theorem Blk.far {w : World} {g : Nat} {t : TypeId} {cs : Array Value} (h : Blk w g t cs) {p : Addr} (hp : g ≠ p.block) (u : Value) : Blk (w.setCell p u) g t cs := (Below.heap_setCell w p u g hp).trans h
theorem Blk.set4 {w : World} {g : Nat} {t : TypeId} {a b c d : Value} (h : Blk w g t #[a, b, c, d]) (a' b' c' d' : Value) : Blk ((((w.setCell ⟨g, 0, none⟩ a').setCell ⟨g, 1, none⟩ b').setCell ⟨g, 2, none⟩ c').setCell ⟨g, 3, none⟩ d') g t #[a', b', c', d'] := by
  have h4 := (((h.set_ 0 a').set_ 1 b').set_ 2 c').set_ 3 d'
  simpa using h4
end Go.Proofs.YtccoljbnddfmpaaGreatDoor

namespace Go.Proofs.YtccoljbnddfmpaaGreatDoor
open Go.RowKit
theorem ownsRow_tags {w : World} {B B' s s' n n' : Nat} {t t' : TypeId} {v v' : Value} {xs ys : List Value} (h : w.ownsRow B t s v n xs) (h' : w.ownsRow B' t' s' v' n' ys) (hne : t ≠ t') : v.ownBlock = none ∨ v.ownBlock ≠ v'.ownBlock := by
  rcases h.2 with ⟨rfl, _⟩ | ⟨g, cap, cur, rfl, _, hh, _⟩
  · exact .inl rfl
  · right
    rcases h'.2 with ⟨rfl, _⟩ | ⟨g', cap', cur', rfl, _, hh', _⟩
    · intro e; cases e
    · intro e
      have e2 : g = g' := Option.some.inj e
      subst e2
      rw [hh] at hh'
      cases hh'
      exact hne rfl
theorem infoR : (Tryz.prog.info? 104).map (fun i => (i.zero, i.size, i.bytes)) = some (some (.slice none 0 0), 1, 24) := by kernel_rfl
def RW (rows : List (List Int)) (j : Nat) : List Int := rows.getD j []
theorem RW_get {rows : List (List Int)} {j : Nat} (h : j < rows.length) : RW rows j = rows[j] := by simp [RW, List.getD, h]
theorem RW_snoc_old {rows : List (List Int)} {r : List Int} {j : Nat} (h : j < rows.length) : RW (rows ++ [r]) j = RW rows j := by
  rw [RW_get (by simp; omega), RW_get h, List.getElem_append_left h]
theorem RW_snoc_new {rows : List (List Int)} {r : List Int} : RW (rows ++ [r]) rows.length = r := by
  rw [RW_get (by simp)]
  simp
def AllR (rows : List (List Int)) : Prop := ∀ r ∈ rows, AllI64 r
theorem AllR.at {rows : List (List Int)} (h : AllR rows) (j : Nat) (hj : j < rows.length) : AllI64 (RW rows j) := by
  rw [RW_get hj]
  exact h _ (List.getElem_mem _)
structure Rws (B : Nat) (w : World) (ao : Option Addr) (n cap : Nat) (rows : List (List Int)) : Prop where
  hlen : rows.length = n
  hcap : n ≤ cap
  hmax : cap ≤ maxLen
  cell : ∀ j, j < n → ∃ b off a m c, ao = some ⟨b, off, none⟩ ∧ b < B ∧ w.cell? ⟨b, off + j, none⟩ = some (.slice a m c) ∧ Ints B w a m c (RW rows j) ∧ (a = none → c = 0)
theorem Rws.below {B B' C : Nat} {w w' : World} {ao : Option Addr} {n cap : Nat} {rows : List (List Int)} (h : Rws B w ao n cap rows) (hb : Below C w w') (hC : B ≤ C) (hB : B ≤ B') : Rws B' w' ao n cap rows :=
  ⟨h.hlen, h.hcap, h.hmax, fun j hj => by
    obtain ⟨b, off, a, m, c, e, hlt, hc, hi, hz⟩ := h.cell j hj
    exact ⟨b, off, a, m, c, e, by omega, (hb.cell (p := ⟨b, off + j, none⟩) (by show b < C; omega)).trans hc, hi.below hb hC hB, hz⟩⟩
theorem Rws.at {B : Nat} {w : World} {ao : Option Addr} {n cap : Nat} {rows : List (List Int)} (h : Rws B w ao n cap rows) (k : Nat) (hk : k < n) :
    ∃ b off, ao = some ⟨b, off, none⟩ ∧ b < B ∧ ∀ j, j < n → ∃ a m c, w.cell? ⟨b, off + j, none⟩ = some (.slice a m c) ∧ Ints B w a m c (RW rows j) ∧ (a = none → c = 0) := by
  obtain ⟨b, off, a, m, c, e, hb, _⟩ := h.cell k hk
  refine ⟨b, off, e, hb, fun j hj => ?_⟩
  obtain ⟨b', off', a', m', c', e', _, hc, hi, hz⟩ := h.cell j hj
  rw [e] at e'
  cases e'
  exact ⟨a', m', c', hc, hi, hz⟩
def OwnRows (base : Nat) (w : World) (v : Value) (rows : List (List Int)) : Prop :=
  ∃ cells : List Value, w.ownsRow base 104 1 v rows.length cells ∧ ∀ j, j < rows.length → ∃ c, cells[j]? = some c ∧ Own base w c (RW rows j)
theorem ownRows_nil (B : Nat) (w : World) : OwnRows B w (.slice none 0 0) [] := ⟨[], World.ownsRow_nil w B 104 1, fun j hj => by simp at hj⟩
theorem ownRows_empty (w : World) : OwnRows w.heap.size (w.alloc (.cells #[] 104)) (.slice (some ⟨w.heap.size, 0, none⟩) 0 0) [] :=
  ⟨[], World.ownsRow_lit w #[] 0 (Nat.le_refl _) (by unfold maxLen; omega) rfl, fun j hj => by simp at hj⟩
theorem ownsRow_below {base C s n : Nat} {t : TypeId} {w w' : World} {v : Value} {xs : List Value} (h : w.ownsRow base t s v n xs) (hb : Below C w w') (hC : w.heap.size ≤ C) : w'.ownsRow base t s v n xs := by
  refine ⟨h.1, ?_⟩
  rcases h.2 with h3 | ⟨g, cap, cur, hv, hg, hh, r⟩
  · exact .inl h3
  · exact .inr ⟨g, cap, cur, hv, hg, by rw [hb.block g (by have := (Array.getElem?_eq_some_iff.1 hh).1; omega)]; exact hh, r⟩
theorem OwnRows.below {base C : Nat} {w w' : World} {v : Value} {rows : List (List Int)} (h : OwnRows base w v rows) (hb : Below C w w') (hC : w.heap.size ≤ C) : OwnRows base w' v rows := by
  obtain ⟨cells, h1, h2⟩ := h
  refine ⟨cells, ownsRow_below h1 hb hC, fun j hj => ?_⟩
  obtain ⟨c, hc, ho⟩ := h2 j hj
  exact ⟨c, hc, ho.below hb hC⟩
theorem OwnRows.mono {base base' : Nat} {w : World} {v : Value} {rows : List (List Int)} (h : OwnRows base w v rows) (hb : base' ≤ base) : OwnRows base' w v rows := by
  obtain ⟨cells, h1, h2⟩ := h
  refine ⟨cells, ?_, fun j hj => ?_⟩
  · refine ⟨h1.1, ?_⟩
    rcases h1.2 with h3 | ⟨g, cap, cur, hv, hg, r⟩
    · exact .inl h3
    · exact .inr ⟨g, cap, cur, hv, by omega, r⟩
  · obtain ⟨c, hc, ho⟩ := h2 j hj
    exact ⟨c, hc, ho.mono hb⟩
theorem OwnRows.keeps {base g : Nat} {w w' : World} {v : Value} {rows : List (List Int)} (h : OwnRows base w v rows) (hb : Keeps g w w') (hg : g < base) : OwnRows base w' v rows := by
  obtain ⟨cells, h1, h2⟩ := h
  refine ⟨cells, World.ownsRow.kept h1 hb ?_, fun j hj => ?_⟩
  · cases hv : v.ownBlock with
    | none => exact .inl rfl
    | some k =>
      right
      intro e
      have h3 := (World.ownsRow.lt h1 k hv).1
      have h4 : k = g := Option.some.inj e
      omega
  · obtain ⟨c, hc, ho⟩ := h2 j hj
    exact ⟨c, hc, ho.keeps hb hg⟩
theorem OwnRows.alloc {base : Nat} {w : World} {v : Value} {rows : List (List Int)} (h : OwnRows base w v rows) (o : Obj) : OwnRows base (w.alloc o) v rows :=
  h.below ((Below.refl w.heap.size w).alloc (Nat.le_refl _) o) (Nat.le_refl _)
theorem OwnRows.rows {base : Nat} {w : World} {v : Value} {rows : List (List Int)} (h : OwnRows base w v rows) (hw : AllR rows) :
    ∃ ao cap, v = .slice ao rows.length cap ∧ Rws w.heap.size w ao rows.length cap rows ∧ (ao = none → cap = 0) := by
  obtain ⟨cells, h1, h2⟩ := h
  rcases h1.2 with ⟨rfl, h3⟩ | ⟨g, cap, cur, rfl, hb, hg, hn, hm, hs, ht⟩
  · have : rows = [] := List.eq_nil_of_length_eq_zero h3
    subst this
    exact ⟨none, 0, rfl, ⟨rfl, Nat.le_refl _, by unfold maxLen; omega, fun j hj => by simp at hj⟩, fun _ => rfl⟩
  · refine ⟨some ⟨g, 0, none⟩, cap, rfl, ⟨rfl, hn, hm, fun j hj => ?_⟩, fun h => by cases h⟩
    obtain ⟨c, hc, ho⟩ := h2 j hj
    obtain ⟨a, c', rfl, hi, hz⟩ := ho.ints' (hw.at j hj)
    refine ⟨g, 0, a, _, c', rfl, (Array.getElem?_eq_some_iff.1 hg).1, ?_, hi, hz⟩
    rw [Nat.zero_add, cell_of_row w g j cur _ (0, 0) hg, ← hc, ← ht, List.getElem?_take, if_pos (by omega)]
    simp
theorem appendR_one {ops : Array Oper} {rest : List Oper} {o : Oper} {a : Act} {Q : Exit → Act → World → Prop} {w : World} (c : Value) (row : List Int)
    (hgd : o.guard = none) (s x : Operand) (ho : o.op = .call { callee := .builtin .append, args := #[s, x], argTypes := #[50, 50] })
    (B : Nat) (v : Value) (rows : List (List Int)) (hs : a.eval s = v) (hx : a.eval x = .slice (some ⟨w.heap.size, 0, none⟩) 1 1)
    (hown : OwnRows B w v rows) (hc : Own B w c row) (hcw : AllI64 row) (hB : B ≤ w.heap.size) (hlen : rows.length ≤ 1099511627776)
    (hK : ∀ v' w', OwnRows B w' v' (rows ++ [row]) → Below B w w' → wpList Tryz.prog ops Q rest (a.put o.dst v') w') :
    wpList Tryz.prog ops Q (o :: rest) a (w.alloc (.cells #[c] 104)) := by
  obtain ⟨i0, hi, hz0, hz1, hz2⟩ := info_parts infoR
  obtain ⟨cells, h1, h2⟩ := hown
  have hone : c.oneCell' = true := by
    obtain ⟨ao, cap, rfl, _⟩ := hc.ints hcw
    rfl
  have hlc : cells.length = rows.length := by have := h1.1; omega
  refine wpList_append_own _ hgd s x 50 ho B 104 i0 _ 1 24 Tryz.underlying50 hi hz0 hz1 hz2 rfl (by decide) v rows.length cells hs (World.ownsRow.alloc h1 _)
    ⟨w.heap.size, 0, none⟩ 1 1 [c] hx rfl ?c1 ?c2 ?c3 ?c4 ?c5 ?_
  case c1 =>
    intro j u hu
    rw [Addr.add_lit, Nat.zero_add, cell_of_row _ _ j #[c] 104 (0, 0) (heap_alloc_new w _)]
    simpa using hu
  case c2 =>
    intro u hu
    rw [List.mem_singleton.1 hu]
    exact hone
  case c3 => unfold maxLen; omega
  case c4 => omega
  case c5 => simp; omega
  intro v' w' hown' hgrow _
  have hstay : ∀ (cc : Value) (r : List Int), Own B w cc r → Own B w' cc r := fun cc r hh =>
    World.ownsRow.kept (World.ownsRow.alloc hh _) hgrow (ownsRow_tags hh h1 (by decide))
  refine hK v' w' ⟨cells ++ [c], ?_, fun j hj => ?_⟩ ?_
  · rw [List.length_append]
    exact hown'
  · rw [List.length_append, List.length_singleton] at hj
    by_cases hjl : j < rows.length
    · obtain ⟨cc, hcc, hco⟩ := h2 j hjl
      refine ⟨cc, by rw [List.getElem?_append_left (by omega)]; exact hcc, ?_⟩
      rw [RW_snoc_old hjl]
      exact hstay _ _ hco
    · have ej : j = rows.length := by omega
      subst ej
      refine ⟨c, by rw [List.getElem?_append_right (by omega), hlc]; simp, ?_⟩
      rw [RW_snoc_new]
      exact hstay _ _ hc
  · refine ((Below.refl B w).alloc hB _).grown hgrow (by simp; omega) ?_
    intro k hk
    exact (World.ownsRow.lt h1 k hk).1
theorem Blk.asideT {base s n g : Nat} {t t' : TypeId} {w w' : World} {v : Value} {xs : List Value} {cs : Array Value} (h : Blk w g t cs) (hown : w.ownsRow base t' s v n xs) (hne : t ≠ t') (hg : w.grownBy w' v.ownBlock) : Blk w' g t cs := by
  refine (hg.block g h.lt (fun e => ?_)).trans h
  rcases hown.2 with ⟨rfl, _⟩ | ⟨g', cap, cur, rfl, _, hh, _⟩
  · cases e
  · have e2 : g' = g := Option.some.inj e.symm
    subst e2
    have h2 : w.heap[g']? = some (.cells cs t (0, 0)) := h
    rw [h2] at hh
    cases hh
    exact hne rfl
structure Aside (w w' : World) : Prop where
  blk : ∀ (g : Nat) (t : TypeId) (cs : Array Value), t ≠ 104 → Blk w g t cs → Blk w' g t cs
  row : ∀ (base s n : Nat) (t : TypeId) (v : Value) (xs : List Value), t ≠ 104 → w.ownsRow base t s v n xs → w'.ownsRow base t s v n xs
theorem stepR_one {ops : Array Oper} {o : Oper} {a : Act} {K : Act → World → Prop} {Q : Exit → Act → World → Prop} {E : Prop} {w : World} (c : Value) (row : List Int)
    (hgd : o.guard = none) (s x : Operand) (ho : o.op = .call { callee := .builtin .append, args := #[s, x], argTypes := #[50, 50] })
    (B : Nat) (v : Value) (rows : List (List Int)) (hs : a.eval s = v) (hx : a.eval x = .slice (some ⟨w.heap.size, 0, none⟩) 1 1)
    (hown : OwnRows B w v rows) (hc : Own B w c row) (hcw : AllI64 row) (hB : B ≤ w.heap.size) (hlen : rows.length ≤ 1099511627776)
    (hK : ∀ v' w', OwnRows B w' v' (rows ++ [row]) → Below B w w' → Aside w w' → K (a.put o.dst v') w') :
    if Region.wanted o (yielded ops a.tmps) = true then Oper.wp Tryz.prog o a (w.alloc (.cells #[c] 104)) K Q else E := by
  have hw : Region.wanted o (yielded ops a.tmps) = true := by simp [Region.wanted, hgd]
  rw [if_pos hw]
  obtain ⟨i0, hi, hz0, hz1, hz2⟩ := info_parts infoR
  obtain ⟨cells, h1, h2⟩ := hown
  have hone : c.oneCell' = true := by
    obtain ⟨ao, cap, rfl, _⟩ := hc.ints hcw
    rfl
  have hlc : cells.length = rows.length := by have := h1.1; omega
  refine wp_append_own _ s x 50 ho B 104 i0 _ 1 24 Tryz.underlying50 hi hz0 hz1 hz2 rfl (by decide) v rows.length cells hs (World.ownsRow.alloc h1 _)
    ⟨w.heap.size, 0, none⟩ 1 1 [c] hx rfl ?c1 ?c2 ?c3 ?c4 ?c5 ?_
  case c1 =>
    intro j u hu
    rw [Addr.add_lit, Nat.zero_add, cell_of_row _ _ j #[c] 104 (0, 0) (heap_alloc_new w _)]
    simpa using hu
  case c2 =>
    intro u hu
    rw [List.mem_singleton.1 hu]
    exact hone
  case c3 => unfold maxLen; omega
  case c4 => omega
  case c5 => simp; omega
  intro v' w' hown' hgrow _
  have hstay : ∀ (cc : Value) (r : List Int), Own B w cc r → Own B w' cc r := fun cc r hh =>
    World.ownsRow.kept (World.ownsRow.alloc hh _) hgrow (ownsRow_tags hh h1 (by decide))
  refine hK v' w' ⟨cells ++ [c], ?_, fun j hj => ?_⟩ ?_ ⟨fun g t cs hne hb => (hb.alloc _).asideT (World.ownsRow.alloc h1 _) hne hgrow, fun base s n t v xs hne hh => World.ownsRow.kept (World.ownsRow.alloc hh _) hgrow (ownsRow_tags hh h1 hne)⟩
  · rw [List.length_append]
    exact hown'
  · rw [List.length_append, List.length_singleton] at hj
    by_cases hjl : j < rows.length
    · obtain ⟨cc, hcc, hco⟩ := h2 j hjl
      refine ⟨cc, by rw [List.getElem?_append_left (by omega)]; exact hcc, ?_⟩
      rw [RW_snoc_old hjl]
      exact hstay _ _ hco
    · have ej : j = rows.length := by omega
      subst ej
      refine ⟨c, by rw [List.getElem?_append_right (by omega), hlc]; simp, ?_⟩
      rw [RW_snoc_new]
      exact hstay _ _ hc
  · refine ((Below.refl B w).alloc hB _).grown hgrow (by simp; omega) ?_
    intro k hk
    exact (World.ownsRow.lt h1 k hk).1
end Go.Proofs.YtccoljbnddfmpaaGreatDoor

namespace Go.Proofs.YtccoljbnddfmpaaGreatDoor
def inB (x lo hi : Int) : Bool := decide (lo ≤ x ∧ x ≤ hi)
def allBytes (xs : List Int) : Bool := xs.all (fun x => decide (0 ≤ x ∧ x ≤ 255))
def bytesOk (xs : List Int) : Bool := decide (xs.length ≤ 4000) && allBytes xs
theorem allBytes_snoc (xs : List Int) (k : Nat) (hk : k < xs.length) : allBytes (xs.take (k + 1)) = (allBytes (xs.take k) && decide (0 ≤ xs.getD k 0 ∧ xs.getD k 0 ≤ 255)) := by
  unfold allBytes
  rw [List.take_succ_eq_append_getElem hk, List.all_append]
  simp [List.getD, hk]
theorem allBytes_false (xs : List Int) (k : Nat) (hk : k < xs.length) (h : ¬ (0 ≤ xs.getD k 0 ∧ xs.getD k 0 ≤ 255)) : allBytes xs = false := by
  rw [Bool.eq_false_iff]
  intro ht
  apply h
  have := List.all_eq_true.1 ht (xs[k]) (List.getElem_mem _)
  simpa [List.getD, hk] using this
theorem bytesOk_no (xs : List Int) (k : Nat) (hk : k < xs.length) (h : ¬ (0 ≤ xs.getD k 0 ∧ xs.getD k 0 ≤ 255)) : bytesOk xs = false := by
  simp [bytesOk, allBytes_false xs k hk h]
theorem allBytes_mem {xs : List Int} (h : allBytes xs = true) : ∀ x ∈ xs, 0 ≤ x ∧ x ≤ 255 := by
  intro x hx
  simpa using List.all_eq_true.1 h x hx
theorem bytesOk_mem {xs : List Int} (h : bytesOk xs = true) : xs.length ≤ 4000 ∧ ∀ x ∈ xs, 0 ≤ x ∧ x ≤ 255 := by
  simp only [bytesOk, Bool.and_eq_true, decide_eq_true_eq] at h
  exact ⟨h.1, allBytes_mem h.2⟩
def scan (xs : List Int) : Nat → Nat → Int → Int → Option (Int × Nat)
  | 0, _, _, _ => none
  | f + 1, i, n, u =>
    if i < xs.length then
      if xs.getD i 0 < 128 then
        if 1000000000 < n + xs.getD i 0 % 128 * u ∨ (xs.getD i 0 = 0 ∧ 1 < u) then none else some (n + xs.getD i 0 % 128 * u, i + 1)
      else scan xs f (i + 1) (n + xs.getD i 0 % 128 * u) (u * 128)
    else none
def rvN (o : Option (Int × Nat)) : Int := match o with | some r => r.1 | none => 0
def rvE (o : Option (Int × Nat)) : Int := match o with | some r => r.2 | none => 0
theorem scan_stop {xs : List Int} {f i : Nat} {n u : Int} (h : xs.length ≤ i) : scan xs f i n u = none := by
  cases f with
  | zero => rfl
  | succ f => rw [scan, if_neg (by omega)]
theorem scan_more {xs : List Int} {f i : Nat} {n u : Int} (h : i < xs.length) (hb : ¬ xs.getD i 0 < 128) : scan xs (f + 1) i n u = scan xs f (i + 1) (n + xs.getD i 0 % 128 * u) (u * 128) := by
  rw [scan, if_pos h, if_neg hb]
theorem scan_bad {xs : List Int} {f i : Nat} {n u : Int} (h : i < xs.length) (hb : xs.getD i 0 < 128) (hc : 1000000000 < n + xs.getD i 0 % 128 * u ∨ (xs.getD i 0 = 0 ∧ 1 < u)) : scan xs (f + 1) i n u = none := by
  rw [scan, if_pos h, if_pos hb, if_pos hc]
theorem scan_good {xs : List Int} {f i : Nat} {n u : Int} (h : i < xs.length) (hb : xs.getD i 0 < 128) (hc : ¬ (1000000000 < n + xs.getD i 0 % 128 * u ∨ (xs.getD i 0 = 0 ∧ 1 < u))) : scan xs (f + 1) i n u = some (n + xs.getD i 0 % 128 * u, i + 1) := by
  rw [scan, if_pos h, if_pos hb, if_neg hc]
def Unit' (f : Nat) (u : Int) : Prop := (f = 5 ∧ u = 1) ∨ (f = 4 ∧ u = 128) ∨ (f = 3 ∧ u = 16384) ∨ (f = 2 ∧ u = 2097152) ∨ (f = 1 ∧ u = 268435456) ∨ (f = 0 ∧ u = 34359738368)
def varN (n : Nat) : List Int := if h : n < 128 then [(n : Int)] else ((n : Int) % 128 + 128) :: varN (n / 128)
  termination_by n
  decreasing_by omega
theorem varN_small {n : Nat} (h : n < 128) : varN n = [(n : Int)] := by rw [varN, dif_pos h]
theorem varN_big {n : Nat} (h : ¬ n < 128) : varN n = ((n : Int) % 128 + 128) :: varN (n / 128) := by rw [varN, dif_neg h]
theorem varN_bytes (n : Nat) : ∀ x ∈ varN n, 0 ≤ x ∧ x ≤ 255 := by
  induction n using Nat.strongRecOn with
  | _ n ih =>
    by_cases h : n < 128
    · rw [varN_small h]
      intro x hx
      simp only [List.mem_singleton] at hx
      omega
    · rw [varN_big h]
      intro x hx
      rcases List.mem_cons.1 hx with rfl | hx
      · omega
      · exact ih (n / 128) (by omega) x hx
end Go.Proofs.YtccoljbnddfmpaaGreatDoor
