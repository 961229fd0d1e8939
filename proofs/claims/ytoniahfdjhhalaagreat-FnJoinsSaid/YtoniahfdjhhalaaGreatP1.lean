/- Texts of this claim, put together. -/
import Derived.Test.YtoniahfdjhhalaaGreatRows
import Derived.WalkKit
import Derived.WalkSpells
import Derived.WalkLawsBesides
import Derived.Lib.Hide
import Derived.IntWalk
import Derived.RegionTactic
import Derived.ChangeAlike
import Derived.Deep.QuietTactic
import Derived.BigQuiet
import Derived.Deep.LoopGhost
import Derived.Handy
import Derived.Laws.AppendOwnNone
import Derived.OrdersHeld

namespace Go.Proofs.YtoniahfdjhhalaaGreat
theorem qGa {α : Type} {xs : List α} {i : Nat} (h : i < xs.toArray.size) : xs.toArray[i] = xs[i]'(by simpa using h) := List.getElem_toArray h
theorem qGb {α : Type} {a : α} {l : List α} {i : Nat} (h : i + 1 < (a :: l).length) : (a :: l)[i + 1] = l[i]'(by simpa using h) := rfl
theorem qGc {α : Type} {a : α} {l : List α} : (a :: l)[0] = a := rfl
theorem qSa {α : Type} {xs : List α} {i : Nat} {a : α} : xs.toArray.setIfInBounds i a = (xs.set i a).toArray := by simp
theorem qSb {α : Type} {xs : List α} {a b : α} : (a :: xs).set 0 b = b :: xs := rfl
theorem qSc {α : Type} {xs : List α} {a b : α} {n : Nat} : (a :: xs).set (n + 1) b = a :: xs.set n b := rfl
theorem tk {P : Program} {ops : Array Oper} {Q : Exit → Act → World → Prop} {md : Region.Mode} {S : World → Prop} {i : Nat} {oi : Oper} {v : Value} {fuel : Nat} {listed : Array Bool} {a : Act} {w : World} (hi : ops[i]? = some oi) (h0 : (Region.noSelect ops && (Region.free md ops listed i && (Region.ready md ops listed).contains i)) = true) (hQ : ∀ c a w, Q (.panic c) (a.put oi.dst v) w → Q (.panic c) a w) (hy : YieldsIf P ops S oi v a) (hS : S w) (h : wpAnyH P md ops Q S fuel (listed.setIfInBounds i true) (a.put oi.dst v) w) : wpAnyH P md ops Q S (fuel + 1) listed a w := by
  simp only [Bool.and_eq_true] at h0
  exact wpAnyH_take hi h0.1 h0.2.1 h0.2.2 hQ hy hS h
end Go.Proofs.YtoniahfdjhhalaaGreat

namespace Go.Proofs.YtoniahfdjhhalaaGreat
open Go.RowKit
def I64 (x : Int) : Prop := -9223372036854775808 ≤ x ∧ x ≤ 9223372036854775807
def AllI64 (xs : List Int) : Prop := ∀ x ∈ xs, I64 x
structure Ints (B : Nat) (w : World) (ao : Option Addr) (n cap : Nat) (xs : List Int) : Prop where
  hlen : xs.length = n
  hcap : n ≤ cap
  hmax : cap ≤ maxLen
  cell : ∀ j, j < n → ∃ b off, ao = some ⟨b, off, none⟩ ∧ b < B ∧ w.cell? ⟨b, off + j, none⟩ = some (.int .i64 (xs.getD j 0))
  wf : AllI64 xs
theorem Ints.below {B B' C : Nat} {w w' : World} {ao : Option Addr} {n cap : Nat} {xs : List Int} (h : Ints B w ao n cap xs) (hb : Below C w w') (hC : B ≤ C) (hB : B ≤ B') : Ints B' w' ao n cap xs :=
  ⟨h.hlen, h.hcap, h.hmax, fun j hj => by
    obtain ⟨b, off, e, hlt, hc⟩ := h.cell j hj
    exact ⟨b, off, e, by omega, (hb.cell (p := ⟨b, off + j, none⟩) (by show b < C; omega)).trans hc⟩, h.wf⟩
theorem Ints.at {B : Nat} {w : World} {ao : Option Addr} {n cap : Nat} {xs : List Int} (h : Ints B w ao n cap xs) (k : Nat) (hk : k < n) :
    ∃ b off, ao = some ⟨b, off, none⟩ ∧ b < B ∧ ∀ j, j < n → w.cell? ⟨b, off + j, none⟩ = some (.int .i64 (xs.getD j 0)) := by
  obtain ⟨b, off, e, hb, _⟩ := h.cell k hk
  refine ⟨b, off, e, hb, fun j hj => ?_⟩
  obtain ⟨b', off', e', _, hc⟩ := h.cell j hj
  rw [e] at e'
  cases e'
  exact hc
theorem Ints.getD {B : Nat} {w : World} {ao : Option Addr} {n cap : Nat} {xs : List Int} (h : Ints B w ao n cap xs) (k : Nat) (hk : k < n) : I64 (xs.getD k 0) := by
  have hl := h.hlen
  have : xs.getD k 0 = xs[k]'(by omega) := by simp [List.getD, show k < xs.length by omega]
  rw [this]
  exact h.wf _ (List.getElem_mem _)
def Own (base : Nat) (w : World) (v : Value) (xs : List Int) : Prop :=
  w.ownsRow base 2 1 v xs.length (xs.map (Value.int .i64))
theorem Own.ints {base : Nat} {w : World} {v : Value} {xs : List Int} (h : Own base w v xs) (hx : AllI64 xs) : ∃ ao cap, v = .slice ao xs.length cap ∧ Ints w.heap.size w ao xs.length cap xs := by
  obtain ⟨h1, h2⟩ := h
  rcases h2 with ⟨rfl, h3⟩ | ⟨g, cap, cur, rfl, hb, hg, hn, hm, hs, ht⟩
  · have : xs = [] := List.eq_nil_of_length_eq_zero h3
    subst this
    exact ⟨none, 0, rfl, rfl, Nat.le_refl _, by unfold maxLen; omega, fun j hj => by simp at hj, hx⟩
  · refine ⟨some ⟨g, 0, none⟩, cap, rfl, rfl, hn, hm, fun j hj => ⟨g, 0, rfl, (Array.getElem?_eq_some_iff.1 hg).1, ?_⟩, hx⟩
    rw [Nat.zero_add, cell_of_row w g j cur _ (0, 0) hg]
    have e : (cur.toList.take (xs.length * 1))[j]? = some (.int .i64 (xs.getD j 0)) := by
      rw [ht]
      simp [List.getD, hj]
    rw [List.getElem?_take, if_pos (by omega)] at e
    simpa using e
theorem Own.below {base C : Nat} {w w' : World} {v : Value} {xs : List Int} (h : Own base w v xs) (hb : Below C w w') (hC : w.heap.size ≤ C) : Own base w' v xs := by
  refine ⟨h.1, ?_⟩
  rcases h.2 with h3 | ⟨g, cap, cur, hv, hg, hh, r⟩
  · exact .inl h3
  · exact .inr ⟨g, cap, cur, hv, hg, by rw [hb.block g (by have := (Array.getElem?_eq_some_iff.1 hh).1; omega)]; exact hh, r⟩
theorem Own.mono {base base' : Nat} {w : World} {v : Value} {xs : List Int} (h : Own base w v xs) (hb : base' ≤ base) : Own base' w v xs := by
  refine ⟨h.1, ?_⟩
  rcases h.2 with h3 | ⟨g, cap, cur, hv, hg, r⟩
  · exact .inl h3
  · exact .inr ⟨g, cap, cur, hv, by omega, r⟩
def Drew (w w' : World) : Prop := ∃ nq, w' = w.drewN nq
theorem Drew.refl (w : World) : Drew w w := ⟨0, rfl⟩
theorem Drew.one (w : World) (n : Nat) : Drew w (w.drewN n) := ⟨n, rfl⟩
theorem Drew.two (w : World) (n m : Nat) : Drew w ((w.drewN n).drewN m) := ⟨_, World.drewN_drewN _ _ _⟩
theorem Drew.below {w w' : World} (h : Drew w w') (B : Nat) : Below B w w' := by
  obtain ⟨n, rfl⟩ := h
  exact below_drewN (Below.refl _ _) n
theorem info64 : (Tryz.prog.info? 2).map (fun i => (i.zero, i.size, i.bytes)) = some (some (.int .i64 0), 1, 8) := by kernel_rfl
theorem map_set (xs : List Int) (k : Nat) (x : Int) : (xs.map (Value.int .i64)).set k (.int .i64 x) = (xs.set k x).map (Value.int .i64) := by
  simp
theorem ret_bool {a b : Bool} (h : a = b) : Ending.returned (.bool a) = .returned (.bool b) := by rw [h]
theorem ret_int {k : IntKind} {a b : Int} (h : a = b) : Ending.returned (.int k a) = .returned (.int k b) := by rw [h]
theorem bytes_i64 {xs : List Int} (h : ∀ x ∈ xs, 0 ≤ x ∧ x ≤ 255) : AllI64 xs := fun x hx => by have := h x hx; unfold I64; omega
def NewInts (xs : List Int) (w : World) (e : Ending) (w' : World) : Prop := ∃ v, e = .returned v ∧ Own w.heap.size w' v xs ∧ Below w.heap.size w w'
def Yes (w : World) (e : Ending) (w' : World) : Prop := e = .returned (.bool true) ∧ Below w.heap.size w w'
theorem own_empty (w : World) : Own w.heap.size (w.alloc (.cells #[] 2)) (.slice (some ⟨w.heap.size, 0, none⟩) 0 0) [] := World.ownsRow_lit w #[] 0 (Nat.le_refl _) (by unfold maxLen; omega) rfl
theorem own_lit (w : World) (xs : List Int) (h : xs.length ≤ 1099511627776) : Own w.heap.size (w.alloc (.cells (xs.map (Value.int .i64)).toArray 2)) (.slice (some ⟨w.heap.size, 0, none⟩) xs.length xs.length) xs := by
  unfold Own
  exact World.ownsRow_lit w _ xs.length (Nat.le_refl _) (by unfold maxLen; omega) (by simp)
theorem append_one {ops : Array Oper} {rest : List Oper} {o : Oper} {a : Act} {Q : Exit → Act → World → Prop} {w : World} {y : Int}
    (hgd : o.guard = none) (s x : Operand) (ho : o.op = .call { callee := .builtin .append, args := #[s, x], argTypes := #[78, 78] })
    (B : Nat) (v : Value) (xs : List Int) (hs : a.eval s = v) (hx : a.eval x = .slice (some ⟨w.heap.size, 0, none⟩) 1 1)
    (hown : Own B w v xs) (hB : B ≤ w.heap.size) (hlen : xs.length ≤ 1099511627776)
    (hK : ∀ v' w', Own B w' v' (xs ++ [y]) → Below B w w' → wpList Tryz.prog ops Q rest (a.put o.dst v') w') :
    wpList Tryz.prog ops Q (o :: rest) a (w.alloc (.cells #[.int .i64 y] 2)) := by
  obtain ⟨i0, hi, hz0, hz1, hz2⟩ := info_parts info64
  refine wpList_append_own _ hgd s x 78 ho B 2 i0 (.int .i64 0) 1 8 Tryz.underlying78 hi hz0 hz1 hz2 rfl (by decide) v xs.length (xs.map (Value.int .i64)) hs (World.ownsRow.alloc hown _)
    ⟨w.heap.size, 0, none⟩ 1 1 [.int .i64 y] hx rfl ?c1 ?c2 ?c3 ?c4 ?c5 ?_
  case c1 =>
    intro j u hu
    match j, hu with
    | 0, hu =>
      simp at hu
      subst hu
      rw [Addr.add_lit]
      go_simp
  case c2 =>
    intro u hu
    simp at hu
    subst hu
    rfl
  case c3 => unfold maxLen; omega
  case c4 => omega
  case c5 => simp; omega
  intro v' w' hown' hgrow _
  refine hK v' w' ?_ ?_
  · unfold Own
    rw [List.length_append, List.map_append]
    exact hown'
  · refine ((Below.refl B w).alloc hB _).grown hgrow (by simp; omega) ?_
    intro k hk
    rcases hown.2 with ⟨rfl, _⟩ | ⟨g, cap, cur, rfl, hg, _⟩
    · cases hk
    · simp [Value.ownBlock] at hk
      omega
theorem append_all {ops : Array Oper} {rest : List Oper} {o : Oper} {a : Act} {Q : Exit → Act → World → Prop} {w : World}
    (hgd : o.guard = none) (s x : Operand) (ho : o.op = .call { callee := .builtin .append, args := #[s, x], argTypes := #[78, 78] })
    (B C : Nat) (v : Value) (xs ys : List Int) (ao : Option Addr) (n cap : Nat) (hs : a.eval s = v) (hx : a.eval x = .slice ao n cap) (hi : Ints C w ao n cap ys) (hz : ao = none → cap = 0)
    (hown : Own B w v xs) (hB : B ≤ w.heap.size) (hlen : xs.length + n ≤ 1099511627776)
    (hK : ∀ v' w', Own B w' v' (xs ++ ys) → Below B w w' → wpList Tryz.prog ops Q rest (a.put o.dst v') w') :
    wpList Tryz.prog ops Q (o :: rest) a w := by
  obtain ⟨i0, hi0, hz0, hz1, hz2⟩ := info_parts info64
  have hyl := hi.hlen
  cases ao with
  | none =>
    have hc0 := hz rfl
    have hn0 : n = 0 := by have := hi.hcap; omega
    subst hc0 hn0
    have hys : ys = [] := List.eq_nil_of_length_eq_zero hyl
    subst hys
    refine wpList_append_own_none hgd s x 78 ho B 2 i0 1 Tryz.underlying78 hi0 v xs.length (xs.map (Value.int .i64)) hs hown hx ?_
    exact hK v w (by rw [List.append_nil]; exact hown) (Below.refl _ _)
  | some ad =>
    refine wpList_append_own _ hgd s x 78 ho B 2 i0 (.int .i64 0) 1 8 Tryz.underlying78 hi0 hz0 hz1 hz2 rfl (by decide) v xs.length (xs.map (Value.int .i64)) hs hown
      ad n cap (ys.map (Value.int .i64)) hx (by simp [hyl]) ?c1 ?c2 ?c3 ?c4 hB ?_
    case c1 =>
      intro j u hu
      have hj : j < n := by
        have := (List.getElem?_eq_some_iff.1 hu).1
        simpa [hyl] using this
      obtain ⟨b, off, e, _, hc⟩ := hi.cell j hj
      cases e
      rw [Addr.add_lit, hc]
      have e2 : (ys.map (Value.int .i64))[j]? = some (.int .i64 (ys.getD j 0)) := by simp [List.getD, show j < ys.length by omega]
      rw [e2] at hu
      exact hu
    case c2 => exact ints_oneCell _ _
    case c3 => unfold maxLen; omega
    case c4 => omega
    intro v' w' hown' hgrow _
    refine hK v' w' ?_ ?_
    · unfold Own
      rw [List.length_append, List.map_append, hyl]
      exact hown'
    · refine (Below.refl B w).grown hgrow hB ?_
      intro k hk
      exact (World.ownsRow.lt hown k hk).1
theorem Own.ints' {base : Nat} {w : World} {v : Value} {xs : List Int} (h : Own base w v xs) (hx : AllI64 xs) : ∃ ao cap, v = .slice ao xs.length cap ∧ Ints w.heap.size w ao xs.length cap xs ∧ (ao = none → cap = 0) := by
  obtain ⟨ao, cap, rfl, hi⟩ := h.ints hx
  refine ⟨ao, cap, rfl, hi, ?_⟩
  rcases h.2 with ⟨e, _⟩ | ⟨g, cap', cur, e, _⟩
  · simp only [Value.slice.injEq] at e
    exact fun _ => e.2.2
  · simp only [Value.slice.injEq] at e
    intro h
    rw [e.1] at h
    cases h
theorem i64_and255 (n : Int) : bits .and .i64 n 255 = n % 256 := by
  have h127 : (BitVec.ofInt 64 255).toNat = 2 ^ 8 - 1 := by decide
  have key : (BitVec.ofInt 64 n &&& BitVec.ofInt 64 255).toNat = (n % ((2 ^ 64 : Nat) : Int)).toNat % 2 ^ 8 := by
    rw [BitVec.toNat_and, BitVec.toNat_ofInt, h127, Nat.and_two_pow_sub_one_eq_mod]
  show IntKind.i64.wrap ((BitVec.ofInt 64 n &&& BitVec.ofInt 64 255).toNat : Nat) = n % 256
  rw [key, IntKind.wrap_i64]
  omega
theorem i64_and30 (n : Int) : bits .and .i64 n 1073741823 = n % 1073741824 := by
  have h127 : (BitVec.ofInt 64 1073741823).toNat = 2 ^ 30 - 1 := by decide
  have key : (BitVec.ofInt 64 n &&& BitVec.ofInt 64 1073741823).toNat = (n % ((2 ^ 64 : Nat) : Int)).toNat % 2 ^ 30 := by
    rw [BitVec.toNat_and, BitVec.toNat_ofInt, h127, Nat.and_two_pow_sub_one_eq_mod]
  show IntKind.i64.wrap ((BitVec.ofInt 64 n &&& BitVec.ofInt 64 1073741823).toNat : Nat) = n % 1073741824
  rw [key, IntKind.wrap_i64]
  omega
structure Only (g : Nat) (w w' : World) : Prop where
  grown : w.grownBy w' (some g)
  size : w'.heap.size = w.heap.size
theorem Only.refl (g : Nat) (w : World) : Only g w w := ⟨World.grownBy.refl _ _, rfl⟩
theorem Only.trans {g : Nat} {a b c : World} (h : Only g a b) (k : Only g b c) : Only g a c :=
  ⟨⟨k.grown.os.trans h.grown.os, k.grown.tape.trans h.grown.tape, k.grown.output.trans h.grown.output, Nat.le_trans h.grown.size k.grown.size, fun i hi hne => (k.grown.block i (by have := h.size; omega) hne).trans (h.grown.block i hi hne)⟩, k.size.trans h.size⟩
theorem Only.drewN {g : Nat} {a b : World} (h : Only g a b) (n : Nat) : Only g a (b.drewN n) :=
  h.trans ⟨⟨rfl, rfl, rfl, Nat.le_refl _, fun _ _ _ => rfl⟩, rfl⟩
theorem Only.setCell {g : Nat} {a b : World} (h : Only g a b) (o : Nat) (u : Value) : Only g a (b.setCell ⟨g, o, none⟩ u) :=
  h.trans ⟨⟨rfl, rfl, rfl, by simp [World.setCell], fun k _ hne => Below.heap_setCell _ _ _ _ (fun e => hne (by rw [e]))⟩, by simp [World.setCell]⟩
theorem Only.below {g : Nat} {w w' : World} (h : Only g w w') {B : Nat} (hB : B ≤ g) (hs : B ≤ w.heap.size) : Below B w w' :=
  ⟨h.grown.os, h.grown.tape, h.grown.output, h.grown.size, fun k hk => h.grown.block k (by omega) (fun e => by cases e; omega)⟩
theorem Only.cell {g : Nat} {w w' : World} (h : Only g w w') {a : Addr} {v : Value} (hc : w.cell? a = some v) (hne : a.block ≠ g) : w'.cell? a = some v :=
  h.grown.cell hc (fun e => hne (Option.some.inj e))
theorem Ints.only {B g : Nat} {w w' : World} {ao : Option Addr} {n cap : Nat} {xs : List Int} (h : Ints B w ao n cap xs) (hb : Only g w w') (hg : B ≤ g) : Ints B w' ao n cap xs :=
  ⟨h.hlen, h.hcap, h.hmax, fun j hj => by
    obtain ⟨b, off, e, hlt, hc⟩ := h.cell j hj
    exact ⟨b, off, e, hlt, hb.cell hc (by show b ≠ g; omega)⟩, h.wf⟩
def Keeps (g : Nat) (w w' : World) : Prop := w.grownBy w' (some g)
theorem Only.keeps {g : Nat} {w w' : World} (h : Only g w w') : Keeps g w w' := h.grown
theorem Keeps.refl (g : Nat) (w : World) : Keeps g w w := World.grownBy.refl _ _
theorem Keeps.trans {g : Nat} {a b c : World} (h : Keeps g a b) (k : Keeps g b c) : Keeps g a c :=
  ⟨k.os.trans h.os, k.tape.trans h.tape, k.output.trans h.output, Nat.le_trans h.size k.size, fun i hi hne => (k.block i (by have := h.size; omega) hne).trans (h.block i hi hne)⟩
theorem Keeps.alloc (g : Nat) (w : World) (o : Obj) : Keeps g w (w.alloc o) := World.grownBy_alloc w o _
theorem Keeps.drewN {g : Nat} {a b : World} (h : Keeps g a b) (n : Nat) : Keeps g a (b.drewN n) := ⟨h.os, h.tape, h.output, h.size, h.block⟩
theorem Keeps.below {g : Nat} {w w' : World} (h : Keeps g w w') {B : Nat} (hB : B ≤ g) (hs : B ≤ w.heap.size) : Below B w w' :=
  ⟨h.os, h.tape, h.output, h.size, fun k hk => h.block k (by omega) (fun e => by cases e; omega)⟩
theorem Keeps.of_below {g : Nat} {w w' : World} (h : Below w.heap.size w w') : Keeps g w w' :=
  ⟨h.os, h.tape, h.output, h.size, fun k hk _ => h.block k hk⟩
theorem Keeps.then_below {g : Nat} {a b c : World} (h : Keeps g a b) (k : Below a.heap.size b c) : Keeps g a c :=
  ⟨k.os.trans h.os, k.tape.trans h.tape, k.output.trans h.output, Nat.le_trans h.size k.size, fun i hi hne => (k.block i hi).trans (h.block i hi hne)⟩
theorem Own.keeps {base g : Nat} {w w' : World} {v : Value} {xs : List Int} (h : Own base w v xs) (hb : Keeps g w w') (hg : g < base) : Own base w' v xs := by
  refine World.ownsRow.kept h hb ?_
  cases hv : v.ownBlock with
  | none => exact .inl rfl
  | some k =>
    right
    intro e
    have := (World.ownsRow.lt h k hv).1
    have e2 : k = g := Option.some.inj e
    omega
structure Bytes (B : Nat) (w : World) (ao : Option Addr) (n cap : Nat) (bs : List Int) : Prop where
  hlen : bs.length = n
  hcap : n ≤ cap
  hmax : cap ≤ maxLen
  cell : ∀ j, j < n → ∃ b off, ao = some ⟨b, off, none⟩ ∧ b < B ∧ w.cell? ⟨b, off + j, none⟩ = some (.int .u8 (bs.getD j 0))
  rng : ∀ x ∈ bs, 0 ≤ x ∧ x ≤ 255
theorem Bytes.grown {B g : Nat} {w w' : World} {ao : Option Addr} {n cap : Nat} {bs : List Int} (h : Bytes B w ao n cap bs) (hb : w.grownBy w' (some g)) (hg : B ≤ g) : Bytes B w' ao n cap bs :=
  ⟨h.hlen, h.hcap, h.hmax, fun j hj => by
    obtain ⟨b, off, e, hlt, hc⟩ := h.cell j hj
    exact ⟨b, off, e, hlt, hb.cell hc (fun e => by have h2 : b = g := Option.some.inj e; omega)⟩, h.rng⟩
theorem Bytes.below {B B' C : Nat} {w w' : World} {ao : Option Addr} {n cap : Nat} {bs : List Int} (h : Bytes B w ao n cap bs) (hb : Below C w w') (hC : B ≤ C) (hB : B ≤ B') : Bytes B' w' ao n cap bs :=
  ⟨h.hlen, h.hcap, h.hmax, fun j hj => by
    obtain ⟨b, off, e, hlt, hc⟩ := h.cell j hj
    exact ⟨b, off, e, by omega, (hb.cell (p := ⟨b, off + j, none⟩) (by show b < C; omega)).trans hc⟩, h.rng⟩
theorem Bytes.at {B : Nat} {w : World} {ao : Option Addr} {n cap : Nat} {bs : List Int} (h : Bytes B w ao n cap bs) (k : Nat) (hk : k < n) :
    ∃ b off, ao = some ⟨b, off, none⟩ ∧ b < B ∧ w.cell? ⟨b, off + k, none⟩ = some (.int .u8 (bs.getD k 0)) ∧ 0 ≤ bs.getD k 0 ∧ bs.getD k 0 ≤ 255 := by
  obtain ⟨b, off, e, hb, hc⟩ := h.cell k hk
  have hl := h.hlen
  have e2 : bs.getD k 0 = bs[k]'(by omega) := by simp [List.getD, show k < bs.length by omega]
  have := h.rng _ (List.getElem_mem (l := bs) (n := k) (by omega))
  exact ⟨b, off, e, hb, hc, by rw [e2]; exact this.1, by rw [e2]; exact this.2⟩
structure Dice (B g : Nat) (w : World) : Prop where
  hB : B ≤ g
  hg : g < w.heap.size
  dice : ∃ ao n cap bs, Bytes B w ao n cap bs ∧ w.cell? ⟨g, 0, none⟩ = some (.slice ao n cap) ∧ ∃ i : Nat, i ≤ n ∧ w.cell? ⟨g, 1, none⟩ = some (.int .i64 i) ∧ ∃ h : Int, I64 h ∧ w.cell? ⟨g, 2, none⟩ = some (.int .i64 h)
  free : ∀ o, w.frozen? ⟨g, o, none⟩ = false
theorem wrap64_i64 (n : Int) : I64 (wrap64 n) := by unfold I64 wrap64; omega
theorem Dice.moved {B g : Nat} {w : World} (hB : B ≤ g) (hg : g < w.heap.size) {ao : Option Addr} {n cap : Nat} {bs : List Int} (hb : Bytes B w ao n cap bs) (h0 : w.cell? ⟨g, 0, none⟩ = some (.slice ao n cap))
    {v2 : Value} (h2 : w.cell? ⟨g, 2, none⟩ = some v2) {v1 : Value} (h1 : w.cell? ⟨g, 1, none⟩ = some v1) (hf : ∀ o, w.frozen? ⟨g, o, none⟩ = false) (i : Nat) (hi : i ≤ n) (q : Int) (hq : I64 q) (k : Nat) (p : Int) (hp : p = i) :
    Only g w (((w.setCell ⟨g, 2, none⟩ (.int .i64 q)).drewN k).setCell ⟨g, 1, none⟩ (.int .i64 p)) ∧ Dice B g (((w.setCell ⟨g, 2, none⟩ (.int .i64 q)).drewN k).setCell ⟨g, 1, none⟩ (.int .i64 p)) := by
  subst hp
  have ho : Only g w (((w.setCell ⟨g, 2, none⟩ (.int .i64 q)).drewN k).setCell ⟨g, 1, none⟩ (.int .i64 i)) := (((Only.refl g w).setCell 2 _).drewN _).setCell 1 _
  exact ⟨ho, hB, by rw [ho.size]; exact hg, ⟨ao, n, cap, bs, hb.grown ho.grown hB, by go_simp, i, hi, by go_simp, q, hq, by go_simp⟩, fun o => by have := hf o; go_simp⟩
theorem Dice.rolled {B g : Nat} {w : World} (hB : B ≤ g) (hg : g < w.heap.size) {ao : Option Addr} {n cap : Nat} {bs : List Int} (hb : Bytes B w ao n cap bs) (h0 : w.cell? ⟨g, 0, none⟩ = some (.slice ao n cap))
    {v2 : Value} (h2 : w.cell? ⟨g, 2, none⟩ = some v2) {i : Nat} (h1 : w.cell? ⟨g, 1, none⟩ = some (.int .i64 i)) (hf : ∀ o, w.frozen? ⟨g, o, none⟩ = false) (hi : i ≤ n) (q : Int) (hq : I64 q) (k : Nat) :
    Only g w ((w.setCell ⟨g, 2, none⟩ (.int .i64 q)).drewN k) ∧ Dice B g ((w.setCell ⟨g, 2, none⟩ (.int .i64 q)).drewN k) := by
  have ho : Only g w ((w.setCell ⟨g, 2, none⟩ (.int .i64 q)).drewN k) := ((Only.refl g w).setCell 2 _).drewN _
  exact ⟨ho, hB, by rw [ho.size]; exact hg, ⟨ao, n, cap, bs, hb.grown ho.grown hB, by go_simp, i, hi, by go_simp, q, hq, by go_simp⟩, fun o => by have := hf o; go_simp⟩
def ByteSaid (B g : Nat) (w : World) (e : Ending) (w' : World) : Prop := ∃ r : Int, e = .returned (.int .i64 r) ∧ 0 ≤ r ∧ r ≤ 255 ∧ Only g w w' ∧ Dice B g w'
set_option maxHeartbeats 400000 in
set_option maxRecDepth 100000 in
theorem l1Byte_any (B g : Nat) (w : World) (hd : Dice B g w) :
    Calls Tryz.prog 43 #[.pointer (some ⟨g, 0, none⟩)] w (ByteSaid B g w) := by
  obtain ⟨hB, hg, ⟨ao, n, cap, bs, hb, h0, i, hi, h1, h, hh, h2⟩, hf⟩ := hd
  have f1 := hf 1
  have f2 := hf 2
  have hb1 := hb.hcap; have hb2 := hb.hmax
  unfold maxLen at hb2
  have HF := Lib.hid hf; clear hf
  obtain ⟨hh1, hh2⟩ := hh
  by_cases hlt : i < n
  · obtain ⟨b, off, rfl, hbB, hc, hr0, hr1⟩ := hb.at i hlt
    have hne : b ≠ g := by omega
    generalize bs.getD i 0 = y at hc hr0 hr1
    have i1 : (0 : Int) ≤ i := by omega
    have i2 : (i : Int) < n := by omega
    go_enter Tryz.func43, Tryz.ntmps43
    go_wp2
    go_quiet (fail)
    go_wp2
    generalize hq : wrap64 (wrap64 (h * 6364136223846793005) + 1442695040888963407) = q
    have hqr : I64 q := by rw [← hq]; exact wrap64_i64 _
    clear hq
    rw [i64_and255]
    generalize (bits BinOp.xor IntKind.i64 (q / 8589934592) (q / 35184372088832)) = z
    have z1 : 0 ≤ z % 256 := by omega
    have z2 : z % 256 ≤ 255 := by omega
    generalize z % 256 = x at z1 z2
    go_quiet (fail)
    go_wp2
    go_quiet (fail)
    go_wp2
    rw [i64_and255]
    go_ret
    exact ⟨_, rfl, by omega, by omega, Dice.moved hB hg hb h0 h2 h1 HF.out (i + 1) (by omega) q hqr _ _ (by omega)⟩
  · have hin : i = n := by omega
    have i4 : decide ((i : Int) < n) = false := decide_eq_false (by omega)
    go_enter Tryz.func43, Tryz.ntmps43
    go_wp2
    go_quiet (fail)
    go_wp2
    generalize hq : wrap64 (wrap64 (h * 6364136223846793005) + 1442695040888963407) = q
    have hqr : I64 q := by rw [← hq]; exact wrap64_i64 _
    clear hq
    rw [i64_and255]
    generalize (bits BinOp.xor IntKind.i64 (q / 8589934592) (q / 35184372088832)) = z
    have z1 : 0 ≤ z % 256 := by omega
    have z2 : z % 256 ≤ 255 := by omega
    generalize z % 256 = x at z1 z2
    go_quiet (fail)
    go_wp2
    go_ret
    rw [World.drewN_drewN]
    exact ⟨_, rfl, by omega, by omega, Dice.rolled hB hg hb h0 h2 h1 HF.out hi q hqr _⟩
def LowSaid (B g : Nat) (n : Int) (w : World) (e : Ending) (w' : World) : Prop := ∃ r : Nat, e = .returned (.int .i64 r) ∧ (0 < n → (r : Int) < n) ∧ (n ≤ 0 → r = 0) ∧ Only g w w' ∧ Dice B g w'
theorem LowSaid.mk {B g : Nat} {n r : Int} {w w' : World} (h0 : 0 ≤ r) (h1 : 0 < n → r < n) (h2 : n ≤ 0 → r = 0) (ho : Only g w w') (hd : Dice B g w') : LowSaid B g n w (.returned (.int .i64 r)) w' := by
  obtain ⟨k, rfl⟩ := Int.eq_ofNat_of_zero_le h0
  exact ⟨k, rfl, h1, fun h => by have := h2 h; omega, ho, hd⟩
set_option maxHeartbeats 400000 in
theorem l1Below_any (B g : Nat) (n : Int) (w : World) (hd : Dice B g w) (hn : I64 n) :
    Calls Tryz.prog 30 #[.pointer (some ⟨g, 0, none⟩), .int .i64 n] w (LowSaid B g n w) := by
  obtain ⟨hn1, hn2⟩ := hn
  by_cases h0 : n ≤ 0
  · go_enter Tryz.func30, Tryz.ntmps30
    go_wp2
    go_ret
    exact LowSaid.mk (Int.le_refl _) (fun h => by omega) (fun _ => rfl) (Only.refl _ _) hd
  by_cases h1 : n ≤ 256
  · go_enter Tryz.func30, Tryz.ntmps30
    go_wp2_with fail
    refine (l1Byte_any B g _ hd).mono ?_
    rintro e w1 ⟨r, rfl, hr0, hr1, ho, hd1⟩
    go_wp2_with fail
    go_ret
    exact LowSaid.mk (Int.emod_nonneg _ (by omega)) (fun _ => Int.emod_lt_of_pos _ (by omega)) (fun h => by omega) ho hd1
  · go_enter Tryz.func30, Tryz.ntmps30
    go_wp2_with fail
    refine (l1Byte_any B g _ hd).mono ?_
    rintro e w1 ⟨r1, rfl, hr0, hr1, ho1, hd1⟩
    go_wp2_with fail
    refine (l1Byte_any B g _ hd1).mono ?_
    rintro e w2 ⟨r2, rfl, hr2, hr3, ho2, hd2⟩
    go_wp2_with fail
    refine (l1Byte_any B g _ hd2).mono ?_
    rintro e w3 ⟨r3, rfl, hr4, hr5, ho3, hd3⟩
    go_wp2_with fail
    refine (l1Byte_any B g _ hd3).mono ?_
    rintro e w4 ⟨r4, rfl, hr6, hr7, ho4, hd4⟩
    go_wp2_with fail
    go_ret
    exact LowSaid.mk (Int.emod_nonneg _ (by omega)) (fun _ => Int.emod_lt_of_pos _ (by omega)) (fun h => by omega) (((ho1.trans ho2).trans ho3).trans ho4) hd4
def BoolSaid (B g : Nat) (w : World) (e : Ending) (w' : World) : Prop := ∃ b : Bool, e = .returned (.bool b) ∧ Only g w w' ∧ Dice B g w'
set_option maxHeartbeats 400000 in
theorem l1Once_any (B g : Nat) (n : Int) (w : World) (hd : Dice B g w) (hn : I64 n) :
    Calls Tryz.prog 21 #[.pointer (some ⟨g, 0, none⟩), .int .i64 n] w (BoolSaid B g w) := by
  go_enter Tryz.func21, Tryz.ntmps21
  go_wp2_with fail
  refine (l1Below_any B g n _ hd hn).mono ?_
  rintro e w1 ⟨r1, rfl, hr1, hr2, ho1, hd1⟩
  clear hr1 hr2
  go_wp2_with fail
  go_ret
  exact ⟨_, rfl, ho1, hd1⟩
def FromSaid (B g : Nat) (lo hi : Int) (w : World) (e : Ending) (w' : World) : Prop := ∃ r : Int, e = .returned (.int .i64 r) ∧ lo ≤ r ∧ r ≤ hi ∧ Only g w w' ∧ Dice B g w'
set_option maxHeartbeats 400000 in
theorem l1From_any (B g : Nat) (lo hi : Int) (w : World) (hd : Dice B g w) (h1 : -4611686018427387904 ≤ lo) (h2 : hi ≤ 4611686018427387904) (h3 : lo ≤ hi) (hx : hi - lo ≤ 4611686018427387904) :
    Calls Tryz.prog 62 #[.pointer (some ⟨g, 0, none⟩), .int .i64 lo, .int .i64 hi] w (FromSaid B g lo hi w) := by
  go_enter Tryz.func62, Tryz.ntmps62
  go_wp2_with fail
  refine (l1Below_any B g _ _ hd ⟨by omega, by omega⟩).mono ?_
  rintro e w1 ⟨r1, rfl, hr1, hr2, ho1, hd1⟩
  have hr3 : (r1 : Int) < hi - lo + 1 := hr1 (by omega)
  clear hr1 hr2
  go_wp2_with fail
  go_ret
  exact ⟨_, rfl, by omega, by omega, ho1, hd1⟩
theorem lit_cell (w : World) (xs : List Int) (g : Nat) (w1 : World) (ho : Keeps g (w.alloc (.cells (xs.map (Value.int .i64)).toArray 2)) w1) (hg : g < w.heap.size) (r : Nat) (hr : r < xs.length) :
    w1.cell? ⟨w.heap.size, r, none⟩ = some (.int .i64 (xs.getD r 0)) := by
  have h0 : (w.alloc (.cells (xs.map (Value.int .i64)).toArray 2)).cell? ⟨w.heap.size, r, none⟩ = some (.int .i64 (xs.getD r 0)) := by
    rw [cell_of_row _ _ r (xs.map (Value.int .i64)).toArray 2 (0, 0) (heap_alloc_new w _)]
    simp [List.getD, hr]
  exact ho.cell h0 (fun e => by have h2 : w.heap.size = g := Option.some.inj e; omega)
theorem Dice.below' {B g C : Nat} {w w' : World} (hd : Dice B g w) (hb : Below C w w') (hC : g < C) : Dice B g w' := by
  obtain ⟨hB, hg, ⟨ao, n, cap, bs, hby, h0, i, hi, h1, h, hh, h2⟩, hf⟩ := hd
  exact ⟨hB, Nat.lt_of_lt_of_le hg hb.size, ⟨ao, n, cap, bs, hby.below hb (by omega) (Nat.le_refl _), (hb.cell (p := ⟨g, 0, none⟩) hC).trans h0, i, hi, (hb.cell (p := ⟨g, 1, none⟩) hC).trans h1, h, hh, (hb.cell (p := ⟨g, 2, none⟩) hC).trans h2⟩,
    fun o => (hb.frozen (p := ⟨g, o, none⟩) hC).trans (hf o)⟩
theorem Dice.below {B g : Nat} {w w' : World} (hd : Dice B g w) (hb : Below w.heap.size w w') : Dice B g w' := hd.below' hb hd.hg
theorem Dice.alloc {B g : Nat} {w : World} (hd : Dice B g w) (o : Obj) : Dice B g (w.alloc o) := hd.below ((Below.refl _ _).alloc (Nat.le_refl _) o)
theorem all_getD {P : Int → Prop} {xs : List Int} (h : ∀ x ∈ xs, P x) {r : Nat} (hr : r < xs.length) : P (xs.getD r 0) := by
  have e : xs.getD r 0 = xs[r] := by simp [List.getD, hr]
  rw [e]
  exact h _ (List.getElem_mem _)
def NumSaid (B g : Nat) (w : World) (e : Ending) (w' : World) : Prop := ∃ r : Int, e = .returned (.int .i64 r) ∧ I64 r ∧ Keeps g w w' ∧ Dice B g w'
def NewDice (w : World) (e : Ending) (w' : World) : Prop := e = .returned (.pointer (some ⟨w.heap.size, 0, none⟩)) ∧ Dice w.heap.size w.heap.size w' ∧ Below w.heap.size w w'
set_option maxHeartbeats 400000 in
theorem l1New_any (B : Nat) (ao : Option Addr) (n cap : Nat) (bs : List Int) (w : World) (hb : Bytes B w ao n cap bs) (hB : B ≤ w.heap.size) (hn : n ≤ 1099511627776) :
    Calls Tryz.prog 14 #[.slice ao n cap] w (NewDice w) := by
  go_enter Tryz.func14, Tryz.ntmps14
  go_wp2
  go_loop [3, 4] (fun sh si => ∃ (h : Int) (i : Nat), sh = .int .i64 h ∧ si = .int .i64 i ∧ i ≤ n ∧ 0 ≤ h ∧ h ≤ 1125899906842624) (fun _ si => n - (intOf si).toNat)
  case atStart => exact ⟨_, 0, rfl, rfl, Nat.zero_le _, by omega, by omega⟩
  case round =>
    obtain ⟨h, i, rfl, rfl, hi, hh0, hh1⟩ := hrel
    by_cases hlt : i < n
    · obtain ⟨b, off, rfl, hbB, hc, hr0, hr1⟩ := hb.at i hlt
      generalize bs.getD i 0 = y at hc hr0 hr1
      have e30 : ∀ n : Int, bits .and .i64 n 1073741823 = n % 1073741824 := i64_and30
      go_wp2
      go_round
      case rel => exact ⟨_, i + 1, rfl, by go_num, by omega, Int.emod_nonneg _ (by decide), by have := Int.emod_lt_of_pos (h * 293 + y + 11) (show (0 : Int) < 1073741824 by decide); omega⟩
      case measure => simp [intOf]; omega
    · go_wp2
      go_ret
      have hbel : Below w.heap.size w (w.alloc (Obj.cells #[.slice ao n cap, .int .i64 0, .int .i64 h] 67)) := (Below.refl _ _).alloc (Nat.le_refl _) _
      refine ⟨rfl, ⟨Nat.le_refl _, by simp, ⟨ao, n, cap, bs, hb.below hbel hB hB, by go_simp, 0, Nat.zero_le _, by go_simp, h, by unfold I64; omega, by go_simp⟩, fun o => by go_simp⟩, hbel⟩
end Go.Proofs.YtoniahfdjhhalaaGreat
