/- Texts of this claim, put together. -/
import Derived.Test.YtoniahfdjhhalaaGreatP1
import Derived.Test.YtoniahfdjhhalaaGreatP2
import Derived.Test.YtoniahfdjhhalaaGreatP22
import Derived.Test.YtoniahfdjhhalaaGreatP39

namespace Go.Proofs.YtoniahfdjhhalaaGreat
open Go.RowKit
def both (ps : List (Ent × Ent)) : List Ent := ps.flatMap fun p => [p.1, p.2]
theorem both_len (ps : List (Ent × Ent)) : (both ps).length = ps.length * 2 := by
  induction ps with
  | nil => rfl
  | cons p r ih => simp [both, List.flatMap_cons] at *; omega
theorem both_append (xs ys : List (Ent × Ent)) : both (xs ++ ys) = both xs ++ both ys := by simp [both]
theorem both_one (p : Ent × Ent) : both [p] = [p.1, p.2] := by simp [both]
def P2 (ps : List (Ent × Ent)) (i : Nat) : Ent × Ent := ps.getD i (zeroE, zeroE)
theorem P2_get {ps : List (Ent × Ent)} {i : Nat} (h : i < ps.length) : P2 ps i = ps[i] := by simp [P2, List.getD, h]
theorem both_get (ps : List (Ent × Ent)) (j : Nat) (hj : j < ps.length) : E (both ps) (2 * j) = (P2 ps j).1 ∧ E (both ps) (2 * j + 1) = (P2 ps j).2 := by
  induction ps generalizing j with
  | nil => simp at hj
  | cons p r ih =>
    have hc : both (p :: r) = p.1 :: p.2 :: both r := by simp [both]
    rw [hc]
    cases j with
    | zero => exact ⟨rfl, rfl⟩
    | succ j =>
      obtain ⟨h1, h2⟩ := ih j (by simpa using hj)
      refine ⟨?_, ?_⟩
      · rw [show 2 * (j + 1) = 2 * j + 1 + 1 by omega]
        exact h1
      · rw [show 2 * (j + 1) + 1 = 2 * j + 1 + 1 + 1 by omega]
        exact h2
def flat2 (p : Ent × Ent) : Array Value := #[.int .i64 p.1.o, .int .i64 p.1.s, .int .i64 p.1.a, .int .i64 p.1.d, .int .i64 p.2.o, .int .i64 p.2.s, .int .i64 p.2.a, .int .i64 p.2.d]
theorem flat2_list (p : Ent × Ent) : (flat2 p).toList = flatE (both [p]) := by rw [both_one]; rfl
def OwnP (base : Nat) (w : World) (v : Value) (ps : List (Ent × Ent)) : Prop :=
  w.ownsRow base 49 8 v ps.length (flatE (both ps))
theorem infoP : (Tryz.prog.info? 49).map (fun i => (i.zero, i.size, i.bytes)) = some (some (.agg #[.int .i64 0, .int .i64 0, .int .i64 0, .int .i64 0, .int .i64 0, .int .i64 0, .int .i64 0, .int .i64 0]), 8, 64) := by kernel_rfl
theorem ownP_nil (B : Nat) (w : World) : OwnP B w (.slice none 0 0) [] := World.ownsRow_nil w B 49 8
theorem OwnP.below {base C : Nat} {w w' : World} {v : Value} {ps : List (Ent × Ent)} (h : OwnP base w v ps) (hb : Below C w w') (hC : w.heap.size ≤ C) : OwnP base w' v ps := by
  refine ⟨h.1, ?_⟩
  rcases h.2 with h3 | ⟨g, cap, cur, hv, hg, hh, r⟩
  · exact .inl h3
  · exact .inr ⟨g, cap, cur, hv, hg, by rw [hb.block g (by have := (Array.getElem?_eq_some_iff.1 hh).1; omega)]; exact hh, r⟩
theorem OwnP.mono {base base' : Nat} {w : World} {v : Value} {ps : List (Ent × Ent)} (h : OwnP base w v ps) (hb : base' ≤ base) : OwnP base' w v ps := by
  refine ⟨h.1, ?_⟩
  rcases h.2 with h3 | ⟨g, cap, cur, hv, hg, r⟩
  · exact .inl h3
  · exact .inr ⟨g, cap, cur, hv, by omega, r⟩
theorem OwnP.alloc {base : Nat} {w : World} {v : Value} {ps : List (Ent × Ent)} (h : OwnP base w v ps) (o : Obj) : OwnP base (w.alloc o) v ps := World.ownsRow.alloc h o
theorem Blk.aside {base g : Nat} {w w' : World} {v : Value} {ps : List (Ent × Ent)} {cs : Array Value} (h : Blk w g 47 cs) (hown : OwnP base w v ps) (hg : w.grownBy w' v.ownBlock) : Blk w' g 47 cs := by
  refine (hg.block g h.lt (fun e => ?_)).trans h
  rcases hown.2 with ⟨rfl, _⟩ | ⟨g', cap, cur, rfl, _, hh, _⟩
  · cases e
  · have e2 : g' = g := Option.some.inj e.symm
    subst e2
    have h2 : w.heap[g']? = some (.cells cs 47 (0, 0)) := h
    rw [h2] at hh
    cases hh
theorem appendP_one {ops : Array Oper} {rest : List Oper} {o : Oper} {a : Act} {Q : Exit → Act → World → Prop} {w : World} (x y : Ent)
    (hgd : o.guard = none) (s z : Operand) (ho : o.op = .call { callee := .builtin .append, args := #[s, z], argTypes := #[44, 44] })
    (B : Nat) (v : Value) (ps : List (Ent × Ent)) (hs : a.eval s = v) (hx : a.eval z = .slice (some ⟨w.heap.size, 0, none⟩) 1 1)
    (hown : OwnP B w v ps) (hB : B ≤ w.heap.size) (hlen : ps.length ≤ 1099511627776)
    (hK : ∀ v' w', OwnP B w' v' (ps ++ [(x, y)]) → Below B w w' → (∀ g cs, Blk w g 47 cs → Blk w' g 47 cs) → wpList Tryz.prog ops Q rest (a.put o.dst v') w') :
    wpList Tryz.prog ops Q (o :: rest) a (w.alloc (.cells #[.int .i64 x.o, .int .i64 x.s, .int .i64 x.a, .int .i64 x.d, .int .i64 y.o, .int .i64 y.s, .int .i64 y.a, .int .i64 y.d] 49)) := by
  obtain ⟨i0, hi, hz0, hz1, hz2⟩ := info_parts infoP
  refine wpList_append_own _ hgd s z 44 ho B 49 i0 _ 8 64 Tryz.underlying44 hi hz0 hz1 hz2 rfl (by decide) v ps.length (flatE (both ps)) hs (World.ownsRow.alloc hown _)
    ⟨w.heap.size, 0, none⟩ 1 1 (flatE (both [(x, y)])) hx rfl ?c1 (flatE_oneCell _) ?c3 ?c4 ?c5 ?_
  case c1 =>
    intro j u hu
    rw [Addr.add_lit, Nat.zero_add, cell_of_row _ _ j #[.int .i64 x.o, .int .i64 x.s, .int .i64 x.a, .int .i64 x.d, .int .i64 y.o, .int .i64 y.s, .int .i64 y.a, .int .i64 y.d] 49 (0, 0) (heap_alloc_new w _)]
    rw [← flat2_list] at hu
    simpa [flat2] using hu
  case c3 => unfold maxLen; omega
  case c4 => omega
  case c5 => simp; omega
  intro v' w' hown' hgrow _
  refine hK v' w' ?_ ?_ ?_
  · unfold OwnP
    rw [List.length_append, both_append, flatE_append]
    exact hown'
  · refine ((Below.refl B w).alloc hB _).grown hgrow (by simp; omega) ?_
    intro k hk
    exact (World.ownsRow.lt hown k hk).1
  · intro g cs hb
    exact (hb.alloc _).aside (hown.alloc _) hgrow
structure Prs (B : Nat) (w : World) (ao : Option Addr) (n cap : Nat) (ps : List (Ent × Ent)) : Prop where
  hlen : ps.length = n
  hcap : n ≤ cap
  hmax : cap ≤ maxLen
  cell : ∀ j, j < n → ∃ b, ao = some ⟨b, 0, none⟩ ∧ b < B ∧ Ent4 w b (j * 8) (P2 ps j).1 ∧ Ent4 w b (j * 8 + 4) (P2 ps j).2
theorem Prs.below {B B' C : Nat} {w w' : World} {ao : Option Addr} {n cap : Nat} {ps : List (Ent × Ent)} (h : Prs B w ao n cap ps) (hb : Below C w w') (hC : B ≤ C) (hB : B ≤ B') : Prs B' w' ao n cap ps :=
  ⟨h.hlen, h.hcap, h.hmax, fun j hj => by
    obtain ⟨b, e, hlt, hc, hd⟩ := h.cell j hj
    exact ⟨b, e, by omega, hc.below hb (by omega), hd.below hb (by omega)⟩⟩
theorem OwnP.prs {base : Nat} {w : World} {v : Value} {ps : List (Ent × Ent)} (h : OwnP base w v ps) : ∃ ao cap, v = .slice ao ps.length cap ∧ Prs w.heap.size w ao ps.length cap ps := by
  obtain ⟨h1, h2⟩ := h
  rcases h2 with ⟨rfl, h3⟩ | ⟨g, cap, cur, rfl, hb, hg, hn, hm, hs, ht⟩
  · have : ps = [] := List.eq_nil_of_length_eq_zero h3
    subst this
    exact ⟨none, 0, rfl, ⟨rfl, Nat.le_refl _, by unfold maxLen; omega, fun j hj => by simp at hj⟩⟩
  · refine ⟨some ⟨g, 0, none⟩, cap, rfl, ⟨rfl, hn, hm, fun j hj => ⟨g, rfl, (Array.getElem?_eq_some_iff.1 hg).1, ?_⟩⟩⟩
    obtain ⟨q1, q2⟩ := both_get ps j hj
    have hc : ∀ i k, i < 2 → k < 4 → w.cell? ⟨g, j * 8 + i * 4 + k, none⟩ = (E (both ps) (2 * j + i)).cells[k]? := fun i k hi hk => by
      rw [cell_of_row w g (j * 8 + i * 4 + k) cur _ (0, 0) hg, ← flatE_get (both ps) (2 * j + i) k (by rw [both_len]; omega) hk, ← ht, List.getElem?_take, if_pos (by omega), show (2 * j + i) * 4 + k = j * 8 + i * 4 + k by omega]
      simp
    rw [← q1, ← q2]
    exact ⟨⟨hc 0 0 (by omega) (by omega), hc 0 1 (by omega) (by omega), hc 0 2 (by omega) (by omega), hc 0 3 (by omega) (by omega)⟩, ⟨hc 1 0 (by omega) (by omega), hc 1 1 (by omega) (by omega), hc 1 2 (by omega) (by omega), hc 1 3 (by omega) (by omega)⟩⟩
set_option maxHeartbeats 1000000 in
theorem newer_any (x y : Ent) (w : World) :
    Calls Tryz.prog 18 #[.agg #[.int .i64 x.o, .int .i64 x.s, .int .i64 x.a, .int .i64 x.d, .int .i64 y.o, .int .i64 y.s, .int .i64 y.a, .int .i64 y.d]] w (Says (newer (x, y)).val w) := by
  have hb0 : Below w.heap.size w (w.alloc (.cells #[.int .i64 x.o, .int .i64 x.s, .int .i64 x.a, .int .i64 x.d, .int .i64 y.o, .int .i64 y.s, .int .i64 y.a, .int .i64 y.d] 49)) := (Below.refl _ _).alloc (Nat.le_refl _) _
  by_cases h : x.d < y.d
  · have hn : newer (x, y) = y := if_pos h
    have h1 : decide (x.d < y.d) = true := decide_eq_true h
    rw [hn]
    go_enter Tryz.func18, Tryz.ntmps18
    go_wp2
    refine bodyPost_ret (v := .agg #[.int .i64 y.o, .int .i64 y.s, .int .i64 y.a, .int .i64 y.d]) (by simp [results, Tryz.results18, go_sem]) rfl ?_
    exact ⟨rfl, hb0.alloc (by simp) _⟩
  · have hn : newer (x, y) = x := if_neg h
    have h1 : decide (x.d < y.d) = false := decide_eq_false h
    rw [hn]
    go_enter Tryz.func18, Tryz.ntmps18
    go_wp2
    refine bodyPost_ret (v := .agg #[.int .i64 x.o, .int .i64 x.s, .int .i64 x.a, .int .i64 x.d]) (by simp [results, Tryz.results18, go_sem]) rfl ?_
    exact ⟨rfl, hb0.alloc (by simp) _⟩
set_option maxHeartbeats 1000000 in
theorem pwithin_any (x y : Ent) (w : World) :
    Calls Tryz.prog 22 #[.agg #[.int .i64 x.o, .int .i64 x.s, .int .i64 x.a, .int .i64 x.d, .int .i64 y.o, .int .i64 y.s, .int .i64 y.a, .int .i64 y.d]] w (Says (.bool (le2 (x, y))) w) := by
  have hb0 : Below w.heap.size w (w.alloc (.cells #[.int .i64 x.o, .int .i64 x.s, .int .i64 x.a, .int .i64 x.d, .int .i64 y.o, .int .i64 y.s, .int .i64 y.a, .int .i64 y.d] 49)) := (Below.refl _ _).alloc (Nat.le_refl _) _
  by_cases h : x.d ≤ y.d
  · have h1 : decide (x.d ≤ y.d) = true := decide_eq_true h
    have hn : le2 (x, y) = decide (x.a ≤ y.a) := by simp [le2, h]
    rw [hn]
    go_enter Tryz.func22, Tryz.ntmps22
    go_wp2
    go_ret
    exact ⟨rfl, hb0⟩
  · have h1 : decide (x.d ≤ y.d) = false := decide_eq_false h
    have hn : le2 (x, y) = false := by simp [le2, h]
    rw [hn]
    go_enter Tryz.func22, Tryz.ntmps22
    go_wp2
    go_ret
    exact ⟨rfl, hb0⟩
end Go.Proofs.YtoniahfdjhhalaaGreat
