/-
  append of one number onto the call's own slice.
-/
import Derived.Test.YtekjhcckepkmnaaBase
import Derived.Laws.AppendOwnNone
namespace Go.Proofs.Ytekjhcckepkmnaa
open Go.RowKit

theorem own_nil (B : Nat) (w : World) : Own B w (.slice none 0 0) [] := World.ownsRow_nil w B 2 1

theorem own_empty (w : World) : Own w.heap.size (w.alloc (.cells #[] 2)) (.slice (some ⟨w.heap.size, 0, none⟩) 0 0) [] := World.ownsRow_lit w #[] 0 (Nat.le_refl _) (by unfold maxLen; omega) rfl

theorem own_lit (w : World) (xs : List Int) (h : xs.length ≤ 1099511627776) : Own w.heap.size (w.alloc (.cells (xs.map (Value.int .i64)).toArray 2)) (.slice (some ⟨w.heap.size, 0, none⟩) xs.length xs.length) xs := by
  unfold Own
  exact World.ownsRow_lit w _ xs.length (Nat.le_refl _) (by unfold maxLen; omega) (by simp)

theorem append_one {ops : Array Oper} {rest : List Oper} {o : Oper} {a : Act} {Q : Exit → Act → World → Prop} {w : World} {y : Int}
    (hgd : o.guard = none) (s x : Operand) (ho : o.op = .call { callee := .builtin .append, args := #[s, x], argTypes := #[25, 25] })
    (B : Nat) (v : Value) (xs : List Int) (hs : a.eval s = v) (hx : a.eval x = .slice (some ⟨w.heap.size, 0, none⟩) 1 1)
    (hown : Own B w v xs) (hB : B ≤ w.heap.size) (hlen : xs.length ≤ 1099511627776)
    (hK : ∀ v' w', Own B w' v' (xs ++ [y]) → Below B w w' → wpList Try.prog ops Q rest (a.put o.dst v') w') :
    wpList Try.prog ops Q (o :: rest) a (w.alloc (.cells #[.int .i64 y] 2)) := by
  obtain ⟨i0, hi, hz0, hz1, hz2⟩ := info_parts info64
  refine wpList_append_own _ hgd s x 25 ho B 2 i0 (.int .i64 0) 1 8 Try.underlying25 hi hz0 hz1 hz2 rfl (by decide) v xs.length (xs.map (Value.int .i64)) hs (World.ownsRow.alloc hown _)
    ⟨w.heap.size, 0, none⟩ 1 1 [.int .i64 y] hx rfl ?c1 ?c2 ?c3 ?c4 ?c5 ?_
  case c1 =>
    intro j u hu
    match j, hu with
    | 0, hu =>
      simp at hu
      subst hu
      rw [Addr.add_lit]
      go_simp
  case c2 =>
    intro u hu
    simp at hu
    subst hu
    rfl
  case c3 => unfold maxLen; omega
  case c4 => omega
  case c5 => simp; omega
  intro v' w' hown' hgrow _
  refine hK v' w' ?_ ?_
  · unfold Own
    rw [List.length_append, List.map_append]
    exact hown'
  · refine ((Below.refl B w).alloc hB _).grown hgrow (by simp; omega) ?_
    intro k hk
    rcases hown.2 with ⟨rfl, _⟩ | ⟨g, cap, cur, rfl, hg, _⟩
    · cases hk
    · simp [Value.ownBlock] at hk
      omega

/-- append of a whole slice onto the call's own slice. -/
theorem append_all {ops : Array Oper} {rest : List Oper} {o : Oper} {a : Act} {Q : Exit → Act → World → Prop} {w : World}
    (hgd : o.guard = none) (s x : Operand) (ho : o.op = .call { callee := .builtin .append, args := #[s, x], argTypes := #[25, 25] })
    (B C : Nat) (v : Value) (xs ys : List Int) (ao : Option Addr) (n cap : Nat) (hs : a.eval s = v) (hx : a.eval x = .slice ao n cap) (hi : Ints C w ao n cap ys) (hz : ao = none → cap = 0)
    (hown : Own B w v xs) (hB : B ≤ w.heap.size) (hlen : xs.length + n ≤ 1099511627776)
    (hK : ∀ v' w', Own B w' v' (xs ++ ys) → Below B w w' → wpList Try.prog ops Q rest (a.put o.dst v') w') :
    wpList Try.prog ops Q (o :: rest) a w := by
  obtain ⟨i0, hi0, hz0, hz1, hz2⟩ := info_parts info64
  have hyl := hi.hlen
  cases ao with
  | none =>
    have hc0 := hz rfl
    have hn0 : n = 0 := by have := hi.hcap; omega
    subst hc0 hn0
    have hys : ys = [] := List.eq_nil_of_length_eq_zero hyl
    subst hys
    refine wpList_append_own_none hgd s x 25 ho B 2 i0 1 Try.underlying25 hi0 v xs.length (xs.map (Value.int .i64)) hs hown hx ?_
    exact hK v w (by rw [List.append_nil]; exact hown) (Below.refl _ _)
  | some ad =>
    refine wpList_append_own _ hgd s x 25 ho B 2 i0 (.int .i64 0) 1 8 Try.underlying25 hi0 hz0 hz1 hz2 rfl (by decide) v xs.length (xs.map (Value.int .i64)) hs hown
      ad n cap (ys.map (Value.int .i64)) hx (by simp [hyl]) ?c1 ?c2 ?c3 ?c4 hB ?_
    case c1 =>
      intro j u hu
      have hj : j < n := by
        have := (List.getElem?_eq_some_iff.1 hu).1
        simpa [hyl] using this
      obtain ⟨b, off, e, _, hc⟩ := hi.cell j hj
      cases e
      rw [Addr.add_lit, hc]
      have e2 : (ys.map (Value.int .i64))[j]? = some (.int .i64 (ys.getD j 0)) := by simp [List.getD, show j < ys.length by omega]
      rw [e2] at hu
      exact hu
    case c2 => exact ints_oneCell _ _
    case c3 => unfold maxLen; omega
    case c4 => omega
    intro v' w' hown' hgrow _
    refine hK v' w' ?_ ?_
    · unfold Own
      rw [List.length_append, List.map_append, hyl]
      exact hown'
    · refine (Below.refl B w).grown hgrow hB ?_
      intro k hk
      exact (World.ownsRow.lt hown k hk).1

theorem Own.ints' {base : Nat} {w : World} {v : Value} {xs : List Int} (h : Own base w v xs) (hx : AllI64 xs) : ∃ ao cap, v = .slice ao xs.length cap ∧ Ints w.heap.size w ao xs.length cap xs ∧ (ao = none → cap = 0) := by
  obtain ⟨ao, cap, rfl, hi⟩ := h.ints hx
  refine ⟨ao, cap, rfl, hi, ?_⟩
  rcases h.2 with ⟨e, _⟩ | ⟨g, cap', cur, e, _⟩
  · simp only [Value.slice.injEq] at e
    exact fun _ => e.2.2
  · simp only [Value.slice.injEq] at e
    intro h
    rw [e.1] at h
    cases h

end Go.Proofs.Ytekjhcckepkmnaa
