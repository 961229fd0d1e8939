/-
  What the exact laws share: copies that are read and written, slices that stay while another one is marked.
-/
import Derived.Test.YtdfcdemkmniknaaCopy
import Derived.Test.YtdfcdemkmniknaaAppend
import Derived.Test.YtdfcdemkmniknaaMark
import Derived.Test.YtdfcdemkmniknaaEq
namespace Go.Proofs.Ytdfcdemkmniknaa
open Go.RowKit

/-- A fresh copy of n numbers, at (a, c). -/
def Copied (xs : List Int) (n : Nat) (w : World) (e : Ending) (w' : World) : Prop :=
  ∃ a c, e = .returned (.slice a n c) ∧ Own w.heap.size w' (.slice a n c) xs ∧ Ints w'.heap.size w' a n c xs ∧ (a = none → c = 0) ∧ Below w.heap.size w w' ∧ w.heap.size ≤ w'.heap.size

theorem toInt64S_copied (B : Nat) (ao : Option Addr) (n cap : Nat) (xs : List Int) (w : World) (hx : Ints B w ao n cap xs) (hB : B ≤ w.heap.size) (hn : n ≤ 1048576) :
    Calls Try.prog 20 #[.slice ao n cap] w (Copied xs n w) :=
  (toInt64S_any B ao n cap xs w hx hB (by omega)).mono fun e w' ⟨v, he, ho, hb⟩ => by
    obtain ⟨a1, c1, rfl, hi, hz⟩ := ho.ints' hx.wf
    have := hx.hlen
    subst this
    exact ⟨a1, c1, he, ho, hi, hz, hb, hb.size⟩

/-- Another, older slice was written: this one stays. -/
theorem Own.older {base base' : Nat} {w w' w1 : World} {v v' : Value} {xs ys : List Int} (h : Own base w v xs) (h' : Own base' w1 v' ys) (hs : w1.heap.size ≤ base) (hg : w.grownBy w' v'.ownBlock) : Own base w' v xs := by
  refine World.ownsRow.kept h hg ?_
  cases hv : v.ownBlock with
  | none => exact .inl rfl
  | some k =>
    right
    intro e
    have h1 := (World.ownsRow.lt h k hv).1
    have h2 := (World.ownsRow.lt h' k e.symm).2
    omega

theorem Ints.size {B : Nat} {w : World} {ao : Option Addr} {n cap : Nat} {xs : List Int} (h : Ints B w ao n cap xs) {B' : Nat} (hB : B ≤ B') : Ints B' w ao n cap xs := h.below (Below.refl B _) (Nat.le_refl _) hB

/-- What a slice of the call's own holds now, if it was at (a, n, c). -/
theorem Own.ints_at {base : Nat} {w : World} {a : Option Addr} {n c : Nat} {xs : List Int} (h : Own base w (.slice a n c) xs) (hx : AllI64 xs) : Ints w.heap.size w a n c xs := by
  obtain ⟨a', c', e, hi⟩ := h.ints hx
  simp only [Value.slice.injEq] at e
  obtain ⟨rfl, rfl, rfl⟩ := e
  exact hi

theorem Own.ints_at' {base : Nat} {w : World} {a : Option Addr} {n c : Nat} {xs : List Int} (h : Own base w (.slice a n c) xs) (_hl : xs.length = n) (hx : AllI64 xs) : Ints w.heap.size w a n c xs := h.ints_at hx

/-- The slice v of the call's own was marked from 1 on. -/
def MarkedFrom (base : Nat) (v : Value) (n : Nat) (w : World) (e : Ending) (w' : World) : Prop :=
  e = .returned (.int .i64 (1 + (n : Int))) ∧ Own base w' v (marks 1 n) ∧ w.grownBy w' v.ownBlock ∧ w'.heap.size = w.heap.size ∧ Below base w w'

theorem mark_from (base : Nat) (v : Value) (xs : List Int) (n : Nat) (w : World) (hown : Own base w v xs) (hl : xs.length = n) (hn : n ≤ 1048576) :
    Calls Try.prog 22 #[v, .int .i64 1] w (MarkedFrom base v n w) := by
  subst hl
  refine (mark_only base v xs 1 w hown (by decide) (by decide) (by omega)).mono fun e w' ⟨h1, h2, h3, h4⟩ => ⟨h1, h2, h3, h4, ⟨h3.os, h3.tape, h3.output, h3.size, fun k hk => ?_⟩⟩
  by_cases hlt : k < w.heap.size
  · exact h3.block k hlt (fun e => by have := (World.ownsRow.lt hown k e.symm).1; omega)
  · rw [Array.getElem?_eq_none (by omega), Array.getElem?_eq_none (by omega)]

theorem held_from (B : Nat) (ao : Option Addr) (n cap : Nat) (w : World) (hx : Ints B w ao n cap (marks 1 n)) (hn : n ≤ 1048576) :
    Calls Try.prog 23 #[.slice ao n cap, .int .i64 1] w fun e w' => e = .returned (.int .i64 (1 + (n : Int))) ∧ w' = w :=
  held_any B ao n cap 1 w hx (by decide) (by decide) (by omega)

end Go.Proofs.Ytdfcdemkmniknaa
