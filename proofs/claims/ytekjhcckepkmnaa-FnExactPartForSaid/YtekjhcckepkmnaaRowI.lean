/-
  What the exact laws share whose answer is a new slice of int64.
-/
import Derived.Test.YtekjhcckepkmnaaCopy
import Derived.Test.YtekjhcckepkmnaaAppend
import Derived.Test.YtekjhcckepkmnaaMark
import Derived.Test.YtekjhcckepkmnaaEq
namespace Go.Proofs.Ytekjhcckepkmnaa
open Go.RowKit

/-- A new slice of int64 at (a, c), handed back by ret. -/
def RowI (rs : List Int) (m : Nat) (ret : Value → Value) (w : World) (e : Ending) (w' : World) : Prop :=
  ∃ a c, e = .returned (ret (.slice a m c)) ∧ Own w.heap.size w' (.slice a m c) rs ∧ Ints w'.heap.size w' a m c rs ∧ (a = none → c = 0) ∧ Below w.heap.size w w' ∧ w.heap.size ≤ w'.heap.size

theorem newInts_row {rs : List Int} {m : Nat} {w w' : World} {e : Ending} (h : NewInts rs w e w') (hall : AllI64 rs) (hm : rs.length = m) : RowI rs m (fun v => v) w e w' := by
  obtain ⟨v, he, ho, hb⟩ := h
  obtain ⟨a, c, rfl, hi, hz⟩ := ho.ints' hall
  subst hm
  exact ⟨a, c, he, ho, hi, hz, hb, hb.size⟩

theorem toInt64S_row (B : Nat) (ao : Option Addr) (n cap : Nat) (xs : List Int) (w : World) (hx : Ints B w ao n cap xs) (hB : B ≤ w.heap.size) (hn : n ≤ 1048576) :
    Calls Try.prog 16 #[.slice ao n cap] w (RowI xs n (fun v => v) w) :=
  (toInt64S_any B ao n cap xs w hx hB (by omega)).mono fun _ _ h => newInts_row h hx.wf hx.hlen

/-- The slice v of the call's own was marked from k on. -/
def MarkedI (base : Nat) (v : Value) (k : Int) (n : Nat) (w : World) (e : Ending) (w' : World) : Prop :=
  e = .returned (.int .i64 (k + (n : Int))) ∧ Own base w' v (marks k n) ∧ w.grownBy w' v.ownBlock ∧ w'.heap.size = w.heap.size ∧ Below base w w'

theorem markI_row (base : Nat) (v : Value) (xs : List Int) (k : Int) (n : Nat) (w : World) (hown : Own base w v xs) (hl : xs.length = n) (hk0 : 0 ≤ k) (hk : k ≤ 1152921504606846976) (hn : n ≤ 1048576) :
    Calls Try.prog 20 #[v, .int .i64 k] w (MarkedI base v k n w) := by
  subst hl
  refine (mark_only base v xs k w hown hk0 hk (by omega)).mono fun e w' ⟨h1, h2, h3, h4⟩ => ⟨h1, h2, h3, h4, ⟨h3.os, h3.tape, h3.output, h3.size, fun j hj => ?_⟩⟩
  by_cases hlt : j < w.heap.size
  · exact h3.block j hlt (fun e => by have := (World.ownsRow.lt hown j e.symm).1; omega)
  · rw [Array.getElem?_eq_none (by omega), Array.getElem?_eq_none (by omega)]

/-- What a slice of the call's own holds now, if it was at (a, n, c). -/
theorem Own.read {base : Nat} {w : World} {a : Option Addr} {n c : Nat} {xs : List Int} (h : Own base w (.slice a n c) xs) (hx : AllI64 xs) : Ints w.heap.size w a n c xs := by
  obtain ⟨a', c', e, hi⟩ := h.ints hx
  simp only [Value.slice.injEq] at e
  obtain ⟨rfl, rfl, rfl⟩ := e
  exact hi

end Go.Proofs.Ytekjhcckepkmnaa
