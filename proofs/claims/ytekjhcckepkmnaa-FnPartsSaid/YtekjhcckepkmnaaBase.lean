/-
  Plain words used by every walk of this seat: a slice of numbers that is read (Ints), a slice that the call made (Own), the range of an int64.
-/
import Derived.Test.YtekjhcckepkmnaaRows
import Derived.WalkKit
import Derived.WalkSpells
import Derived.WalkLawsBesides
import Derived.Lib.Hide
import Derived.IntWalk
import Derived.RegionTactic
import Derived.ChangeAlike
import Derived.Deep.QuietTactic
import Derived.BigQuiet
import Derived.Deep.LoopGhost
import Derived.Handy
namespace Go.Proofs.Ytekjhcckepkmnaa
open Go.RowKit

/-- The range of an int64. -/
def I64 (x : Int) : Prop := -9223372036854775808 ≤ x ∧ x ≤ 9223372036854775807
def AllI64 (xs : List Int) : Prop := ∀ x ∈ xs, I64 x

/-- The slice (ao, n, cap) has the numbers xs in blocks below B. -/
structure Ints (B : Nat) (w : World) (ao : Option Addr) (n cap : Nat) (xs : List Int) : Prop where
  hlen : xs.length = n
  hcap : n ≤ cap
  hmax : cap ≤ maxLen
  cell : ∀ j, j < n → ∃ b off, ao = some ⟨b, off, none⟩ ∧ b < B ∧ w.cell? ⟨b, off + j, none⟩ = some (.int .i64 (xs.getD j 0))
  wf : AllI64 xs

theorem Ints.below {B B' C : Nat} {w w' : World} {ao : Option Addr} {n cap : Nat} {xs : List Int} (h : Ints B w ao n cap xs) (hb : Below C w w') (hC : B ≤ C) (hB : B ≤ B') : Ints B' w' ao n cap xs :=
  ⟨h.hlen, h.hcap, h.hmax, fun j hj => by
    obtain ⟨b, off, e, hlt, hc⟩ := h.cell j hj
    exact ⟨b, off, e, by omega, (hb.cell (p := ⟨b, off + j, none⟩) (by show b < C; omega)).trans hc⟩, h.wf⟩

theorem Ints.at {B : Nat} {w : World} {ao : Option Addr} {n cap : Nat} {xs : List Int} (h : Ints B w ao n cap xs) (k : Nat) (hk : k < n) :
    ∃ b off, ao = some ⟨b, off, none⟩ ∧ b < B ∧ ∀ j, j < n → w.cell? ⟨b, off + j, none⟩ = some (.int .i64 (xs.getD j 0)) := by
  obtain ⟨b, off, e, hb, _⟩ := h.cell k hk
  refine ⟨b, off, e, hb, fun j hj => ?_⟩
  obtain ⟨b', off', e', _, hc⟩ := h.cell j hj
  rw [e] at e'
  cases e'
  exact hc

theorem Ints.getD {B : Nat} {w : World} {ao : Option Addr} {n cap : Nat} {xs : List Int} (h : Ints B w ao n cap xs) (k : Nat) (hk : k < n) : I64 (xs.getD k 0) := by
  have hl := h.hlen
  have : xs.getD k 0 = xs[k]'(by omega) := by simp [List.getD, show k < xs.length by omega]
  rw [this]
  exact h.wf _ (List.getElem_mem _)

/-- The call's own slice of numbers. -/
def Own (base : Nat) (w : World) (v : Value) (xs : List Int) : Prop :=
  w.ownsRow base 2 1 v xs.length (xs.map (Value.int .i64))

theorem Own.ints {base : Nat} {w : World} {v : Value} {xs : List Int} (h : Own base w v xs) (hx : AllI64 xs) : ∃ ao cap, v = .slice ao xs.length cap ∧ Ints w.heap.size w ao xs.length cap xs := by
  obtain ⟨h1, h2⟩ := h
  rcases h2 with ⟨rfl, h3⟩ | ⟨g, cap, cur, rfl, hb, hg, hn, hm, hs, ht⟩
  · have : xs = [] := List.eq_nil_of_length_eq_zero h3
    subst this
    exact ⟨none, 0, rfl, rfl, Nat.le_refl _, by unfold maxLen; omega, fun j hj => by simp at hj, hx⟩
  · refine ⟨some ⟨g, 0, none⟩, cap, rfl, rfl, hn, hm, fun j hj => ⟨g, 0, rfl, (Array.getElem?_eq_some_iff.1 hg).1, ?_⟩, hx⟩
    rw [Nat.zero_add, cell_of_row w g j cur _ (0, 0) hg]
    have e : (cur.toList.take (xs.length * 1))[j]? = some (.int .i64 (xs.getD j 0)) := by
      rw [ht]
      simp [List.getD, hj]
    rw [List.getElem?_take, if_pos (by omega)] at e
    simpa using e

theorem Own.below {base C : Nat} {w w' : World} {v : Value} {xs : List Int} (h : Own base w v xs) (hb : Below C w w') (hC : w.heap.size ≤ C) : Own base w' v xs := by
  refine ⟨h.1, ?_⟩
  rcases h.2 with h3 | ⟨g, cap, cur, hv, hg, hh, r⟩
  · exact .inl h3
  · exact .inr ⟨g, cap, cur, hv, hg, by rw [hb.block g (by have := (Array.getElem?_eq_some_iff.1 hh).1; omega)]; exact hh, r⟩

theorem Own.mono {base base' : Nat} {w : World} {v : Value} {xs : List Int} (h : Own base w v xs) (hb : base' ≤ base) : Own base' w v xs := by
  refine ⟨h.1, ?_⟩
  rcases h.2 with h3 | ⟨g, cap, cur, hv, hg, r⟩
  · exact .inl h3
  · exact .inr ⟨g, cap, cur, hv, by omega, r⟩

/-- Only draws between w and w'. -/
def Drew (w w' : World) : Prop := ∃ nq, w' = w.drewN nq
theorem Drew.refl (w : World) : Drew w w := ⟨0, rfl⟩
theorem Drew.one (w : World) (n : Nat) : Drew w (w.drewN n) := ⟨n, rfl⟩
theorem Drew.two (w : World) (n m : Nat) : Drew w ((w.drewN n).drewN m) := ⟨_, World.drewN_drewN _ _ _⟩
theorem Drew.below {w w' : World} (h : Drew w w') (B : Nat) : Below B w w' := by
  obtain ⟨n, rfl⟩ := h
  exact below_drewN (Below.refl _ _) n

theorem info64 : (Try.prog.info? 2).map (fun i => (i.zero, i.size, i.bytes)) = some (some (.int .i64 0), 1, 8) := by kernel_rfl

theorem map_set (xs : List Int) (k : Nat) (x : Int) : (xs.map (Value.int .i64)).set k (.int .i64 x) = (xs.set k x).map (Value.int .i64) := by
  simp

theorem ret_bool {a b : Bool} (h : a = b) : Ending.returned (.bool a) = .returned (.bool b) := by rw [h]
theorem ret_int {k : IntKind} {a b : Int} (h : a = b) : Ending.returned (.int k a) = .returned (.int k b) := by rw [h]

theorem bytes_i64 {xs : List Int} (h : ∀ x ∈ xs, 0 ≤ x ∧ x ≤ 255) : AllI64 xs := fun x hx => by have := h x hx; unfold I64; omega

/-- A fresh slice of the numbers xs. -/
def NewInts (xs : List Int) (w : World) (e : Ending) (w' : World) : Prop := ∃ v, e = .returned v ∧ Own w.heap.size w' v xs ∧ Below w.heap.size w w'

/-- What every law answers. -/
def Yes (w : World) (e : Ending) (w' : World) : Prop := e = .returned (.bool true) ∧ Below w.heap.size w w'

end Go.Proofs.Ytekjhcckepkmnaa
