/-
  The cursor of impl: a struct of a list and a place, behind a pointer.
-/
import Derived.Test.YtmlabdoncdadmaaBase
namespace Go.Proofs.Ytmlabdoncdadmaa
open Go.RowKit

/-- Block g is a cursor over the slice (ao, n, cap), at its place. -/
structure Cur (w : World) (g : Nat) (ao : Option Addr) (n cap : Nat) (at' : Int) : Prop where
  list : w.cell? ⟨g, 0, none⟩ = some (.slice ao n cap)
  place : w.cell? ⟨g, 1, none⟩ = some (.int .i64 at')
  free : w.frozen? ⟨g, 1, none⟩ = false

/-- All but block g is as it was; no block is new. -/
structure Only (g : Nat) (w w' : World) : Prop where
  grown : w.grownBy w' (some g)
  size : w'.heap.size = w.heap.size

theorem Only.refl (g : Nat) (w : World) : Only g w w := ⟨World.grownBy.refl _ _, rfl⟩
theorem Only.trans {g : Nat} {a b c : World} (h : Only g a b) (k : Only g b c) : Only g a c :=
  ⟨⟨k.grown.os.trans h.grown.os, k.grown.tape.trans h.grown.tape, k.grown.output.trans h.grown.output, Nat.le_trans h.grown.size k.grown.size, fun i hi hne => (k.grown.block i (by have := h.size; omega) hne).trans (h.grown.block i hi hne)⟩, k.size.trans h.size⟩
theorem Only.drewN {g : Nat} {a b : World} (h : Only g a b) (n : Nat) : Only g a (b.drewN n) :=
  h.trans ⟨⟨rfl, rfl, rfl, Nat.le_refl _, fun _ _ _ => rfl⟩, rfl⟩
theorem Only.setCell {g : Nat} {a b : World} (h : Only g a b) (o : Nat) (u : Value) : Only g a (b.setCell ⟨g, o, none⟩ u) :=
  h.trans ⟨⟨rfl, rfl, rfl, by simp [World.setCell], fun k _ hne => Below.heap_setCell _ _ _ _ (fun e => hne (by rw [e]))⟩, by simp [World.setCell]⟩
theorem Only.below {g : Nat} {w w' : World} (h : Only g w w') {B : Nat} (hB : B ≤ g) (hs : B ≤ w.heap.size) : Below B w w' :=
  ⟨h.grown.os, h.grown.tape, h.grown.output, h.grown.size, fun k hk => h.grown.block k (by omega) (fun e => by cases e; omega)⟩
theorem Only.cell {g : Nat} {w w' : World} (h : Only g w w') {a : Addr} {v : Value} (hc : w.cell? a = some v) (hne : a.block ≠ g) : w'.cell? a = some v :=
  h.grown.cell hc (fun e => hne (Option.some.inj e))

theorem Ints.only {B g : Nat} {w w' : World} {ao : Option Addr} {n cap : Nat} {xs : List Int} (h : Ints B w ao n cap xs) (hb : Only g w w') (hg : B ≤ g) : Ints B w' ao n cap xs :=
  ⟨h.hlen, h.hcap, h.hmax, fun j hj => by
    obtain ⟨b, off, e, hlt, hc⟩ := h.cell j hj
    exact ⟨b, off, e, hlt, hb.cell hc (by show b ≠ g; omega)⟩, h.wf⟩

theorem Cur.drewN {w : World} {g : Nat} {ao : Option Addr} {n cap : Nat} {p : Int} (h : Cur w g ao n cap p) (k : Nat) : Cur (w.drewN k) g ao n cap p := ⟨h.list, h.place, h.free⟩

theorem Cur.moved {w : World} {g : Nat} {ao : Option Addr} {n cap : Nat} {p : Int} (h : Cur w g ao n cap p) (q : Int) : Cur (w.setCell ⟨g, 1, none⟩ (.int .i64 q)) g ao n cap q := by
  have h1 := h.list; have h2 := h.place; have h3 := h.free
  refine ⟨?_, ?_, ?_⟩
  · go_simp
  · go_simp
  · go_simp

set_option maxHeartbeats 400000 in
/-- The next byte is there. -/
theorem next_yes (g B : Nat) (ao : Option Addr) (n cap : Nat) (xs : List Int) (k : Nat) (w : World) (hx : Ints B w ao n cap xs) (hc : Cur w g ao n cap k) (hk : k < n) :
    Calls Try.prog 36 #[.pointer (some ⟨g, 0, none⟩)] w fun e w' => e = .returned (.tuple #[.int .i64 (xs.getD k 0), .bool true]) ∧ ∃ q, w' = (w.drewN q).setCell ⟨g, 1, none⟩ (.int .i64 (k + 1)) := by
  have hx1 := hx.hcap; have hx2 := hx.hmax
  unfold maxLen at hx2
  obtain ⟨b, off, rfl, hbB, hcell⟩ := hx.at k hk
  have g1 := hcell k hk
  clear hcell
  generalize xs.getD k 0 = x at g1
  obtain ⟨h1, h2, h3⟩ := hc
  have i1 : (0 : Int) ≤ k := by omega
  have i2 : (k : Int) < n := by omega
  have i3 : decide ((k : Int) < 0) = false := decide_eq_false (by omega)
  have i4 : decide ((n : Int) ≤ k) = false := decide_eq_false (by omega)
  go_enter Try.func36, Try.ntmps36
  go_wp2
  go_quiet (fail)
  go_wp2
  go_quiet (fail)
  go_wp2
  go_ret2
  exact ⟨rfl, by first | exact ⟨_, by rw [World.drewN_drewN]⟩ | exact ⟨_, rfl⟩⟩

set_option maxHeartbeats 400000 in
/-- There is no next byte. -/
theorem next_no (g : Nat) (ao : Option Addr) (n cap : Nat) (p : Int) (w : World) (hc : Cur w g ao n cap p) (hp : p < 0 ∨ (n : Int) ≤ p) :
    Calls Try.prog 36 #[.pointer (some ⟨g, 0, none⟩)] w fun e w' => e = .returned (.tuple #[.int .i64 0, .bool false]) ∧ Drew w w' := by
  obtain ⟨h1, h2, h3⟩ := hc
  by_cases hp0 : p < 0
  · have i3 : decide (p < 0) = true := by simpa using hp0
    go_enter Try.func36, Try.ntmps36
    go_wp2
    go_quiet (fail)
    go_wp2
    go_ret2
    exact ⟨rfl, by first | exact Drew.two _ _ _ | exact Drew.one _ _⟩
  · have i3 : decide (p < 0) = false := by simpa using hp0
    have i4 : decide ((n : Int) ≤ p) = true := decide_eq_true (by omega)
    have i5 : (n : Int) ≤ p := by omega
    go_enter Try.func36, Try.ntmps36
    go_wp2
    go_quiet (fail)
    go_wp2
    go_ret2
    exact ⟨rfl, by first | exact Drew.two _ _ _ | exact Drew.one _ _⟩

end Go.Proofs.Ytmlabdoncdadmaa
