/-
  A call that writes into one block alone (Only).
-/
import Derived.Test.YtekjhcckepkmnaaBase
namespace Go.Proofs.Ytekjhcckepkmnaa
open Go.RowKit

/-- All but block g is as it was; no block is new. -/
structure Only (g : Nat) (w w' : World) : Prop where
  grown : w.grownBy w' (some g)
  size : w'.heap.size = w.heap.size

theorem Only.refl (g : Nat) (w : World) : Only g w w := ⟨World.grownBy.refl _ _, rfl⟩
theorem Only.trans {g : Nat} {a b c : World} (h : Only g a b) (k : Only g b c) : Only g a c :=
  ⟨⟨k.grown.os.trans h.grown.os, k.grown.tape.trans h.grown.tape, k.grown.output.trans h.grown.output, Nat.le_trans h.grown.size k.grown.size, fun i hi hne => (k.grown.block i (by have := h.size; omega) hne).trans (h.grown.block i hi hne)⟩, k.size.trans h.size⟩
theorem Only.drewN {g : Nat} {a b : World} (h : Only g a b) (n : Nat) : Only g a (b.drewN n) :=
  h.trans ⟨⟨rfl, rfl, rfl, Nat.le_refl _, fun _ _ _ => rfl⟩, rfl⟩
theorem Only.setCell {g : Nat} {a b : World} (h : Only g a b) (o : Nat) (u : Value) : Only g a (b.setCell ⟨g, o, none⟩ u) :=
  h.trans ⟨⟨rfl, rfl, rfl, by simp [World.setCell], fun k _ hne => Below.heap_setCell _ _ _ _ (fun e => hne (by rw [e]))⟩, by simp [World.setCell]⟩
theorem Only.below {g : Nat} {w w' : World} (h : Only g w w') {B : Nat} (hB : B ≤ g) (hs : B ≤ w.heap.size) : Below B w w' :=
  ⟨h.grown.os, h.grown.tape, h.grown.output, h.grown.size, fun k hk => h.grown.block k (by omega) (fun e => by cases e; omega)⟩
theorem Only.cell {g : Nat} {w w' : World} (h : Only g w w') {a : Addr} {v : Value} (hc : w.cell? a = some v) (hne : a.block ≠ g) : w'.cell? a = some v :=
  h.grown.cell hc (fun e => hne (Option.some.inj e))

theorem Ints.only {B g : Nat} {w w' : World} {ao : Option Addr} {n cap : Nat} {xs : List Int} (h : Ints B w ao n cap xs) (hb : Only g w w') (hg : B ≤ g) : Ints B w' ao n cap xs :=
  ⟨h.hlen, h.hcap, h.hmax, fun j hj => by
    obtain ⟨b, off, e, hlt, hc⟩ := h.cell j hj
    exact ⟨b, off, e, hlt, hb.cell hc (by show b ≠ g; omega)⟩, h.wf⟩

/-- All blocks but g are as they were; there may be new ones. -/
def Keeps (g : Nat) (w w' : World) : Prop := w.grownBy w' (some g)
theorem Only.keeps {g : Nat} {w w' : World} (h : Only g w w') : Keeps g w w' := h.grown
theorem Keeps.refl (g : Nat) (w : World) : Keeps g w w := World.grownBy.refl _ _
theorem Keeps.trans {g : Nat} {a b c : World} (h : Keeps g a b) (k : Keeps g b c) : Keeps g a c :=
  ⟨k.os.trans h.os, k.tape.trans h.tape, k.output.trans h.output, Nat.le_trans h.size k.size, fun i hi hne => (k.block i (by have := h.size; omega) hne).trans (h.block i hi hne)⟩
theorem Keeps.alloc (g : Nat) (w : World) (o : Obj) : Keeps g w (w.alloc o) := World.grownBy_alloc w o _
theorem Keeps.drewN {g : Nat} {a b : World} (h : Keeps g a b) (n : Nat) : Keeps g a (b.drewN n) := ⟨h.os, h.tape, h.output, h.size, h.block⟩
theorem Keeps.below {g : Nat} {w w' : World} (h : Keeps g w w') {B : Nat} (hB : B ≤ g) (hs : B ≤ w.heap.size) : Below B w w' :=
  ⟨h.os, h.tape, h.output, h.size, fun k hk => h.block k (by omega) (fun e => by cases e; omega)⟩
theorem Keeps.of_below {g : Nat} {w w' : World} (h : Below w.heap.size w w') : Keeps g w w' :=
  ⟨h.os, h.tape, h.output, h.size, fun k hk _ => h.block k hk⟩
theorem Keeps.then_below {g : Nat} {a b c : World} (h : Keeps g a b) (k : Below a.heap.size b c) : Keeps g a c :=
  ⟨k.os.trans h.os, k.tape.trans h.tape, k.output.trans h.output, Nat.le_trans h.size k.size, fun i hi hne => (k.block i hi).trans (h.block i hi hne)⟩

theorem row_older {base base' size size' n n' : Nat} {t t' : TypeId} {w w' w1 : World} {v v' : Value} {xs ys : List Value} (h : w.ownsRow base t size v n xs) (h' : w1.ownsRow base' t' size' v' n' ys) (hs : w1.heap.size ≤ base) (hg : w.grownBy w' v'.ownBlock) : w'.ownsRow base t size v n xs := by
  refine World.ownsRow.kept h hg ?_
  cases hv : v.ownBlock with
  | none => exact .inl rfl
  | some k =>
    right
    intro e
    have h1 := (World.ownsRow.lt h k hv).1
    have h2 := (World.ownsRow.lt h' k e.symm).2
    omega

theorem Own.keeps {base g : Nat} {w w' : World} {v : Value} {xs : List Int} (h : Own base w v xs) (hb : Keeps g w w') (hg : g < base) : Own base w' v xs := by
  refine World.ownsRow.kept h hb ?_
  cases hv : v.ownBlock with
  | none => exact .inl rfl
  | some k =>
    right
    intro e
    have := (World.ownsRow.lt h k hv).1
    have e2 : k = g := Option.some.inj e
    omega

end Go.Proofs.Ytekjhcckepkmnaa
