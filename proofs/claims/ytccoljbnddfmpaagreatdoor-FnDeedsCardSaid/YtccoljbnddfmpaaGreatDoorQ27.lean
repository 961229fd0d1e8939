/- Texts of this claim, put together. -/
import Derived.Test.YtccoljbnddfmpaaGreatDoorQ1
import Derived.Test.YtccoljbnddfmpaaGreatDoorQ20
import Derived.Test.YtccoljbnddfmpaaGreatDoorQ25

namespace Go.Proofs.YtccoljbnddfmpaaGreatDoor
open Go.RowKit
def ND (nds : List Nd) (j : Nat) : Nd := nds.getD j zeroNd
theorem ND_get {nds : List Nd} {j : Nat} (h : j < nds.length) : ND nds j = nds[j] := by simp [ND, List.getD, h]
def NodeC (B : Nat) (w : World) (b o : Nat) (nd : Nd) : Prop := ∃ ab nb cb aa na ca,
  w.cell? ⟨b, o, none⟩ = some (.int .i64 nd.me) ∧ w.cell? ⟨b, o + 1, none⟩ = some (.slice ab nb cb) ∧ w.cell? ⟨b, o + 2, none⟩ = some (.slice aa na ca) ∧
  Ents B w ab nb cb nd.book ∧ (ab = none → cb = 0) ∧ Rws B w aa na ca nd.acks
theorem NodeC.below {B B' C b o : Nat} {w w' : World} {nd : Nd} (h : NodeC B w b o nd) (hb : Below C w w') (hbC : b < C) (hC : B ≤ C) (hB : B ≤ B') : NodeC B' w' b o nd := by
  obtain ⟨ab, nb, cb, aa, na, ca, h0, h1, h2, he, hz, hr⟩ := h
  exact ⟨ab, nb, cb, aa, na, ca, (hb.cell (p := ⟨b, o, none⟩) hbC).trans h0, (hb.cell (p := ⟨b, o + 1, none⟩) hbC).trans h1, (hb.cell (p := ⟨b, o + 2, none⟩) hbC).trans h2, he.below hb hC hB, hz, hr.below hb hC hB⟩
structure Nds (B : Nat) (w : World) (ao : Option Addr) (n cap : Nat) (nds : List Nd) : Prop where
  hlen : nds.length = n
  hcap : n ≤ cap
  hmax : cap ≤ maxLen
  cell : ∀ j, j < n → ∃ b off, ao = some ⟨b, off, none⟩ ∧ b < B ∧ NodeC B w b (off + j * 3) (ND nds j)
theorem Nds.below {B B' C : Nat} {w w' : World} {ao : Option Addr} {n cap : Nat} {nds : List Nd} (h : Nds B w ao n cap nds) (hb : Below C w w') (hC : B ≤ C) (hB : B ≤ B') : Nds B' w' ao n cap nds :=
  ⟨h.hlen, h.hcap, h.hmax, fun j hj => by
    obtain ⟨b, off, e, hlt, hc⟩ := h.cell j hj
    exact ⟨b, off, e, by omega, hc.below hb (by omega) hC hB⟩⟩
theorem Nds.at {B : Nat} {w : World} {ao : Option Addr} {n cap : Nat} {nds : List Nd} (h : Nds B w ao n cap nds) (k : Nat) (hk : k < n) :
    ∃ b off, ao = some ⟨b, off, none⟩ ∧ b < B ∧ ∀ j, j < n → NodeC B w b (off + j * 3) (ND nds j) := by
  obtain ⟨b, off, e, hb, _⟩ := h.cell k hk
  refine ⟨b, off, e, hb, fun j hj => ?_⟩
  obtain ⟨b', off', e', _, hc⟩ := h.cell j hj
  rw [e] at e'
  cases e'
  exact hc
def NodesUp (nds : List Nd) (k : Nat) : Prop := ∀ i : Nat, i < k → nodeOk (ND nds i).me (ND nds i).book (ND nds i).acks = true ∧ (ND nds i).me = i
instance (nds : List Nd) (k : Nat) : Decidable (NodesUp nds k) := by unfold NodesUp; infer_instance
end Go.Proofs.YtccoljbnddfmpaaGreatDoor
