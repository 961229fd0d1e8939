import Derived.Test.YtmlabdoncdadmaaCopy
import Derived.Test.YtmlabdoncdadmaaEq
import Derived.Test.YtmlabdoncdadmaaBytesOk
namespace Go.Proofs.Ytmlabdoncdadmaa
open Go.RowKit

/-- A fresh copy, as a slice that can be read. -/
def Fresh (w w' : World) (v : Value) (xs : List Int) : Prop := ∃ ao cap, v = .slice ao xs.length cap ∧ Own w.heap.size w' v xs ∧ Ints w'.heap.size w' ao xs.length cap xs ∧ Below w.heap.size w w'

theorem toInt64S_fresh (B : Nat) (ao : Option Addr) (n cap : Nat) (xs : List Int) (w : World) (hx : Ints B w ao n cap xs) (hB : B ≤ w.heap.size) (hn : n ≤ 17592186044416) :
    Calls Try.prog 18 #[.slice ao n cap] w fun e w' => ∃ a1 c1, e = .returned (.slice a1 n c1) ∧ Own w.heap.size w' (.slice a1 n c1) xs ∧ Ints w'.heap.size w' a1 n c1 xs ∧ Below w.heap.size w w' :=
  (toInt64S_any B ao n cap xs w hx hB hn).mono fun e w' ⟨v, he, ho, hb⟩ => by
    obtain ⟨a1, c1, rfl, hi⟩ := ho.ints hx.wf
    have := hx.hlen
    subst this
    exact ⟨a1, c1, he, ho, hi, hb⟩

set_option maxHeartbeats 400000 in
theorem exactBytesOk_any (ao : Option Addr) (n cap : Nat) (xs : List Int) (w : World) (hx : Ints w.heap.size w ao n cap xs) :
    Calls Try.prog 4 #[.slice ao n cap] w fun e w' => e = .returned (.bool true) ∧ Below w.heap.size w w' := by
  have hx1 := hx.hcap; have hx2 := hx.hmax
  unfold maxLen at hx2
  by_cases hbig : 1048576 < n
  · go_enter Try.func4, Try.ntmps4
    go_wp2
    go_ret
    exact ⟨rfl, Below.refl _ _⟩
  · go_enter Try.func4, Try.ntmps4
    go_wp2_with fail
    refine (toInt64S_fresh _ _ _ _ xs _ hx (Nat.le_refl _) (by omega)).mono ?_
    rintro e w1 ⟨a1, c1, rfl, ho1, hi1, hb1⟩
    go_wp2_with fail
    refine (specBytesOk_any _ _ _ _ xs _ hi1).mono ?_
    rintro e w2 ⟨rfl, rfl⟩
    go_wp2_with fail
    have hx' := hx.below hb1 (Nat.le_refl _) hb1.size
    refine (toInt64S_fresh _ _ _ _ xs _ hx' (Nat.le_refl _) (by omega)).mono ?_
    rintro e w3 ⟨a3, c3, rfl, ho3, hi3, hb3⟩
    go_wp2_with fail
    refine (implBytesOk_any _ _ _ _ xs _ hi3).mono ?_
    rintro e w4 ⟨rfl, rfl⟩
    go_wp2_with fail
    have hx'' := hx'.below hb3 (Nat.le_refl _) hb3.size
    refine (toInt64S_fresh _ _ _ _ xs _ hx'' (Nat.le_refl _) (by omega)).mono ?_
    rintro e w5 ⟨a5, c5, rfl, ho5, hi5, hb5⟩
    go_wp2_with fail
    have hi3' := hi3.below hb5 (Nat.le_refl _) hb5.size
    refine (eqInt64S_any _ _ _ _ _ _ _ _ xs xs _ hi3' hi5).mono ?_
    rintro e w6 ⟨rfl, hd⟩
    rw [decide_eq_true rfl]
    go_wp2_with fail
    go_ret
    exact ⟨rfl, ((hb1.trans (hb3.mono hb1.size)).trans (hb5.mono (Nat.le_trans hb1.size hb3.size))).trans (hd.below _)⟩

end Go.Proofs.Ytmlabdoncdadmaa
