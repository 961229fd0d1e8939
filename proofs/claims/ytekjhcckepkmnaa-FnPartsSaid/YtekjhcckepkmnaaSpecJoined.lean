/-
  spec.Joined.
-/
import Derived.Test.YtekjhcckepkmnaaL7Join
namespace Go.Proofs.Ytekjhcckepkmnaa
open Go.RowKit

set_option maxHeartbeats 1000000 in
set_option maxRecDepth 100000 in
theorem specJoined_any (B : Nat) (ao1 : Option Addr) (n1 cap1 : Nat) (xs : List Ent) (ao2 : Option Addr) (n2 cap2 : Nat) (ys : List Ent) (w : World)
    (hx1 : Ents B w ao1 n1 cap1 xs) (hx2 : Ents B w ao2 n2 cap2 ys) (hB : B ≤ w.heap.size) :
    Calls Try.prog 12 #[.slice ao1 n1 cap1, .slice ao2 n2 cap2] w (MaybeEs (joinR xs ys) w) := by
  have h1 := specBookOk_any B ao1 n1 cap1 xs w hx1 hB
  have h2 := fun w' (hb : Below w.heap.size w w') => specBookOk_any B ao2 n2 cap2 ys w' (hx2.below hb hB (Nat.le_refl B)) (by have := hb.size; omega)
  have hj := fun (ho1 : bookOk xs = true) (ho2 : bookOk ys = true) w' (hb : Below w.heap.size w w') => l7Join_any B ao1 n1 cap1 xs ao2 n2 cap2 ys w' (hx1.below hb hB (Nat.le_refl B)) (hx2.below hb hB (Nat.le_refl B)) (by have := hb.size; omega) ho1 ho2
  have hjw := join_wf hx1.wf hx2.wf
  have hno : bookOk xs = false ∨ bookOk ys = false ∨ bookOk (joinE xs ys) = false → joinR xs ys = none := joinR_no
  have hyes : bookOk xs = true → bookOk ys = true → bookOk (joinE xs ys) = true → joinR xs ys = some (joinE xs ys) := joinR_yes
  generalize joinR xs ys = r at hno hyes
  generalize joinE xs ys = js at hj hjw hno hyes
  generalize bookOk xs = b1 at h1 hj hno hyes
  generalize bookOk ys = b2 at h2 hj hno hyes
  have HN := Lib.hid hno; have HY := Lib.hid hyes; have HJ := Lib.hid hj; have H2 := Lib.hid h2; clear hno hyes hj h2 hx1 hx2
  go_enter Try.func12, Try.ntmps12
  go_wp2_with fail
  refine h1.mono ?_
  rintro e w1 ⟨rfl, hb1⟩
  rcases b1 with _ | _
  · go_wp2_with fail
    go_ret2
    exact maybe_none (HN.out (.inl (by first | rfl | trivial))) hb1
  · go_wp2_with fail
    refine (H2.out _ hb1).mono ?_
    rintro e w2 ⟨rfl, hb2⟩
    have hB2 := hb1.trans (hb2.mono hb1.size)
    rcases b2 with _ | _
    · go_wp2_with fail
      go_ret2
      exact maybe_none (HN.out (.inr (.inl (by first | rfl | trivial)))) hB2
    · go_wp2_with fail
      refine (HJ.out (by first | rfl | trivial) (by first | rfl | trivial) _ hB2).mono ?_
      rintro e w3 ⟨v3, rfl, hown3, hb3⟩
      have hB3 := hB2.trans (hb3.mono hB2.size)
      have hown3k := hown3
      obtain ⟨a3, c3, rfl, hi3, -⟩ := hown3.ents hjw
      have h3 := specBookOk_any _ _ _ _ _ _ hi3 (Nat.le_refl _)
      have hno3 : bookOk js = false → r = none := fun h => HN.out (.inr (.inr h))
      have hyes3 : bookOk js = true → r = some js := fun h => HY.out (by first | rfl | trivial) (by first | rfl | trivial) h
      clear HN HY hown3 HJ H2
      generalize bookOk js = b3 at h3 hno3 hyes3
      have HN3 := Lib.hid hno3; have HY3 := Lib.hid hyes3; clear hno3 hyes3
      go_wp2_with fail
      refine h3.mono ?_
      rintro e w4 ⟨rfl, hb4⟩
      have hB4 := hB3.trans (hb4.mono hB3.size)
      rcases b3 with _ | _
      · go_wp2_with fail
        go_ret2
        exact maybe_none (HN3.out (by first | rfl | trivial)) hB4
      · have hr : r = some js := HY3.out (by first | rfl | trivial)
        have HR := Lib.hid hr; clear hr
        go_wp2_with fail
        go_ret2
        rw [HR.out]
        exact ⟨_, rfl, (hown3k.below hb4 (Nat.le_refl _)).mono hB2.size, hB4⟩

end Go.Proofs.Ytekjhcckepkmnaa
