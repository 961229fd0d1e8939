/-
  spec.AmountAt.
-/
import Derived.Test.YtekkjfhmabefoaaSpecL4Amount
namespace Go.Proofs.Ytekkjfhmabefoaa
open Go.RowKit

def amountAt (es : List Ent) (o s : Int) : Int := if bookOk es = true ∧ 0 ≤ o ∧ o ≤ 3 ∧ 0 ≤ s ∧ s ≤ 4 then amount es o s else -1
theorem amountAt_no {es : List Ent} {o s : Int} (h : bookOk es = false ∨ inB o 0 3 = false ∨ inB s 0 4 = false) : amountAt es o s = -1 := by
  rw [amountAt, if_neg]
  rintro ⟨h1, h2, h3, h4, h5⟩
  simp [inB] at h
  rcases h with h | h | h
  · rw [h1] at h; cases h
  · omega
  · omega
theorem amountAt_yes {es : List Ent} {o s : Int} (h1 : bookOk es = true) (h2 : inB o 0 3 = true) (h3 : inB s 0 4 = true) : amountAt es o s = amount es o s := by
  simp [inB] at h2 h3
  rw [amountAt, if_pos ⟨h1, h2.1, h2.2, h3.1, h3.2⟩]

set_option maxHeartbeats 1000000 in
theorem specAmountAt_any (B : Nat) (ao : Option Addr) (n cap : Nat) (es : List Ent) (o s : Int) (w : World) (hx : Ents B w ao n cap es) (hB : B ≤ w.heap.size) :
    Calls Try.prog 15 #[.slice ao n cap, .int .i64 o, .int .i64 s] w (Says (.int .i64 (amountAt es o s)) w) := by
  have h1 := specBookOk_any B ao n cap es w hx hB
  have h2 := fun w => l3Node_any o w
  have h3 := fun w => l3Slot_any s w
  have hno : bookOk es = false ∨ inB o 0 3 = false ∨ inB s 0 4 = false → amountAt es o s = -1 := amountAt_no
  have hyes : bookOk es = true → inB o 0 3 = true → inB s 0 4 = true → amountAt es o s = amount es o s := amountAt_yes
  generalize amountAt es o s = v at hno hyes
  generalize bookOk es = b1 at h1 hno hyes
  generalize inB o 0 3 = b2 at h2 hno hyes
  generalize inB s 0 4 = b3 at h3 hno hyes
  have HN := Lib.hid hno; have HY := Lib.hid hyes; clear hno hyes
  go_enter Try.func15, Try.ntmps15
  go_wp2_with fail
  refine h1.mono ?_
  rintro e w1 ⟨rfl, hb1⟩
  rcases b1 with _ | _
  · go_wp2_with fail
    go_ret
    exact ⟨ret_int (HN.out (.inl (by first | rfl | trivial))).symm, hb1⟩
  · go_wp2_with fail
    refine (h2 _).mono ?_
    rintro e w' ⟨rfl, rfl⟩
    rcases b2 with _ | _
    · go_wp2_with fail
      go_ret
      exact ⟨ret_int (HN.out (.inr (.inl (by first | rfl | trivial)))).symm, hb1⟩
    · go_wp2_with fail
      refine (h3 _).mono ?_
      rintro e w' ⟨rfl, rfl⟩
      rcases b3 with _ | _
      · go_wp2_with fail
        go_ret
        exact ⟨ret_int (HN.out (.inr (.inr (by first | rfl | trivial)))).symm, hb1⟩
      · go_wp2_with fail
        refine (l4Amount_any _ _ _ _ es o s _ (hx.below hb1 hB (Nat.le_refl _))).mono ?_
        rintro e w2 ⟨rfl, hd2⟩
        go_wp2_with fail
        go_ret
        exact ⟨ret_int (HY.out (by first | rfl | trivial) (by first | rfl | trivial) (by first | rfl | trivial)).symm, hb1.trans (hd2.below _)⟩

end Go.Proofs.Ytekkjfhmabefoaa
