/- Texts of this claim, put together. -/
import Derived.Test.YtoniahfdjhhalaaGreatP1
import Derived.Test.YtoniahfdjhhalaaGreatP4

namespace Go.Proofs.YtoniahfdjhhalaaGreat
open Go.RowKit
set_option maxHeartbeats 1000000 in
set_option maxRecDepth 100000 in
theorem l16Has_any (an : Option Addr) (nn cn : Nat) (af : Option Addr) (nf cf : Nat) (x : Int) (w : World) (hn : nn ≤ 1048576) :
    Calls Tryz.prog 53 #[.agg #[.slice an nn cn, .slice af nf cf], .int .i64 x] w (fun e w' => e = .returned (.bool (inB x 0 ((nn : Int) - 1))) ∧ Below w.heap.size w w') := by
  have hb0 : Below w.heap.size w (w.alloc (.cells #[.slice an nn cn, .slice af nf cf] 33)) := (Below.refl _ _).alloc (Nat.le_refl _) _
  have e1 : IntKind.i64.wrap ((nn : Int) - 1) = (nn : Int) - 1 := by rw [IntKind.wrap_i64]; omega
  have h := fun w => l1In_any x 0 ((nn : Int) - 1) w
  go_enter Tryz.func53, Tryz.ntmps53
  go_wp2_with fail
  refine (h _).mono ?_
  rintro e w' ⟨rfl, rfl⟩
  go_wp2_with fail
  go_ret
  exact ⟨rfl, hb0⟩
end Go.Proofs.YtoniahfdjhhalaaGreat
