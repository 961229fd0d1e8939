/-
  laws.big; what every law answers.
-/
import Derived.Test.YtedmcambijcmnaaBase
namespace Go.Proofs.Ytedmcambijcmnaa
open Go.RowKit

set_option maxHeartbeats 400000 in
theorem big_any (ao : Option Addr) (n cap : Nat) (w : World) :
    Calls Try.prog 7 #[.slice ao n cap] w fun e w' => e = .returned (.bool (decide (4096 < n))) ∧ w' = w := by
  go_enter Try.func7, Try.ntmps7
  go_wp2
  go_ret
  exact ⟨ret_bool (by simp; omega), rfl⟩

def Yes (w : World) (e : Ending) (w' : World) : Prop := e = .returned (.bool true) ∧ Below w.heap.size w w'

end Go.Proofs.Ytedmcambijcmnaa
