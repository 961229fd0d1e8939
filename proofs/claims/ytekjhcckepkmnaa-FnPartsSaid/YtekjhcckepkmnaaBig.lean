/-
  laws.big; what every law answers.
-/
import Derived.Test.YtekjhcckepkmnaaBase
namespace Go.Proofs.Ytekjhcckepkmnaa
open Go.RowKit

set_option maxHeartbeats 400000 in
theorem big_any (ao : Option Addr) (n cap : Nat) (w : World) :
    Calls Try.prog 5 #[.slice ao n cap] w fun e w' => e = .returned (.bool (decide (4096 < n))) ∧ w' = w := by
  go_enter Try.func5, Try.ntmps5
  go_wp2
  go_ret
  exact ⟨ret_bool (by simp; omega), rfl⟩

end Go.Proofs.Ytekjhcckepkmnaa
