/-
  What is drawn for chapter 5, a book.
-/
import Derived.Test.YtbpoojibbakpnaaDraw4
import Derived.Test.YtbpoojibbakpnaaDiceNew
namespace Go.Proofs.Ytbpoojibbakpnaa
open Go.RowKit

set_option maxHeartbeats 1000000 in
theorem drawVecOf_any (B : Nat) (ao : Option Addr) (n cap : Nat) (bs : List Int) (w : World) (hb : Bytes B w ao n cap bs) (hB : B ≤ w.heap.size) (hn : n ≤ 1099511627776) :
    Calls Try.prog 12 #[.slice ao n cap] w (EsDrawn w) := by
  go_enter Try.func12, Try.ntmps12
  go_wp2_with fail
  refine (l1New_any B _ _ _ bs _ hb hB hn).mono ?_
  rintro e w1 ⟨rfl, hd1, hb1⟩
  go_wp2_with fail
  refine (l4DrawAny_any _ _ _ hd1).mono ?_
  rintro e w2 ⟨v, es, rfl, hown, hall, hlen, hk, hd2⟩
  go_wp2_with fail
  go_ret
  exact ⟨v, es, rfl, hown.mono hb1.size, hall, hlen, hb1.trans (hk.below (Nat.le_refl _) hb1.size)⟩

end Go.Proofs.Ytbpoojibbakpnaa
