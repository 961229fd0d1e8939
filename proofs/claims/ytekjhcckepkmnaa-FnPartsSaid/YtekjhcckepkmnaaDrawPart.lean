/-
  What is drawn for chapter 10: a book and a vector.
-/
import Derived.Test.YtekjhcckepkmnaaDraw4
import Derived.Test.YtekjhcckepkmnaaDraw5
import Derived.Test.YtekjhcckepkmnaaDiceNew
namespace Go.Proofs.Ytekjhcckepkmnaa
open Go.RowKit

def PartDrawn (w : World) (e : Ending) (w' : World) : Prop := ∃ v es a n c xs, e = .returned (.tuple #[v, .slice a n c]) ∧ OwnE w.heap.size w' v es ∧ AllE es ∧ es.length ≤ 100 ∧ Ints w'.heap.size w' a n c xs ∧ n ≤ 4 ∧ Below w.heap.size w w'

set_option maxHeartbeats 1000000 in
theorem drawPartFor_any (B : Nat) (ao : Option Addr) (n cap : Nat) (bs : List Int) (w : World) (hb : Bytes B w ao n cap bs) (hB : B ≤ w.heap.size) (hn : n ≤ 1099511627776) :
    Calls Try.prog 6 #[.slice ao n cap] w (PartDrawn w) := by
  go_enter Try.func6, Try.ntmps6
  go_wp2_with fail
  refine (l1New_any B _ _ _ bs _ hb hB hn).mono ?_
  rintro e w1 ⟨rfl, hd1, hb1⟩
  have hg := hd1.hg
  go_wp2_with fail
  refine (l4DrawAny_any _ _ _ hd1).mono ?_
  rintro e w2 ⟨v, es, rfl, hown, hall, hlen, hk, hd2⟩
  go_wp2_with fail
  refine (l5DrawAny_any _ _ _ hd2).mono ?_
  rintro e w3 ⟨a, m, c, xs, rfl, hi, hf, hm, -, hk3, hd3⟩
  go_wp2_with fail
  go_ret2
  exact ⟨v, es, a, m, c, xs, rfl, (hown.keeps hk3 hg).mono hb1.size, hall, by omega, hi, hm, hb1.trans ((hk.trans hk3).below (Nat.le_refl _) hb1.size)⟩

end Go.Proofs.Ytekjhcckepkmnaa
