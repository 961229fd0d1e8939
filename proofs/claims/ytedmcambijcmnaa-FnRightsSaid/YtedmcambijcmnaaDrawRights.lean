/-
  What is drawn for chapter 6.
-/
import Derived.Test.YtedmcambijcmnaaDraw4
import Derived.Test.YtedmcambijcmnaaDiceNew
namespace Go.Proofs.Ytedmcambijcmnaa
open Go.RowKit

set_option maxHeartbeats 1000000 in
theorem drawMadeIn_any (B : Nat) (ao : Option Addr) (n cap : Nat) (bs : List Int) (w : World) (hb : Bytes B w ao n cap bs) (hB : B ≤ w.heap.size) (hn : n ≤ 1099511627776) :
    Calls Try.prog 9 #[.slice ao n cap] w (EsDrawn w) := by
  go_enter Try.func9, Try.ntmps9
  go_wp2_with fail
  refine (l1New_any B _ _ _ bs _ hb hB hn).mono ?_
  rintro e w1 ⟨rfl, hd1, hb1⟩
  go_wp2_with fail
  refine (l4DrawAny_any _ _ _ hd1).mono ?_
  rintro e w2 ⟨v, es, rfl, hown, hall, hlen, hk, hd2⟩
  go_wp2_with fail
  go_ret
  exact ⟨v, es, rfl, hown.mono hb1.size, hall, hlen, hb1.trans (hk.below (Nat.le_refl _) hb1.size)⟩

set_option maxHeartbeats 1000000 in
theorem drawSpentIn_any (B : Nat) (ao : Option Addr) (n cap : Nat) (bs : List Int) (w : World) (hb : Bytes B w ao n cap bs) (hB : B ≤ w.heap.size) (hn : n ≤ 1099511627776) :
    Calls Try.prog 10 #[.slice ao n cap] w (EsDrawn w) := by
  go_enter Try.func10, Try.ntmps10
  go_wp2_with fail
  refine (l1New_any B _ _ _ bs _ hb hB hn).mono ?_
  rintro e w1 ⟨rfl, hd1, hb1⟩
  go_wp2_with fail
  refine (l4DrawAny_any _ _ _ hd1).mono ?_
  rintro e w2 ⟨v, es, rfl, hown, hall, hlen, hk, hd2⟩
  go_wp2_with fail
  go_ret
  exact ⟨v, es, rfl, hown.mono hb1.size, hall, hlen, hb1.trans (hk.below (Nat.le_refl _) hb1.size)⟩

/-- A drawn row of entries and a number. -/
def EsIntDrawn (w : World) (e : Ending) (w' : World) : Prop := ∃ v es o, e = .returned (.tuple #[v, .int .i64 o]) ∧ OwnE w.heap.size w' v es ∧ AllE es ∧ es.length ≤ 21 ∧ I64 o ∧ Below w.heap.size w w'

set_option maxHeartbeats 1000000 in
theorem drawHeldBy_any (B : Nat) (ao : Option Addr) (n cap : Nat) (bs : List Int) (w : World) (hb : Bytes B w ao n cap bs) (hB : B ≤ w.heap.size) (hn : n ≤ 1099511627776) :
    Calls Try.prog 8 #[.slice ao n cap] w (EsIntDrawn w) := by
  go_enter Try.func8, Try.ntmps8
  go_wp2_with fail
  refine (l1New_any B _ _ _ bs _ hb hB hn).mono ?_
  rintro e w1 ⟨rfl, hd1, hb1⟩
  have hg := hd1.hg
  go_wp2_with fail
  refine (l4DrawAny_any _ _ _ hd1).mono ?_
  rintro e w2 ⟨v, es, rfl, hown, hall, hlen, hk, hd2⟩
  go_wp2_with fail
  refine (l1From_any _ _ (-1) 4 _ hd2 (by decide) (by decide) (by decide) (by decide)).mono ?_
  rintro e w3 ⟨o, rfl, ho0, ho1, hn3, hd3⟩
  have hown3 := hown.keeps hn3.keeps hg
  go_wp2_with fail
  go_ret2
  exact ⟨v, es, o, rfl, hown3.mono hb1.size, hall, hlen, by unfold I64; omega, hb1.trans ((hk.trans hn3.keeps).below (Nat.le_refl _) hb1.size)⟩

end Go.Proofs.Ytedmcambijcmnaa
