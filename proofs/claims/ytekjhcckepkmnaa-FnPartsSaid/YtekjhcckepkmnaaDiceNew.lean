/-
  New dice: spec.l1New.
-/
import Derived.Test.YtekjhcckepkmnaaDice
namespace Go.Proofs.Ytekjhcckepkmnaa
open Go.RowKit

/-- New dice. -/
def NewDice (w : World) (e : Ending) (w' : World) : Prop := e = .returned (.pointer (some ⟨w.heap.size, 0, none⟩)) ∧ Dice w.heap.size w.heap.size w' ∧ Below w.heap.size w w'

set_option maxHeartbeats 400000 in
theorem l1New_any (B : Nat) (ao : Option Addr) (n cap : Nat) (bs : List Int) (w : World) (hb : Bytes B w ao n cap bs) (hB : B ≤ w.heap.size) (hn : n ≤ 1099511627776) :
    Calls Try.prog 22 #[.slice ao n cap] w (NewDice w) := by
  go_enter Try.func22, Try.ntmps22
  go_wp2
  go_loop [3, 4] (fun sh si => ∃ (h : Int) (i : Nat), sh = .int .i64 h ∧ si = .int .i64 i ∧ i ≤ n ∧ 0 ≤ h ∧ h ≤ 1125899906842624) (fun _ si => n - (intOf si).toNat)
  case atStart => exact ⟨_, 0, rfl, rfl, Nat.zero_le _, by omega, by omega⟩
  case round =>
    obtain ⟨h, i, rfl, rfl, hi, hh0, hh1⟩ := hrel
    by_cases hlt : i < n
    · obtain ⟨b, off, rfl, hbB, hc, hr0, hr1⟩ := hb.at i hlt
      generalize bs.getD i 0 = y at hc hr0 hr1
      have e30 : ∀ n : Int, bits .and .i64 n 1073741823 = n % 1073741824 := i64_and30
      go_wp2
      go_round
      case rel => exact ⟨_, i + 1, rfl, by go_num, by omega, Int.emod_nonneg _ (by decide), by have := Int.emod_lt_of_pos (h * 293 + y + 11) (show (0 : Int) < 1073741824 by decide); omega⟩
      case measure => simp [intOf]; omega
    · go_wp2
      go_ret
      have hbel : Below w.heap.size w (w.alloc (Obj.cells #[.slice ao n cap, .int .i64 0, .int .i64 h] 63)) := (Below.refl _ _).alloc (Nat.le_refl _) _
      refine ⟨rfl, ⟨Nat.le_refl _, by simp, ⟨ao, n, cap, bs, hb.below hbel hB hB, by go_simp, 0, Nat.zero_le _, by go_simp, h, by unfold I64; omega, by go_simp⟩, fun o => by go_simp⟩, hbel⟩

end Go.Proofs.Ytekjhcckepkmnaa
