/-
  laws.heldEntryS finds what was marked.
-/
import Derived.Test.YtekjhcckepkmnaaMarkE
namespace Go.Proofs.Ytekjhcckepkmnaa
open Go.RowKit

set_option maxHeartbeats 1000000 in
theorem heldEntryS_any (B : Nat) (ao : Option Addr) (n cap : Nat) (k : Int) (w : World) (hx : Ents B w ao n cap (marksE k n)) (hk0 : 0 ≤ k) (hk : k ≤ 1152921504606846976) (hn : n ≤ 1048576) :
    Calls Try.prog 21 #[.slice ao n cap, .int .i64 k] w fun e w' => e = .returned (.int .i64 (k + 4 * n)) ∧ w' = w := by
  go_enter Try.func21, Try.ntmps21
  go_wp2
  go_loop [1, 5] (fun sk si => ∃ j : Nat, j ≤ n ∧ si = .int .i64 j ∧ sk = .int .i64 (k + 4 * j)) (fun _ si => n - (intOf si).toNat)
  case atStart => exact ⟨0, Nat.zero_le _, rfl, by simp⟩
  case round =>
    obtain ⟨j, hj, rfl, rfl⟩ := hrel
    by_cases hlt : j < n
    · obtain ⟨b, off, rfl, hbB, hcell⟩ := hx.at j hlt
      have g1 := hcell j hlt
      rw [marksE_get k n j hlt] at g1
      obtain ⟨q0, q1, q2, q3⟩ := g1
      simp only [markE] at q0 q1 q2 q3
      clear hcell
      have i1 : (0 : Int) ≤ j := by omega
      have i2 : (j : Int) < n := by omega
      go_wp2
      go_round
      case rel => exact ⟨j + 1, by omega, by go_num, by go_num⟩
      case measure => simp [intOf]; omega
    · have ej : j = n := by omega
      subst ej
      go_wp2
      go_ret
      exact ⟨rfl, rfl⟩

end Go.Proofs.Ytekjhcckepkmnaa
