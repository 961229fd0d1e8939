/-
  Bits of int64 numbers from 0 on, as bits of naturals; the eight halvings (impl.eightHalved, spec.l2Step).
-/
import Derived.Test.YtdfcdemkmniknaaBase
import Derived.Test.YtdfcdemkmniknaaMath2
namespace Go.Proofs.Ytdfcdemkmniknaa
open Go.RowKit

theorem i64_xor_nat (a b : Nat) (ha : a < 4611686018427387904) (hb : b < 4611686018427387904) : bits .xor .i64 (a : Int) (b : Int) = ((a ^^^ b : Nat) : Int) := by
  have hx : a ^^^ b < 2 ^ 62 := Nat.xor_lt_two_pow (n := 62) (by omega) (by omega)
  have key : (BitVec.ofInt 64 (a : Int) ^^^ BitVec.ofInt 64 (b : Int)).toNat = a ^^^ b := by
    rw [BitVec.toNat_xor, BitVec.toNat_ofInt, BitVec.toNat_ofInt]
    congr 1 <;> omega
  show IntKind.i64.wrap ((BitVec.ofInt 64 (a : Int) ^^^ BitVec.ofInt 64 (b : Int)).toNat : Nat) = _
  rw [key, IntKind.wrap_i64]
  omega

theorem half_odd {m : Nat} (hm : m < 4294967296) (h : m % 2 = 1) : bits .xor .i64 ((m : Int) / 2) 3988292384 = ((half m : Nat) : Int) := by
  have e : ((m : Int) / 2) = ((m / 2 : Nat) : Int) := by omega
  rw [e]
  have := i64_xor_nat (m / 2) 3988292384 (by omega) (by decide)
  rw [half, if_pos h]
  exact this
theorem half_even {m : Nat} (h : ¬ m % 2 = 1) : (m : Int) / 2 = ((half m : Nat) : Int) := by
  rw [half, if_neg h]
  omega

set_option maxHeartbeats 400000 in
theorem eightHalved_any (n : Nat) (hn : n < 4294967296) (w : World) :
    Calls Try.prog 41 #[.int .i64 n] w fun e w' => e = .returned (.int .i64 (halves 8 n : Nat)) ∧ w' = w := by
  go_enter Try.func41, Try.ntmps41
  go_wp2
  go_loop [0, 4] (fun sn si => ∃ (m k : Nat), k ≤ 8 ∧ si = .int .i64 k ∧ sn = .int .i64 m ∧ m < 4294967296 ∧ Hid (halves (8 - k) m = halves 8 n)) (fun _ si => 8 - (intOf si).toNat)
  case atStart => exact ⟨n, 0, by omega, rfl, rfl, hn, rfl⟩
  case round =>
    obtain ⟨m, k, hk, rfl, rfl, hm, hh⟩ := hrel
    by_cases hlt : k < 8
    · have hh2 : Hid (halves (8 - (k + 1)) (half m) = halves 8 n) := by
        have := hh.out
        rw [show 8 - k = (8 - (k + 1)) + 1 by omega] at this
        exact this
      have hm2 := half_lt hm
      by_cases hodd : m % 2 = 1
      · have hb : (((m : Int) % 2 == 1) = true) := by rw [beq_iff_eq]; omega
        have e := half_odd hm hodd
        generalize half m = m2 at e hh2 hm2
        clear hodd
        go_wp2
        go_round
        case rel => exact ⟨m2, k + 1, by omega, by go_num, rfl, hm2, hh2⟩
        case measure => simp [intOf]; omega
      · have hb : (((m : Int) % 2 == 1) = false) := by rw [beq_eq_false_iff_ne]; omega
        have e := half_even hodd
        generalize half m = m2 at e hh2 hm2
        clear hodd
        have HE := Lib.hid e; clear e
        go_wp2
        go_round
        case rel => exact ⟨m2, k + 1, by omega, by go_num, by rw [HE.out], hm2, hh2⟩
        case measure => simp [intOf]; omega
    · go_wp2
      go_ret
      have ek : k = 8 := by omega
      subst ek
      have := hh.out
      exact ⟨by rw [← this]; rfl, rfl⟩

set_option maxHeartbeats 400000 in
theorem l2Step_any (s : Nat) (x : Int) (hs : s < 4294967296) (hx0 : 0 ≤ x) (hx1 : x ≤ 255) (w : World) :
    Calls Try.prog 35 #[.int .i64 s, .int .i64 x] w fun e w' => e = .returned (.int .i64 (step s x : Nat)) ∧ w' = w := by
  obtain ⟨y, rfl⟩ := Int.eq_ofNat_of_zero_le hx0
  have e0 := i64_xor_nat s y (by omega) (by omega)
  have hn : s ^^^ y < 4294967296 := Nat.xor_lt_two_pow (n := 32) hs (by omega)
  have ht : step s (y : Int) = halves 8 (s ^^^ y) := by simp [step]
  rw [ht]
  generalize s ^^^ y = n at e0 hn
  clear ht hx0
  go_enter Try.func35, Try.ntmps35
  go_wp2
  clear e0
  go_loop [0, 5] (fun sn si => ∃ (m k : Nat), k ≤ 8 ∧ si = .int .i64 k ∧ sn = .int .i64 m ∧ m < 4294967296 ∧ Hid (halves (8 - k) m = halves 8 n)) (fun _ si => 8 - (intOf si).toNat)
  case atStart => exact ⟨n, 0, by omega, rfl, rfl, hn, rfl⟩
  case round =>
    obtain ⟨m, k, hk, rfl, rfl, hm, hh⟩ := hrel
    by_cases hlt : k < 8
    · have hh2 : Hid (halves (8 - (k + 1)) (half m) = halves 8 n) := by
        have := hh.out
        rw [show 8 - k = (8 - (k + 1)) + 1 by omega] at this
        exact this
      have hm2 := half_lt hm
      by_cases hodd : m % 2 = 1
      · have hb : (((m : Int) % 2 == 1) = true) := by rw [beq_iff_eq]; omega
        have e := half_odd hm hodd
        generalize half m = m2 at e hh2 hm2
        clear hodd
        go_wp2
        go_round
        case rel => exact ⟨m2, k + 1, by omega, by go_num, rfl, hm2, hh2⟩
        case measure => simp [intOf]; omega
      · have hb : (((m : Int) % 2 == 1) = false) := by rw [beq_eq_false_iff_ne]; omega
        have e := half_even hodd
        generalize half m = m2 at e hh2 hm2
        clear hodd
        have HE := Lib.hid e; clear e
        go_wp2
        go_round
        case rel => exact ⟨m2, k + 1, by omega, by go_num, by rw [HE.out], hm2, hh2⟩
        case measure => simp [intOf]; omega
    · go_wp2
      go_ret
      have ek : k = 8 := by omega
      subst ek
      have := hh.out
      exact ⟨by rw [← this]; rfl, rfl⟩

end Go.Proofs.Ytdfcdemkmniknaa
