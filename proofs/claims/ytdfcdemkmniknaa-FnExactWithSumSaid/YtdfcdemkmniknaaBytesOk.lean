import Derived.Test.YtdfcdemkmniknaaBase
import Derived.Test.YtdfcdemkmniknaaMath1
namespace Go.Proofs.Ytdfcdemkmniknaa
open Go.RowKit

set_option maxHeartbeats 400000 in
theorem l1In_any (x lo hi : Int) (w : World) :
    Calls Try.prog 40 #[.int .i64 x, .int .i64 lo, .int .i64 hi] w fun e w' => e = .returned (.bool (inB x lo hi)) ∧ w' = w := by
  by_cases h1 : lo ≤ x
  · by_cases h2 : x ≤ hi
    · go_enter Try.func40, Try.ntmps40
      go_wp2
      go_ret
      exact ⟨ret_bool (by simp [inB, h1, h2]), rfl⟩
    · go_enter Try.func40, Try.ntmps40
      go_wp2
      go_ret
      exact ⟨ret_bool (by simp [inB, h2]), rfl⟩
  · go_enter Try.func40, Try.ntmps40
    go_wp2
    go_ret
    exact ⟨ret_bool (by rw [inB, decide_eq_false (by omega)]), rfl⟩

set_option maxHeartbeats 400000 in
theorem implBytesOk_any (B : Nat) (ao : Option Addr) (n cap : Nat) (xs : List Int) (w : World) (hx : Ints B w ao n cap xs) :
    Calls Try.prog 33 #[.slice ao n cap] w fun e w' => e = .returned (.bool (bytesOk xs)) ∧ w' = w := by
  have hx0 := hx.hlen; have hx1 := hx.hcap; have hx2 := hx.hmax
  unfold maxLen at hx2
  have HX := Lib.hid hx0
  clear hx0
  by_cases hbig : 4000 < n
  · go_enter Try.func33, Try.ntmps33
    go_wp2
    go_ret
    exact ⟨ret_bool (by have := HX.out; simp [bytesOk]; omega), rfl⟩
  · go_enter Try.func33, Try.ntmps33
    go_wp2
    go_loop [10] (fun i => ∃ k : Nat, k ≤ n ∧ i = .int .i64 k ∧ Hid (allBytes (xs.take k) = true)) (fun i => n - (intOf i).toNat)
    case atStart => exact ⟨0, Nat.zero_le _, rfl, rfl⟩
    case round =>
      obtain ⟨k, hk, rfl, ht⟩ := hrel
      by_cases hlt : k < n
      · obtain ⟨b, off, rfl, hbB, hc⟩ := hx.at k hlt
        have g1 := hc k hlt
        clear hc
        have hs := allBytes_snoc xs k (by have := HX.out; omega)
        rw [ht.out] at hs
        have hno := bytesOk_no xs k (by have := HX.out; omega)
        generalize xs.getD k 0 = x at g1 hs hno
        have HS' := Lib.hid hs; clear hs
        have HNO' := Lib.hid hno; clear hno
        by_cases h0 : x < 0
        · go_wp2
          go_ret
          exact ⟨ret_bool (HNO'.out (by omega)).symm, rfl⟩
        · by_cases h1 : 255 < x
          · go_wp2
            go_ret
            exact ⟨ret_bool (HNO'.out (by omega)).symm, rfl⟩
          · go_wp2
            go_round
            case rel => exact ⟨k + 1, by omega, by go_num, by have := HS'.out; rw [decide_eq_true (by omega)] at this; exact this⟩
            case measure => simp [intOf]; omega
      · go_wp2
        go_ret
        have ek : k = n := by omega
        subst ek
        have h1 := ht.out
        rw [List.take_of_length_le (by have := HX.out; omega)] at h1
        exact ⟨ret_bool (by have := HX.out; simp [bytesOk, h1]; omega), rfl⟩

set_option maxHeartbeats 400000 in
theorem specBytesOk_any (B : Nat) (ao : Option Addr) (n cap : Nat) (xs : List Int) (w : World) (hx : Ints B w ao n cap xs) :
    Calls Try.prog 30 #[.slice ao n cap] w fun e w' => e = .returned (.bool (bytesOk xs)) ∧ w' = w := by
  have hx0 := hx.hlen; have hx1 := hx.hcap; have hx2 := hx.hmax
  unfold maxLen at hx2
  have HX := Lib.hid hx0
  clear hx0
  go_enter Try.func30, Try.ntmps30
  go_wp2
  go_loop [3] (fun i => ∃ k : Nat, k ≤ n ∧ i = .int .i64 k ∧ Hid (allBytes (xs.take k) = true)) (fun i => n - (intOf i).toNat)
  case atStart => exact ⟨0, Nat.zero_le _, rfl, rfl⟩
  case round =>
    obtain ⟨k, hk, rfl, ht⟩ := hrel
    by_cases hlt : k < n
    · obtain ⟨b, off, rfl, hbB, hc⟩ := hx.at k hlt
      have g1 := hc k hlt
      clear hc
      have hs := allBytes_snoc xs k (by have := HX.out; omega)
      rw [ht.out] at hs
      have hno := bytesOk_no xs k (by have := HX.out; omega)
      generalize xs.getD k 0 = x at g1 hs hno
      have HS' := Lib.hid hs; clear hs
      have HNO' := Lib.hid hno; clear hno
      by_cases h0 : inB x 0 255 = true
      · go_wp2_with (go_at_call 40; refine (l1In_any _ _ _ _).mono ?_; rintro e w' ⟨rfl, rfl⟩)
        go_round
        case rel => exact ⟨k + 1, by omega, by go_num, by have := HS'.out; simp [inB] at h0; rw [decide_eq_true h0] at this; exact this⟩
        case measure => simp [intOf]; omega
      · have h0 : inB x 0 255 = false := by simpa using h0
        go_wp2_with (go_at_call 40; refine (l1In_any _ _ _ _).mono ?_; rintro e w' ⟨rfl, rfl⟩)
        go_ret
        exact ⟨ret_bool (HNO'.out (by simp [inB] at h0; omega)).symm, rfl⟩
    · have ek : k = n := by omega
      subst ek
      have h1 := ht.out
      rw [List.take_of_length_le (by have := HX.out; omega)] at h1
      have H1' := Lib.hid h1; clear h1
      by_cases hbig : k ≤ 4000
      · go_wp2
        go_ret
        exact ⟨ret_bool (by have := HX.out; have h2 := H1'.out; simp [bytesOk, h2]; omega), rfl⟩
      · go_wp2
        go_ret
        exact ⟨ret_bool (by have := HX.out; rw [bytesOk, decide_eq_false (by omega)]; simp; omega), rfl⟩

end Go.Proofs.Ytdfcdemkmniknaa
