/-
  Numbers by the dice: spec.l1Odd, l1Min, l1Num.
-/
import Derived.Test.YtekjhcckepkmnaaDice
namespace Go.Proofs.Ytekjhcckepkmnaa
open Go.RowKit

set_option maxHeartbeats 400000 in
theorem l1Odd_any (B g : Nat) (w : World) (hd : Dice B g w) :
    Calls Try.prog 54 #[.pointer (some ⟨g, 0, none⟩)] w (NumSaid B g w) := by
  have hg := hd.hg
  go_enter Try.func54, Try.ntmps54
  go_wp2_with fail
  refine (l1Below_any B g _ _ (hd.alloc _) ⟨by decide, by decide⟩).mono ?_
  rintro e w1 ⟨r1, rfl, hr1, hr2, ho1, hd1⟩
  have hr3 : (r1 : Int) < 10 := hr1 (by omega)
  clear hr1 hr2
  have hc := lit_cell w [-1, 0, 1, 2147483648, -2147483648, 1099511627776, 4611686018427387904, -4611686018427387904, 9223372036854775807, -9223372036854775808] g w1 (by exact ho1.keeps) hg r1 (by simp; omega)
  have hr : I64 (([-1, 0, 1, 2147483648, -2147483648, 1099511627776, 4611686018427387904, -4611686018427387904, 9223372036854775807, -9223372036854775808] : List Int).getD r1 0) :=
    all_getD (fun x hx => by simp at hx; unfold I64; omega) (by simp; omega)
  generalize ([-1, 0, 1, 2147483648, -2147483648, 1099511627776, 4611686018427387904, -4611686018427387904, 9223372036854775807, -9223372036854775808] : List Int).getD r1 0 = x at hc hr
  go_wp2_with fail
  go_ret
  exact ⟨_, rfl, hr, (Keeps.alloc g w _).trans ho1.keeps, hd1⟩

set_option maxHeartbeats 400000 in
theorem l1Min_any (a b : Int) (w : World) :
    Calls Try.prog 55 #[.int .i64 a, .int .i64 b] w fun e w' => e = .returned (.int .i64 (min a b)) ∧ w' = w := by
  by_cases h : a < b
  · go_enter Try.func55, Try.ntmps55
    go_wp2
    go_ret
    exact ⟨ret_int (by omega), rfl⟩
  · go_enter Try.func55, Try.ntmps55
    go_wp2
    go_ret
    exact ⟨ret_int (by omega), rfl⟩

set_option maxHeartbeats 400000 in
theorem l1Num_any (B g : Nat) (most : Int) (w : World) (hd : Dice B g w) (hm0 : 0 ≤ most) (hm1 : most ≤ 4611686018427387904) :
    Calls Try.prog 42 #[.pointer (some ⟨g, 0, none⟩), .int .i64 most] w (NumSaid B g w) := by
  go_enter Try.func42, Try.ntmps42
  go_wp2_with fail
  refine (l1Once_any B g _ _ hd ⟨by decide, by decide⟩).mono ?_
  rintro e w1 ⟨b1, rfl, ho1, hd1⟩
  rcases b1 with _ | _
  · go_wp2_with fail
    refine (l1Once_any B g _ _ hd1 ⟨by decide, by decide⟩).mono ?_
    rintro e w2 ⟨b2, rfl, ho2, hd2⟩
    rcases b2 with _ | _
    · go_wp2_with fail
      refine (l1Below_any B g _ _ hd2 ⟨by omega, by omega⟩).mono ?_
      rintro e w3 ⟨r3, rfl, hr3, hr4, ho3, hd3⟩
      have hr : I64 r3 := by unfold I64; have := hr3 (by omega); omega
      clear hr3 hr4
      go_wp2_with fail
      go_ret
      exact ⟨_, rfl, hr, ((ho1.trans ho2).trans ho3).keeps, hd3⟩
    · go_wp2_with fail
      refine (l1Min_any _ _ _).mono ?_
      rintro e w3 ⟨rfl, rfl⟩
      have hmn : 0 ≤ min most 4 ∧ min most 4 ≤ 4 := by omega
      generalize min most 4 = mn at hmn
      obtain ⟨hmn0, hmn1⟩ := hmn
      go_wp2_with fail
      refine (l1Below_any B g _ _ hd2 ⟨by omega, by omega⟩).mono ?_
      rintro e w3 ⟨r3, rfl, hr3, hr4, ho3, hd3⟩
      have hr : I64 r3 := by unfold I64; have := hr3 (by omega); omega
      clear hr3 hr4
      go_wp2_with fail
      go_ret
      exact ⟨_, rfl, hr, ((ho1.trans ho2).trans ho3).keeps, hd3⟩
  · go_wp2_with fail
    refine (l1Odd_any B g _ hd1).mono ?_
    rintro e w2 ⟨x, rfl, hx, ho2, hd2⟩
    go_wp2_with fail
    refine (l1Below_any B g _ _ (hd2.alloc _) ⟨by decide, by decide⟩).mono ?_
    rintro e w3 ⟨r1, rfl, hr1, hr2, ho3, hd3⟩
    have hr3 : (r1 : Int) < 4 := hr1 (by omega)
    clear hr1 hr2
    have hc := lit_cell w2 [-1, most, most + 1, x] g w3 (by exact ho3.keeps) hd2.hg r1 (by simp; omega)
    have hr : I64 (([-1, most, most + 1, x] : List Int).getD r1 0) :=
      all_getD (fun x hx' => by simp at hx'; unfold I64 at *; omega) (by simp; omega)
    generalize ([-1, most, most + 1, x] : List Int).getD r1 0 = y at hc hr
    go_wp2_with fail
    go_ret
    exact ⟨_, rfl, hr, ((ho1.keeps.trans ho2).trans (Keeps.alloc g _ _)).trans ho3.keeps, hd3⟩

end Go.Proofs.Ytekjhcckepkmnaa
