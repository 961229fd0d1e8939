import Derived.Test.YtmlabdoncdadmaaAppend
import Derived.Test.YtmlabdoncdadmaaBytesOk
namespace Go.Proofs.Ytmlabdoncdadmaa
open Go.RowKit

theorem bytes_i64 {xs : List Int} (h : ∀ x ∈ xs, 0 ≤ x ∧ x ≤ 255) : AllI64 xs := fun x hx => by have := h x hx; unfold I64; omega

/-- A fresh slice of the numbers xs. -/
def NewInts (xs : List Int) (w : World) (e : Ending) (w' : World) : Prop := ∃ v, e = .returned v ∧ Own w.heap.size w' v xs ∧ Below w.heap.size w w'

set_option maxHeartbeats 400000 in
set_option maxRecDepth 100000 in
theorem implVarOf_any (n : Int) (w : World) :
    Calls Try.prog 11 #[.int .i64 n] w (NewInts (varOf n) w) := by
  by_cases h0 : n < 0
  · have e0 : varOf n = [] := by rw [varOf, if_neg (by omega)]
    rw [e0]; clear e0
    go_enter Try.func11, Try.ntmps11
    go_wp2
    go_ret
    exact ⟨_, rfl, own_nil _ _, Below.refl _ _⟩
  by_cases h1 : 1000000000 < n
  · have e0 : varOf n = [] := by rw [varOf, if_neg (by omega)]
    rw [e0]; clear e0
    go_enter Try.func11, Try.ntmps11
    go_wp2
    go_ret
    exact ⟨_, rfl, own_nil _ _, Below.refl _ _⟩
  obtain ⟨n0, rfl⟩ : ∃ n0 : Nat, n = n0 := ⟨n.toNat, by omega⟩
  have e0 : varOf n0 = varN n0 := by rw [varOf, if_pos (by omega)]; simp
  rw [e0]; clear e0
  have d1 : decide ((n0 : Int) < 0) = false := decide_eq_false (by omega)
  have d2 : decide (1000000000 < (n0 : Int)) = false := decide_eq_false (by omega)
  have H1 := Lib.hid h1; clear h1 h0
  go_enter Try.func11, Try.ntmps11
  go_wp2
  clear d1 d2
  go_loopw [0, 3] (fun sn sv wr => ∃ (m : Nat) (acc : List Int), sn = .int .i64 m ∧ Own w.heap.size wr sv acc ∧ Below w.heap.size w wr ∧ acc.length + m ≤ n0 ∧ Hid (acc ++ varN m = varN n0)) (fun sn _ _ => (intOf sn).toNat)
  case atStart => exact ⟨n0, [], rfl, own_nil _ _, Below.refl _ _, by simp, rfl⟩
  case round =>
    obtain ⟨m, acc, rfl, hown, hbel, hle, hs⟩ := hrel
    have hsz := hbel.size
    have hm : m ≤ 1000000000 := by have := H1.out; omega
    by_cases hlt : m < 128
    · have hs' := hs.out
      rw [varN_small hlt] at hs'
      have HS := Lib.hid hs'; clear hs'
      go_wp2_with (at_builtin; refine append_one rfl _ _ rfl w.heap.size _ acc rfl rfl hown hsz (by have := H1.out; omega) ?_; intro v' w' hown' hbel')
      go_ret
      exact ⟨_, rfl, by rw [← HS.out]; exact hown', hbel.trans hbel'⟩
    · have hs' := hs.out
      rw [varN_big hlt] at hs'
      have HS := Lib.hid hs'; clear hs'
      go_wp2_with (at_builtin; refine append_one rfl _ _ rfl w.heap.size _ acc rfl rfl hown hsz (by have := H1.out; omega) ?_; intro v' w' hown' hbel')
      go_roundw
      case rel => exact ⟨m / 128, _, by go_num, hown', hbel.trans hbel', by simp; omega, by rw [Hid, ← HS.out]; simp⟩
      case measure => simp [intOf]; omega

set_option maxHeartbeats 400000 in
set_option maxRecDepth 100000 in
theorem l1Var_any (n0 : Nat) (w : World) (hn : n0 ≤ 1000000000) :
    Calls Try.prog 31 #[.int .i64 n0] w (NewInts (varN n0) w) := by
  go_enter Try.func31, Try.ntmps31
  go_wp2
  have HN := Lib.hid hn; clear hn
  go_loopw [0, 3] (fun sn sv wr => ∃ (m : Nat) (acc : List Int), sn = .int .i64 m ∧ Own w.heap.size wr sv acc ∧ Below w.heap.size w wr ∧ acc.length + m ≤ n0 ∧ Hid (acc ++ varN m = varN n0)) (fun sn _ _ => (intOf sn).toNat)
  case atStart => exact ⟨n0, [], rfl, own_empty w, (Below.refl _ _).alloc (Nat.le_refl _) _, by simp, rfl⟩
  case round =>
    obtain ⟨m, acc, rfl, hown, hbel, hle, hs⟩ := hrel
    have hsz := hbel.size
    have hm : m ≤ 1000000000 := by have := HN.out; omega
    by_cases hlt : m < 128
    · have hs' := hs.out
      rw [varN_small hlt] at hs'
      have HS := Lib.hid hs'; clear hs'
      go_wp2_with (at_builtin; refine append_one rfl _ _ rfl w.heap.size _ acc rfl rfl hown hsz (by have := HN.out; omega) ?_; intro v' w' hown' hbel')
      go_ret
      exact ⟨_, rfl, by rw [← HS.out]; exact hown', hbel.trans hbel'⟩
    · have hs' := hs.out
      rw [varN_big hlt] at hs'
      have HS := Lib.hid hs'; clear hs'
      go_wp2_with (at_builtin; refine append_one rfl _ _ rfl w.heap.size _ acc rfl rfl hown hsz (by have := HN.out; omega) ?_; intro v' w' hown' hbel')
      go_roundw
      case rel => exact ⟨m / 128, _, by go_num, hown', hbel.trans hbel', by simp; omega, by rw [Hid, ← HS.out]; simp⟩
      case measure => simp [intOf]; omega

set_option maxHeartbeats 400000 in
theorem specVarOf_any (n : Int) (w : World) :
    Calls Try.prog 15 #[.int .i64 n] w (NewInts (varOf n) w) := by
  by_cases h : inB n 0 1000000000 = true
  · have hr : 0 ≤ n ∧ n ≤ 1000000000 := by simpa [inB] using h
    obtain ⟨n0, rfl⟩ : ∃ n0 : Nat, n = n0 := ⟨n.toNat, by omega⟩
    have e0 : varOf n0 = varN n0 := by rw [varOf, if_pos (by omega)]; simp
    rw [e0]; clear e0
    go_enter Try.func15, Try.ntmps15
    go_wp2_with fail
    refine (l1In_any _ _ _ _).mono ?_
    rintro e w2 ⟨rfl, rfl⟩
    rw [h]
    go_wp2_with fail
    refine (l1Var_any n0 _ (by omega)).mono ?_
    rintro e w3 ⟨v, rfl, hown, hbel⟩
    go_wp2_with fail
    go_ret
    exact ⟨v, rfl, hown, hbel⟩
  · have e0 : varOf n = [] := by rw [varOf, if_neg (by simpa [inB] using h)]
    have h : inB n 0 1000000000 = false := by simpa using h
    rw [e0]; clear e0
    go_enter Try.func15, Try.ntmps15
    go_wp2_with fail
    refine (l1In_any _ _ _ _).mono ?_
    rintro e w2 ⟨rfl, rfl⟩
    rw [h]
    go_wp2_with fail
    go_ret
    exact ⟨_, rfl, own_empty _, (Below.refl _ _).alloc (Nat.le_refl _) _⟩

end Go.Proofs.Ytmlabdoncdadmaa
