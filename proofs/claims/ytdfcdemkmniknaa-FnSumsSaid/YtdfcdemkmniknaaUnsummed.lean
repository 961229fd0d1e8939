/-
  impl.Unsummed and spec.Unsummed.
-/
import Derived.Test.YtdfcdemkmniknaaSpecWithSum
import Derived.Test.YtdfcdemkmniknaaSlEq
import Derived.Test.YtdfcdemkmniknaaSame
namespace Go.Proofs.Ytdfcdemkmniknaa
open Go.RowKit

theorem unsummed_len (xs : List Int) : ((unsummed xs).getD []).length ≤ xs.length := by
  unfold unsummed
  split
  · simp
  · simp
theorem unsummed_all {xs : List Int} (h : AllI64 xs) : AllI64 ((unsummed xs).getD []) := by
  unfold unsummed
  split
  · exact fun x hx => h x (List.mem_of_mem_take hx)
  · intro x hx; cases hx

/-- A fresh slice and a flag: what o says. -/
def MaybeInts (o : Option (List Int)) (w : World) (e : Ending) (w' : World) : Prop := ∃ v, e = .returned (.tuple #[v, .bool o.isSome]) ∧ Own w.heap.size w' v (o.getD []) ∧ Below w.heap.size w w'

set_option maxHeartbeats 400000 in
set_option maxRecDepth 100000 in
theorem implUnsummed_any (B : Nat) (ao : Option Addr) (n cap : Nat) (xs : List Int) (w : World) (hx : Ints B w ao n cap xs) (hB : B ≤ w.heap.size) (hz : ao = none → cap = 0) (hn : n ≤ 1099511627776) :
    Calls Try.prog 11 #[.slice ao n cap] w (MaybeInts (unsummed xs) w) := by
  have hx0 := hx.hlen; have hx1 := hx.hcap; have hx2 := hx.hmax
  unfold maxLen at hx2
  have HX := Lib.hid hx0; clear hx0
  have HZ := Lib.hid hz; clear hz
  by_cases hs : n < 4
  · have e0 : unsummed xs = none := unsummed_short (by have := HX.out; omega)
    rw [e0]; clear e0
    have d1 : decide ((n : Int) - 4 < 0) = true := decide_eq_true (by omega)
    go_enter Try.func11, Try.ntmps11
    go_wp2
    go_ret2
    exact ⟨_, rfl, own_nil _ _, Below.refl _ _⟩
  · obtain ⟨m, rfl⟩ : ∃ m, n = m + 4 := ⟨n - 4, by omega⟩
    have hxt := hx.take (show m ≤ m + 4 by omega)
    have e0 := unsummed_is (xs := xs) (ys := xs.take m) (by have := HX.out; omega) (by rw [HX.out]; rfl)
    rw [e0]; clear e0
    generalize xs.take m = ys at hxt
    have hyl := hxt.hlen
    have HYL := Lib.hid hyl; clear hyl
    have e1 : (((m + 4 : Nat) : Int) - 4) = (m : Int) := by omega
    have d1 : decide ((m : Int) < 0) = false := decide_eq_false (by omega)
    rcases hr : decide (withSum ys = xs) with _ | _
    · rw [if_neg (by decide)]
      have HR := Lib.hid hr; clear hr
      go_enter Try.func11, Try.ntmps11
      go_wp2_with fail
      refine (implWithSum_any B ao m cap ys _ hxt hB HZ.out).mono ?_
      rintro e w1 ⟨v1, rfl, hown1, hb1⟩
      obtain ⟨a1, c1, rfl, hi1⟩ := hown1.ints (bytes_i64 (withSum_bytes ys))
      have hx' := hx.below hb1 hB (Nat.le_refl _)
      clear e1
      go_wp2_with fail
      refine (slicesEqual_any _ _ _ _ _ _ _ _ _ _ _ hi1 hx').mono ?_
      rintro e w2 ⟨rfl, hd2⟩
      rw [HR.out]
      have hb2 := hd2.below w1.heap.size
      go_wp2
      go_ret2
      exact ⟨_, rfl, own_nil _ _, hb1.trans (hb2.mono hb1.size)⟩
    · rw [if_pos rfl]
      have HR := Lib.hid hr; clear hr
      have hyn : ys.length ≤ 1099511627776 := by have := HYL.out; omega
      go_enter Try.func11, Try.ntmps11
      go_wp2_with fail
      refine (implWithSum_any B ao m cap ys _ hxt hB HZ.out).mono ?_
      rintro e w1 ⟨v1, rfl, hown1, hb1⟩
      obtain ⟨a1, c1, rfl, hi1⟩ := hown1.ints (bytes_i64 (withSum_bytes ys))
      have hx' := hx.below hb1 hB (Nat.le_refl _)
      have hxt' := hxt.below hb1 hB (Nat.le_refl _)
      clear e1
      go_wp2_with fail
      refine (slicesEqual_any _ _ _ _ _ _ _ _ _ _ _ hi1 hx').mono ?_
      rintro e w2 ⟨rfl, hd2⟩
      rw [HR.out]
      have hb2 := hd2.below w1.heap.size
      have hs1 := hb1.size
      have hs2 := hb2.size
      have hxt2 := hxt'.below hb2 (by omega) (show B ≤ w2.heap.size by omega)
      have hb12 := hb1.trans (hb2.mono hs1)
      clear hb1 hb2 hx' hxt' hi1 hown1 hd2
      go_wp2_with fail
      refine (concat1_any _ ao m cap ys w2 (Nat.le_refl _) hxt2 HZ.out hyn).mono ?_
      rintro e w3 ⟨v3, rfl, hown3, hb3⟩
      have hb13 := hb12.trans (hb3.mono (by omega))
      have hown3' := hown3.mono (show w.heap.size ≤ w2.heap.size by omega)
      go_wp2
      go_ret2
      exact ⟨_, rfl, hown3', hb13⟩

set_option maxHeartbeats 400000 in
set_option maxRecDepth 100000 in
theorem specUnsummed_any (B : Nat) (ao : Option Addr) (n cap : Nat) (xs : List Int) (w : World) (hx : Ints B w ao n cap xs) (hB : B ≤ w.heap.size) (hz : ao = none → cap = 0) (hn : n ≤ 1099511627776) :
    Calls Try.prog 12 #[.slice ao n cap] w (MaybeInts (unsummed xs) w) := by
  have hx0 := hx.hlen; have hx1 := hx.hcap; have hx2 := hx.hmax
  unfold maxLen at hx2
  have HX := Lib.hid hx0; clear hx0
  have HZ := Lib.hid hz; clear hz
  rcases hok : bytesOk xs with _ | _
  · rw [unsummed_bad hok]
    have HOK := Lib.hid hok; clear hok
    go_enter Try.func12, Try.ntmps12
    go_wp2_with fail
    refine (specBytesOk_any _ _ _ _ xs _ hx).mono ?_
    rintro e w1 ⟨rfl, rfl⟩
    rw [HOK.out]
    go_wp2
    go_ret2
    exact ⟨_, rfl, own_empty _, (Below.refl _ _).alloc (Nat.le_refl _) _⟩
  have HOK := Lib.hid hok; clear hok
  by_cases hs : n < 4
  · have e0 : unsummed xs = none := unsummed_short (by have := HX.out; omega)
    rw [e0]; clear e0
    go_enter Try.func12, Try.ntmps12
    go_wp2_with fail
    refine (specBytesOk_any _ _ _ _ xs _ hx).mono ?_
    rintro e w1 ⟨rfl, rfl⟩
    rw [HOK.out]
    go_wp2
    go_ret2
    exact ⟨_, rfl, own_empty _, (Below.refl _ _).alloc (Nat.le_refl _) _⟩
  · obtain ⟨m, rfl⟩ : ∃ m, n = m + 4 := ⟨n - 4, by omega⟩
    have hxt := hx.take (show m ≤ m + 4 by omega)
    have e0 := unsummed_is (xs := xs) (ys := xs.take m) (by have := HX.out; omega) (by rw [HX.out]; rfl)
    rw [e0]; clear e0
    generalize xs.take m = ys at hxt
    have hyl := hxt.hlen
    have HYL := Lib.hid hyl; clear hyl
    have e1 : (((m + 4 : Nat) : Int) - 4) = (m : Int) := by omega
    have hwf := hxt.wf
    have d2 : decide (((m + 4 : Nat) : Int) < 4) = false := decide_eq_false (by omega)
    have d3 : decide ((m : Int) + 4 < 4) = false := decide_eq_false (by omega)
    have hyn : ys.length ≤ 1099511627776 := by have := HYL.out; omega
    rcases hr : decide (withSum ys = xs) with _ | _
    · rw [if_neg (by decide)]
      have HR := Lib.hid hr; clear hr
      go_enter Try.func12, Try.ntmps12
      go_wp2_with fail
      refine (specBytesOk_any _ _ _ _ xs _ hx).mono ?_
      rintro e w1 ⟨rfl, rfl⟩
      rw [HOK.out]
      go_wp2_with fail
      refine (l1Copy_any B ao m cap ys _ hxt hB HZ.out (by omega)).mono ?_
      rintro e w2 ⟨v2, rfl, hown2, hb2⟩
      obtain ⟨a2, c2, rfl, hi2, hz2⟩ := hown2.ints' hwf
      have hs2 := hb2.size
      have hx2' := hx.below hb2 hB (Nat.le_refl _)
      have HZ2 := Lib.hid hz2; clear hz2
      clear e1 d2 d3
      go_wp2_with fail
      refine (specWithSum_any _ _ _ _ ys _ hi2 (Nat.le_refl _) HZ2.out hyn).mono ?_
      rintro e w3 ⟨v3, rfl, hown3, hb3⟩
      obtain ⟨a3, c3, rfl, hi3⟩ := hown3.ints (bytes_i64 (withSum_bytes ys))
      have hx3' := hx2'.below hb3 (by omega) (Nat.le_refl _)
      have hb23 := hb2.trans (hb3.mono hs2)
      have hs3 := hb23.size
      clear hi2 hown2 hown3 hb2 hb3 hx2'
      go_wp2_with fail
      refine (l1Same_any _ _ _ _ _ _ _ _ _ _ _ hi3 hx3').mono ?_
      rintro e w4 ⟨rfl, hd4⟩
      rw [HR.out]
      have hb4 := hb23.trans ((hd4.below w3.heap.size).mono hs3)
      have hs4 := hb4.size
      go_wp2
      go_ret2
      exact ⟨_, rfl, (own_empty _).mono hs4, hb4.alloc hs4 _⟩
    · rw [if_pos rfl]
      have HR := Lib.hid hr; clear hr
      go_enter Try.func12, Try.ntmps12
      go_wp2_with fail
      refine (specBytesOk_any _ _ _ _ xs _ hx).mono ?_
      rintro e w1 ⟨rfl, rfl⟩
      rw [HOK.out]
      go_wp2_with fail
      refine (l1Copy_any B ao m cap ys _ hxt hB HZ.out (by omega)).mono ?_
      rintro e w2 ⟨v2, rfl, hown2, hb2⟩
      have hown2k := hown2
      obtain ⟨a2, c2, rfl, hi2, hz2⟩ := hown2.ints' hwf
      have hs2 := hb2.size
      have hx2' := hx.below hb2 hB (Nat.le_refl _)
      have HZ2 := Lib.hid hz2; clear hz2
      clear e1 d2 d3
      go_wp2_with fail
      refine (specWithSum_any _ _ _ _ ys _ hi2 (Nat.le_refl _) HZ2.out hyn).mono ?_
      rintro e w3 ⟨v3, rfl, hown3, hb3⟩
      obtain ⟨a3, c3, rfl, hi3⟩ := hown3.ints (bytes_i64 (withSum_bytes ys))
      have hx3' := hx2'.below hb3 (by omega) (Nat.le_refl _)
      have hb23 := hb2.trans (hb3.mono hs2)
      have hs3 := hb23.size
      have hown23 := hown2k.below hb3 (Nat.le_refl _)
      clear hi2 hown2 hown3 hown2k hb2 hb3 hx2'
      go_wp2_with fail
      refine (l1Same_any _ _ _ _ _ _ _ _ _ _ _ hi3 hx3').mono ?_
      rintro e w4 ⟨rfl, hd4⟩
      rw [HR.out]
      have hb34 := hd4.below w3.heap.size
      have hb4 := hb23.trans (hb34.mono hs3)
      have hown24 := hown23.below hb34 (Nat.le_refl _)
      go_wp2
      go_ret2
      exact ⟨_, rfl, hown24, hb4⟩

end Go.Proofs.Ytdfcdemkmniknaa
