/- Texts of this claim, put together. -/
import Derived.Test.YtccoljbnddfmpaaGreatDoorP1
import Derived.Test.YtccoljbnddfmpaaGreatDoorP6

namespace Go.Proofs.YtccoljbnddfmpaaGreatDoor
open Go.RowKit
theorem Ints.take {B : Nat} {w : World} {ao : Option Addr} {n cap : Nat} {xs : List Int} (h : Ints B w ao n cap xs) {k : Nat} (hk : k ≤ n) : Ints B w ao k cap (xs.take k) :=
  ⟨by rw [List.length_take, h.hlen]; omega, by have := h.hcap; omega, h.hmax, fun j hj => by
    obtain ⟨b, off, e, hlt, hc⟩ := h.cell j (by omega)
    refine ⟨b, off, e, hlt, ?_⟩
    rw [hc]
    simp [List.getD, hj], fun x hx => h.wf x (List.mem_of_mem_take hx)⟩
set_option maxHeartbeats 400000 in
set_option maxRecDepth 100000 in
theorem l1Copy_any (B : Nat) (ao : Option Addr) (n cap : Nat) (xs : List Int) (w : World) (hx : Ints B w ao n cap xs) (hB : B ≤ w.heap.size) (hz : ao = none → cap = 0) (hn : n ≤ 1099511627776) :
    Calls Tryz.prog 99 #[.slice ao n cap] w (NewInts xs w) := by
  have hown := own_empty w
  have hb : Below w.heap.size w (w.alloc (.cells #[] 2)) := (Below.refl _ _).alloc (Nat.le_refl _) _
  have hsz : (w.alloc (.cells #[] 2)).heap.size = w.heap.size + 1 := by simp
  have hx' := hx.below hb hB (Nat.le_refl _)
  have HZ := Lib.hid hz; clear hz
  have HSZ := Lib.hid hsz; clear hsz
  go_enter Tryz.func99, Tryz.ntmps99
  go_wp2_with (at_builtin; refine append_all rfl _ _ rfl w.heap.size B _ [] xs ao n cap rfl rfl hx' HZ.out hown (by rw [HSZ.out]; omega) (by simp; omega) ?_; intro vA wA hownA hbA)
  go_ret
  exact ⟨_, rfl, hownA, hb.trans hbA⟩
set_option maxHeartbeats 400000 in
set_option maxRecDepth 100000 in
theorem specWithSum_any (B : Nat) (ao : Option Addr) (n cap : Nat) (xs : List Int) (w : World) (hx : Ints B w ao n cap xs) (hB : B ≤ w.heap.size) (hz : ao = none → cap = 0) (hn : n ≤ 1099511627776) :
    Calls Tryz.prog 103 #[.slice ao n cap] w (NewInts (withSum xs) w) := by
  have hx0 := hx.hlen; have hx1 := hx.hcap; have hx2 := hx.hmax
  unfold maxLen at hx2
  have HX := Lib.hid hx0; clear hx0
  have HZ := Lib.hid hz; clear hz
  rcases hok : bytesOk xs with _ | _
  · have e0 : withSum xs = [] := withSum_no (by rw [hok]; simp)
    rw [e0]; clear e0
    have HOK := Lib.hid hok; clear hok
    go_enter Tryz.func103, Tryz.ntmps103
    go_wp2_with fail
    refine (specBytesOk_any _ _ _ _ xs _ hx).mono ?_
    rintro e w1 ⟨rfl, rfl⟩
    rw [HOK.out]
    go_wp2
    go_ret
    exact ⟨_, rfl, own_empty _, (Below.refl _ _).alloc (Nat.le_refl _) _⟩
  · by_cases hbig : 3996 < n
    · have e0 : withSum xs = [] := withSum_no (by have := HX.out; omega)
      rw [e0]; clear e0
      have HOK := Lib.hid hok; clear hok
      go_enter Tryz.func103, Tryz.ntmps103
      go_wp2_with fail
      refine (specBytesOk_any _ _ _ _ xs _ hx).mono ?_
      rintro e w1 ⟨rfl, rfl⟩
      rw [HOK.out]
      go_wp2
      go_ret
      exact ⟨_, rfl, own_empty _, (Below.refl _ _).alloc (Nat.le_refl _) _⟩
    · have e0 := withSum_yes ⟨hok, by have := HX.out; omega⟩
      have es := sumOf_yes hok
      have hsl := sumN_lt (bytesOk_mem hok).2
      rw [e0]; clear e0
      have HOK := Lib.hid hok; clear hok
      generalize sumN xs = s at es hsl
      have HES := Lib.hid es; clear es
      go_enter Tryz.func103, Tryz.ntmps103
      go_wp2_with fail
      refine (specBytesOk_any _ _ _ _ xs _ hx).mono ?_
      rintro e w1 ⟨rfl, rfl⟩
      rw [HOK.out]
      go_wp2_with fail
      refine (specSumOf_any _ _ _ _ xs _ hx).mono ?_
      rintro e w1 ⟨rfl, rfl⟩
      rw [HES.out]
      go_wp2_with fail
      refine (l1Copy_any _ _ _ _ xs _ hx hB HZ.out hn).mono ?_
      rintro e w2 ⟨v2, rfl, hown2, hb2⟩
      have hs2 := hb2.size
      have hown := own_lit w2 (tail4 s) (by rw [tail4_len]; omega)
      have hbA : Below w2.heap.size w2 (w2.alloc (.cells ((tail4 s).map (Value.int .i64)).toArray 2)) := (Below.refl _ _).alloc (Nat.le_refl _) _
      have hsA : (w2.alloc (.cells ((tail4 s).map (Value.int .i64)).toArray 2)).heap.size = w2.heap.size + 1 := by simp
      have hown3 := hown2.below hbA (Nat.le_refl _)
      obtain ⟨a4, c4, e4, hi4⟩ := hown.ints (bytes_i64 (tail4_bytes hsl))
      cases e4
      have hi4' : Ints (w2.heap.size + 1) (w2.alloc (Obj.cells #[Value.int IntKind.i64 ((s : Int) / 16777216), Value.int IntKind.i64 ((s : Int) / 65536 % 256), Value.int IntKind.i64 ((s : Int) / 256 % 256), Value.int IntKind.i64 ((s : Int) % 256)] 2)) (some ⟨w2.heap.size, 0, none⟩) 4 4 (tail4 s) := by rw [← hsA]; exact hi4
      have hown3' : Own _ (w2.alloc (Obj.cells #[Value.int IntKind.i64 ((s : Int) / 16777216), Value.int IntKind.i64 ((s : Int) / 65536 % 256), Value.int IntKind.i64 ((s : Int) / 256 % 256), Value.int IntKind.i64 ((s : Int) % 256)] 2)) v2 xs := hown3
      have hbA' : Below w2.heap.size w2 (w2.alloc (Obj.cells #[Value.int IntKind.i64 ((s : Int) / 16777216), Value.int IntKind.i64 ((s : Int) / 65536 % 256), Value.int IntKind.i64 ((s : Int) / 256 % 256), Value.int IntKind.i64 ((s : Int) % 256)] 2)) := hbA
      have hsA' : (w2.alloc (Obj.cells #[Value.int IntKind.i64 ((s : Int) / 16777216), Value.int IntKind.i64 ((s : Int) / 65536 % 256), Value.int IntKind.i64 ((s : Int) / 256 % 256), Value.int IntKind.i64 ((s : Int) % 256)] 2)).heap.size = w2.heap.size + 1 := hsA
      have HSA := Lib.hid hsA'
      clear hi4 hown3 hbA hsA hsA' hown hown2
      go_wp2_with (at_builtin; refine append_all rfl _ _ rfl _ _ _ xs (tail4 s) (some ⟨w2.heap.size, 0, none⟩) 4 4 rfl rfl hi4' (by intro h; cases h) hown3' (by rw [HSA.out]; omega) (by have := HX.out; omega) ?_; intro vA wA hownA hbA)
      go_ret
      exact ⟨_, rfl, hownA, (hb2.trans (hbA'.mono hs2)).trans hbA⟩
end Go.Proofs.YtccoljbnddfmpaaGreatDoor
