/-
  impl.WithSum and spec.WithSum.
-/
import Derived.Test.YtdfcdemkmniknaaSumOf
import Derived.Test.YtdfcdemkmniknaaGrow
namespace Go.Proofs.Ytdfcdemkmniknaa
open Go.RowKit

theorem NewInts.of {xs ys : List Int} {w : World} {e : Ending} {w' : World} (h : NewInts xs w e w') (he : xs = ys) : NewInts ys w e w' := he ▸ h
theorem withSum_no {xs : List Int} (h : ¬ (bytesOk xs = true ∧ xs.length ≤ 3996)) : withSum xs = [] := by unfold withSum; rw [if_neg h]
theorem withSum_yes {xs : List Int} (h : bytesOk xs = true ∧ xs.length ≤ 3996) : withSum xs = xs ++ tail4 (sumN xs) := by unfold withSum; rw [if_pos h]
theorem sumOf_yes {xs : List Int} (h : bytesOk xs = true) : sumOf xs = (sumN xs : Int) := by unfold sumOf; rw [if_pos h]
theorem sumOf_no {xs : List Int} (h : bytesOk xs = false) : sumOf xs = -1 := by unfold sumOf; rw [h, if_neg (by decide)]

set_option maxHeartbeats 400000 in
set_option maxRecDepth 100000 in
theorem implWithSum_any (B : Nat) (ao : Option Addr) (n cap : Nat) (xs : List Int) (w : World) (hx : Ints B w ao n cap xs) (hB : B ≤ w.heap.size) (hz : ao = none → cap = 0) :
    Calls Try.prog 9 #[.slice ao n cap] w (NewInts (withSum xs) w) := by
  have hx0 := hx.hlen; have hx1 := hx.hcap; have hx2 := hx.hmax
  unfold maxLen at hx2
  have HX := Lib.hid hx0; clear hx0
  have HZ := Lib.hid hz; clear hz
  by_cases hbig : 3996 < n
  · have e0 : withSum xs = [] := withSum_no (by have := HX.out; omega)
    rw [e0]; clear e0
    go_enter Try.func9, Try.ntmps9
    go_wp2
    go_ret
    exact ⟨_, rfl, own_nil _ _, Below.refl _ _⟩
  rcases hok : bytesOk xs with _ | _
  · have e0 : withSum xs = [] := withSum_no (by rw [hok]; simp)
    have es := sumOf_no hok
    rw [e0]; clear e0 hok
    have HES := Lib.hid es; clear es
    go_enter Try.func9, Try.ntmps9
    go_wp2_with fail
    refine (implSumOf_any _ _ _ _ xs _ hx hB).mono ?_
    rintro e w1 ⟨rfl, hb1⟩
    rw [HES.out]
    go_wp2
    go_ret
    exact ⟨_, rfl, own_nil _ _, hb1⟩
  · have e0 := withSum_yes ⟨hok, by have := HX.out; omega⟩
    have es := sumOf_yes hok
    have hsl := sumN_lt (bytesOk_mem hok).2
    rw [e0]; clear e0 hok
    generalize sumN xs = s at es hsl
    have HES := Lib.hid es; clear es
    go_enter Try.func9, Try.ntmps9
    go_wp2_with fail
    refine (implSumOf_any _ _ _ _ xs _ hx hB).mono ?_
    rintro e w1 ⟨rfl, hb1⟩
    rw [HES.out]
    have hs1 := hb1.size
    have a1 : bits .and .i64 ((s : Int) / 65536) 255 = (s : Int) / 65536 % 256 := i64_and255 _
    have a2 : bits .and .i64 ((s : Int) / 256) 255 = (s : Int) / 256 % 256 := i64_and255 _
    have a3 : bits .and .i64 (s : Int) 255 = (s : Int) % 256 := i64_and255 _
    go_wp2_with fail
    clear a1 a2 a3
    have hown := own_lit w1 (tail4 s) (by rw [tail4_len]; omega)
    have hbA : Below w1.heap.size w1 (w1.alloc (.cells ((tail4 s).map (Value.int .i64)).toArray 2)) := (Below.refl _ _).alloc (Nat.le_refl _) _
    have hsA : (w1.alloc (.cells ((tail4 s).map (Value.int .i64)).toArray 2)).heap.size = w1.heap.size + 1 := by simp
    have hex : w1.alloc (.cells ((tail4 s).map (Value.int .i64)).toArray 2) = w1.alloc (Obj.cells #[Value.int IntKind.i64 ((s : Int) / 16777216), Value.int IntKind.i64 ((s : Int) / 65536 % 256), Value.int IntKind.i64 ((s : Int) / 256 % 256), Value.int IntKind.i64 ((s : Int) % 256)] 2) := rfl
    generalize w1.alloc (.cells ((tail4 s).map (Value.int .i64)).toArray 2) = wA at hown hbA hsA hex
    rw [← hex, ← hsA]
    obtain ⟨a4, c4, e4, hi4⟩ := hown.ints (bytes_i64 (tail4_bytes hsl))
    cases e4
    have hxA := (hx.below hb1 hB (Nat.le_refl _)).below hbA (by omega) (show B ≤ wA.heap.size by omega)
    have hi4' : Ints wA.heap.size wA (some ⟨w1.heap.size, 0, none⟩) 4 4 (tail4 s) := hi4
    refine (concat2_any _ ao (some ⟨w1.heap.size, 0, none⟩) n cap 4 4 xs (tail4 s) wA (Nat.le_refl _) hxA HZ.out hi4' (by intro h; cases h) (by rw [tail4_len]; have := HX.out; omega)).mono ?_
    rintro e w2 ⟨v, rfl, hown2, hb2⟩
    have hbw : Below w.heap.size w w2 := (hb1.trans (hbA.mono hs1)).trans (hb2.mono (by omega))
    have hownw : Own w.heap.size w2 v (xs ++ tail4 s) := hown2.mono (by omega)
    clear hex hsA
    go_wp2
    go_ret
    exact ⟨_, rfl, hownw, hbw⟩

end Go.Proofs.Ytdfcdemkmniknaa
