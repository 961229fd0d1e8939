/-
  impl.entriesByKey, impl.BookOk.
-/
import Derived.Test.YtekjhcckepkmnaaRise
import Derived.Test.YtekjhcckepkmnaaDots
import Derived.Laws.EntriesVeiled
namespace Go.Proofs.Ytekjhcckepkmnaa
open Go.RowKit

theorem good_parts {es : List Ent} {i : Nat} (hr : Rise es (i + 1)) (hd : Differ es (i + 1)) : Good es i := by
  have h1 := hr i (by omega)
  refine ⟨?_, fun h0 => ?_, fun j hj => hd i (by omega) j hj⟩
  · have hge : 0 ≤ lastKey es i + 1 := by
      unfold lastKey
      split
      · omega
      · have h2 := hr (i - 1) (by omega)
        have h3 : -1 ≤ lastKey es (i - 1) := by
          clear h1 h2
          generalize i - 1 = k
          unfold lastKey
          split
          · omega
          · unfold Ent.key keyOf
            split
            · rename_i h
              have := Ent.ok_all (e := E es (k - 1)) h
              omega
            · omega
        omega
    cases hk : (E es i).ok with
    | true => rfl
    | false =>
      have h4 : (E es i).key = -1 := by unfold Ent.key; exact keyOf_no hk
      omega
  · unfold lastKey at h1
    rw [if_neg (by omega)] at h1
    exact h1

theorem parts_right {es : List Ent} {k : Nat} (h : Right es k) : Rise es k ∧ Differ es k := by
  refine ⟨fun i hi => ?_, fun i hi j hj => (h i hi).2.2 j hj⟩
  have h1 := Ent.key_ok (h i hi).1
  unfold lastKey
  split
  · omega
  · exact (h i hi).2.1 (by omega)

theorem book_parts (es : List Ent) : bookOk es = (rises es && differ es) := by
  rw [Bool.eq_iff_iff, Bool.and_eq_true]
  unfold bookOk rises differ
  rw [decide_eq_true_eq, decide_eq_true_eq, decide_eq_true_eq]
  refine ⟨fun h => parts_right h, fun ⟨h1, h2⟩ i hi => good_parts (fun j hj => h1 j (by omega)) (fun j hj => h2 j (by omega))⟩

set_option maxHeartbeats 400000 in
theorem entriesByKey_any (ao : Option Addr) (n cap : Nat) (w : World) :
    Calls Try.prog 43 #[.slice ao n cap] w (Says (.agg #[.slice ao n cap, .func (.func 56) #[] #[]]) w) := by
  go_enter Try.func43, Try.ntmps43
  go_wp2_with fail
  refine bodyPost_ret (v := .agg #[.slice ao n cap, .func (.func 56) #[] #[]]) (by simp [results, Try.results43, go_sem]) rfl ?_
  exact ⟨rfl, (Below.refl _ _).alloc (Nat.le_refl _) _⟩

set_option maxHeartbeats 400000 in
theorem implBookOk_any (B : Nat) (ao : Option Addr) (n cap : Nat) (es : List Ent) (w : World) (hx : Ents B w ao n cap es) (hB : B ≤ w.heap.size) :
    Calls Try.prog 26 #[.slice ao n cap] w (Says (.bool (bookOk es)) w) := by
  have h0 := fun w => entriesByKey_any ao n cap w
  have e1 : rises es = false → bookOk es = false := fun h => by rw [book_parts, h]; rfl
  have e2 : rises es = true → bookOk es = differ es := fun h => by rw [book_parts, h]; rfl
  generalize bookOk es = bb at e1 e2
  have E1 := Lib.hid e1; have E2 := Lib.hid e2; clear e1 e2
  go_enter Try.func26, Try.ntmps26
  go_wp2_with fail
  refine (h0 _).mono ?_
  rintro e w1 ⟨rfl, hb1⟩
  have hx1 := hx.below hb1 hB (Nat.le_refl B)
  have hs1 := hb1.size
  have h1 := rises_any B ao n cap es w1 hx1 (by omega)
  generalize rises es = b1 at h1 E1 E2
  go_wp2_with fail
  refine h1.mono ?_
  rintro e w2 ⟨rfl, hb2⟩
  have hb2' := hb1.trans (hb2.mono hs1)
  rcases b1 with _ | _
  · go_wp2_with fail
    go_ret
    exact ⟨ret_bool (E1.out (by first | rfl | trivial)).symm, hb2'⟩
  · have hx2 := hx.below hb2' hB (Nat.le_refl B)
    have hs2 := hb2'.size
    have h2 := dotsDiffer_any B ao n cap es w2 hx2 (by omega)
    have HE := Lib.hid (E2.out (by first | rfl | trivial)); clear E1 E2
    generalize differ es = b2 at h2 HE
    go_wp2_with fail
    refine h2.mono ?_
    rintro e w3 ⟨rfl, hb3⟩
    have hb3' := hb2'.trans (hb3.mono hs2)
    go_wp2_with fail
    go_ret
    exact ⟨ret_bool HE.out.symm, hb3'⟩

end Go.Proofs.Ytekjhcckepkmnaa
