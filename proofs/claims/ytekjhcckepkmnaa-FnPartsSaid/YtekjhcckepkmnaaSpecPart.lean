/-
  spec.PartFor.
-/
import Derived.Test.YtekjhcckepkmnaaImplPart
import Derived.Test.YtekjhcckepkmnaaSpecBookOk
namespace Go.Proofs.Ytekjhcckepkmnaa
open Go.RowKit

set_option maxHeartbeats 1000000 in
set_option maxRecDepth 100000 in
theorem specPartFor_any (B : Nat) (ao bo : Option Addr) (n cap m dap : Nat) (es : List Ent) (ks : List Int) (w : World) (hx : Ents B w ao n cap es) (hy : Ints B w bo m dap ks) (hB : B ≤ w.heap.size) :
    Calls Try.prog 9 #[.slice ao n cap, .slice bo m dap] w (NewEs (partFor es ks) w) := by
  have hyes := @partFor_yes es ks
  have hno1 := @partFor_no1 es ks
  have hno2 := @partFor_no2 es ks
  have hlen := hy.hlen
  generalize partFor es ks = res at hyes hno1 hno2 ⊢
  have h1 := specBookOk_any B ao n cap es w hx hB
  have h2 := fun w' (h : Below w.heap.size w w') => specVecOk_any B bo m dap ks w' (hy.below h hB (Nat.le_refl _))
  have h3 := fun w' (h : Below w.heap.size w w') (hok : bookOk es = true) (hm : m = 4) => l10Part_any B ao n cap es bo m dap ks w' (hx.below h hB (Nat.le_refl _)) (hy.below h hB (Nat.le_refl _)) (by have := h.size; omega) hok hm
  have hm4 : vecOk ks = true → m = 4 := fun h => by have := vec_len h; omega
  generalize bookOk es = v1 at h1 h3 hyes hno1
  generalize vecOk ks = v2 at h2 hyes hno2 hm4
  have H2 := Lib.hid h2; have H3 := Lib.hid h3; have HM := Lib.hid hm4
  clear h2 h3 hm4 hlen
  go_enter Try.func9, Try.ntmps9
  go_wp2_with fail
  refine h1.mono ?_
  rintro e w1 ⟨rfl, hb1⟩
  have hs1 := hb1.size
  rcases v1 with _ | _
  · have hn := Lib.hid (hno1 (by first | rfl | trivial))
    clear hyes hno1 hno2
    go_wp2_with fail
    go_ret
    exact ⟨_, rfl, by rw [hn.out]; exact (ownE_empty _).mono hs1, hb1.alloc hs1 _⟩
  · go_wp2_with fail
    refine (H2.out _ hb1).mono ?_
    rintro e w2 ⟨rfl, hd2⟩
    have hb2 : Below w.heap.size w w2 := by rw [hd2]; exact hb1
    clear hd2
    have hs2 := hb2.size
    rcases v2 with _ | _
    · have hn := Lib.hid (hno2 (by first | rfl | trivial))
      clear hyes hno1 hno2
      go_wp2_with fail
      go_ret
      exact ⟨_, rfl, by rw [hn.out]; exact (ownE_empty _).mono hs2, hb2.alloc hs2 _⟩
    · have hn := Lib.hid (hyes (by first | rfl | trivial) (by first | rfl | trivial))
      clear hyes hno1 hno2
      go_wp2_with fail
      refine (H3.out _ hb2 (by first | rfl | trivial) (HM.out (by first | rfl | trivial))).mono ?_
      rintro e w3 ⟨v, rfl, hown, hb3⟩
      go_wp2_with fail
      go_ret
      exact ⟨_, rfl, by rw [hn.out]; exact hown.mono hs2, hb2.trans (hb3.mono hs2)⟩

end Go.Proofs.Ytekjhcckepkmnaa
