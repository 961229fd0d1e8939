/-
  What is drawn for chapter 5.
-/
import Derived.Test.YtbpoojibbakpnaaDraw5
import Derived.Test.YtbpoojibbakpnaaDiceNew
import Derived.Test.YtbpoojibbakpnaaVec
namespace Go.Proofs.Ytbpoojibbakpnaa
open Go.RowKit

def IntsOneDrawn (w : World) (e : Ending) (w' : World) : Prop := ∃ a n c xs, e = .returned (.slice a n c) ∧ Ints w'.heap.size w' a n c xs ∧ n ≤ 4 ∧ Below w.heap.size w w'
def IntsTwoDrawn (w : World) (e : Ending) (w' : World) : Prop := ∃ a n c xs b m d ys, e = .returned (.tuple #[.slice a n c, .slice b m d]) ∧ Ints w'.heap.size w' a n c xs ∧ n ≤ 4 ∧ Ints w'.heap.size w' b m d ys ∧ m ≤ 4 ∧ Far w.heap.size a ∧ Far w.heap.size b ∧ Below w.heap.size w w'

set_option maxHeartbeats 1000000 in
theorem drawVecOk_any (B : Nat) (ao : Option Addr) (n cap : Nat) (bs : List Int) (w : World) (hb : Bytes B w ao n cap bs) (hB : B ≤ w.heap.size) (hn : n ≤ 1099511627776) :
    Calls Try.prog 13 #[.slice ao n cap] w (IntsOneDrawn w) := by
  go_enter Try.func13, Try.ntmps13
  go_wp2_with fail
  refine (l1New_any B _ _ _ bs _ hb hB hn).mono ?_
  rintro e w1 ⟨rfl, hd1, hb1⟩
  go_wp2_with fail
  refine (l5DrawAny_any _ _ _ hd1).mono ?_
  rintro e w2 ⟨a, m, c, xs, rfl, hi, -, hm, -, hk, hd2⟩
  go_wp2_with fail
  go_ret
  exact ⟨a, m, c, xs, rfl, hi, hm, hb1.trans (hk.below (Nat.le_refl _) hb1.size)⟩

set_option maxHeartbeats 1000000 in
theorem drawLater_any (B : Nat) (ao : Option Addr) (n cap : Nat) (bs : List Int) (w : World) (hb : Bytes B w ao n cap bs) (hB : B ≤ w.heap.size) (hn : n ≤ 1099511627776) :
    Calls Try.prog 9 #[.slice ao n cap] w (IntsTwoDrawn w) := by
  go_enter Try.func9, Try.ntmps9
  go_wp2_with fail
  refine (l1New_any B _ _ _ bs _ hb hB hn).mono ?_
  rintro e w1 ⟨rfl, hd1, hb1⟩
  have hg := hd1.hg
  go_wp2_with fail
  refine (l5DrawAny_any _ _ _ hd1).mono ?_
  rintro e w2 ⟨a, m, c, xs, rfl, hi, hf, hm, -, hk, hd2⟩
  go_wp2_with fail
  refine (l5DrawAny_any _ _ _ hd2).mono ?_
  rintro e w3 ⟨b, q, d, ys, rfl, hj, hfj, hq, -, hk3, hd3⟩
  have hi3 := (hi.keeps hf hk3 hg).wider hk3.size
  go_wp2_with fail
  go_ret2
  exact ⟨a, m, c, xs, b, q, d, ys, rfl, hi3, hm, hj, hq, hf.mono hb1.size, hfj.mono (Nat.le_trans hb1.size hk.size), hb1.trans ((hk.trans hk3).below (Nat.le_refl _) hb1.size)⟩

set_option maxHeartbeats 1000000 in
set_option maxRecDepth 100000 in
theorem drawCovers_any (B : Nat) (ao : Option Addr) (n cap : Nat) (bs : List Int) (w : World) (hb : Bytes B w ao n cap bs) (hB : B ≤ w.heap.size) (hn : n ≤ 1099511627776) :
    Calls Try.prog 11 #[.slice ao n cap] w (IntsTwoDrawn w) := by
  go_enter Try.func11, Try.ntmps11
  go_wp2_with fail
  refine (l1New_any B _ _ _ bs _ hb hB hn).mono ?_
  rintro e w1 ⟨rfl, hd1, hb1⟩
  go_wp2_with fail
  refine (drawLater_any _ _ _ _ bs _ (hb.below hb1 hB (Nat.le_refl _)) (Nat.le_trans hB hb1.size) hn).mono ?_
  rintro e w2 ⟨a, m, c, xs, b, q, d, ys, rfl, hi, hm, hj, hq, hfa, hfb, hb2⟩
  have hb02 := hb1.trans (hb2.mono hb1.size)
  have hd2 := hd1.below hb2
  have hg1 := hd1.hg
  go_wp2_with fail
  refine (l1Once_any _ _ 2 _ hd2 ⟨by decide, by decide⟩).mono ?_
  rintro e w3 ⟨b3, rfl, ho3, hd3⟩
  have hi3 := (hi.keeps hfa ho3.keeps hg1).wider ho3.grown.size
  have hj3 := (hj.keeps hfb ho3.keeps hg1).wider ho3.grown.size
  have hb03 := hb02.trans (ho3.keeps.below (Nat.le_refl _) hb02.size)
  have hfa0 := hfa.mono hb1.size
  have hfb0 := hfb.mono hb1.size
  have hs03 := hb03.size
  clear hi hj hd1 hd2 hd3 ho3 hb1 hb2 hb02
  have hyes := Lib.hid (show IntsTwoDrawn w (.returned (.tuple #[.slice a m c, .slice b q d])) w3 from ⟨a, m, c, xs, b, q, d, ys, rfl, hi3, hm, hj3, hq, hfa0, hfb0, hb03⟩)
  have hv1 := specVecOk_any _ _ _ _ _ _ hi3
  have hv2 := specVecOk_any _ _ _ _ _ _ hj3
  have hl := specLater_any _ _ _ _ _ _ _ _ _ _ _ hi3 hj3 (Nat.le_refl _) (Nat.le_refl _)
  have hll : (later xs ys).length ≤ 4 := by
    unfold later
    split
    · have := hi3.hlen; simp; omega
    · simp
  have hlw : AllI64 (later xs ys) := by
    intro z hz
    unfold later at hz
    split at hz
    · rename_i hh
      obtain ⟨i, hi, rfl⟩ := List.mem_iff_getElem.1 hz
      simp at hi ⊢
      have h1 := vec_len hh.1; have h2 := vec_len hh.2
      have e1 := vec_get hh.1 i (by omega)
      have e2 := vec_get hh.2 i (by omega)
      simp [List.getD, show i < xs.length by omega, show i < ys.length by omega] at e1 e2
      unfold I64
      omega
    · cases hz
  generalize vecOk xs = b1 at hv1
  generalize vecOk ys = b2 at hv2
  rcases b3 with _ | _
  · go_wp2_with fail
    go_ret2
    exact hyes.out
  · go_wp2_with fail
    refine hv1.mono ?_
    rintro e w4 ⟨rfl, rfl⟩
    rcases b1 with _ | _
    · go_wp2_with fail
      go_ret2
      exact hyes.out
    · go_wp2_with fail
      refine hv2.mono ?_
      rintro e w5 ⟨rfl, rfl⟩
      rcases b2 with _ | _
      · go_wp2_with fail
        go_ret2
        exact hyes.out
      · go_wp2_with fail
        refine hl.mono ?_
        rintro e w6 ⟨v6, rfl, hown6, hb6⟩
        obtain ⟨a6, c6, rfl, hi6, hz6, hf6⟩ := hown6.far hlw
        have hj6 := hj3.below hb6 (Nat.le_refl _) hb6.size
        clear hyes
        go_wp2_with fail
        go_ret2
        exact ⟨_, _, _, _, _, _, _, _, rfl, hi6, hll, hj6, hq, hf6.mono hs03, hfb0, hb03.trans (hb6.mono hs03)⟩

end Go.Proofs.Ytbpoojibbakpnaa
