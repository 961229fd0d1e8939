/- FnVectors, the walk. -/
import Derived.Test.YtbpoojibbakpnaaDrawVecs
import Derived.Test.YtbpoojibbakpnaaDrawVecOf
import Derived.Test.YtbpoojibbakpnaaMathLater
import Derived.Test.YtbpoojibbakpnaaLike
import Derived.Test.YtbpoojibbakpnaaImplVec
import Derived.Test.YtbpoojibbakpnaaImplVecOf
import Derived.Test.YtbpoojibbakpnaaBig
namespace Go.Proofs.Ytbpoojibbakpnaa
open Go.RowKit

set_option maxHeartbeats 4000000 in
set_option maxRecDepth 100000 in
theorem fnVectors_any (ao : Option Addr) (n cap : Nat) (bs : List Int) (w : World) (hb : Bytes w.heap.size w ao n cap bs) :
    Calls Try.prog 3 #[.slice ao n cap] w (Yes w) := by
  by_cases hbig : 4096 < n
  · go_enter Try.func3, Try.ntmps3
    go_wp2_with fail
    refine (big_any _ _ _ _).mono ?_
    rintro e w1 ⟨rfl, rfl⟩
    rw [decide_eq_true hbig]
    go_wp2_with fail
    go_ret
    exact ⟨rfl, Below.refl _ _⟩
  · go_enter Try.func3, Try.ntmps3
    go_wp2_with fail
    refine (big_any _ _ _ _).mono ?_
    rintro e w1 ⟨rfl, rfl⟩
    rw [decide_eq_false hbig]
    go_wp2_with fail
    refine (drawLater_any _ _ _ _ bs _ hb (Nat.le_refl _) (by omega)).mono ?_
    rintro e w2 ⟨a, na, ca, xs, b, nb, cb, ys, rfl, hia, hna, hib, hnb, -, -, hb2⟩
    have hs2 := hb2.size
    have hbb2 := hb.below hb2 (Nat.le_refl _) (Nat.le_refl _)
    have hll := later_len4 xs ys
    have hlw := later_i64 xs ys
    go_wp2_with fail
    refine (implLater_any _ _ _ _ _ _ _ _ _ _ _ hia hib (Nat.le_refl _) (Nat.le_refl _)).mono ?_
    rintro e w3 ⟨v3, rfl, hown3, hb3⟩
    obtain ⟨a3, c3, rfl, hi3⟩ := hown3.ints hlw
    have hs3 := hb3.size
    have hb13 := hb2.trans (hb3.mono hs2)
    have hbb3 := hbb2.below hb3 hs2 (Nat.le_refl _)
    clear hbb2 hb hown3
    go_wp2_with fail
    refine (drawCovers_any _ _ _ _ bs _ hbb3 hb13.size (by omega)).mono ?_
    rintro e w4 ⟨p, np, cp, zs, q, nq, cq, us, rfl, hip, -, hiq, -, -, -, hb4⟩
    have hs4 := hb4.size
    have hb34 := hb3.trans (hb4.mono hs3)
    have hb14 := hb13.trans (hb4.mono hb13.size)
    have hbb4 := hbb3.below hb4 hb13.size (Nat.le_refl _)
    go_wp2_with fail
    refine (drawVecOf_any _ _ _ _ bs _ hbb4 hb14.size (by omega)).mono ?_
    rintro e w5 ⟨v5, es, rfl, hown5, hall5, hlen5, hb5⟩
    have hs5 := hb5.size
    obtain ⟨a5, c5, rfl, hi5, -⟩ := hown5.ents hall5
    have hb15 := hb14.trans (hb5.mono hb14.size)
    have hbb5 := hbb4.below hb5 hb14.size (Nat.le_refl _)
    clear hown5 hall5 hlen5 hbb3 hbb4
    go_wp2_with fail
    refine (drawVecOk_any _ _ _ _ bs _ hbb5 hb15.size (by omega)).mono ?_
    rintro e w6 ⟨a6, n6, c6, ks, rfl, hi6, -, hb6⟩
    have hs6 := hb6.size
    have hb16 := hb15.trans (hb6.mono hb15.size)
    have hb56 := hb5.trans (hb6.mono hs5)
    have hb46 := hb56
    have hia6 := (hia.below hb34 (Nat.le_refl _) (Nat.le_refl _)).below hb46 (by omega) (Nat.le_refl _)
    have hib6 := (hib.below hb34 (Nat.le_refl _) (Nat.le_refl _)).below hb46 (by omega) (Nat.le_refl _)
    have hi36 := (hi3.below hb4 (Nat.le_refl _) (Nat.le_refl _)).below hb46 (by omega) (Nat.le_refl _)
    have hip6 := hip.below hb46 (Nat.le_refl _) (Nat.le_refl _)
    have hiq6 := hiq.below hb46 (Nat.le_refl _) (Nat.le_refl _)
    have hi56 := hi5.below hb6 (Nat.le_refl _) (Nat.le_refl _)
    have g2 : w2.heap.size ≤ w6.heap.size := by omega
    have g3 : w3.heap.size ≤ w6.heap.size := by omega
    have g4 : w4.heap.size ≤ w6.heap.size := by omega
    clear hia hib hi3 hip hiq hi5 hbb5 hb34 hb46 hb56 hb13 hb14 hb15 hb2 hb3 hb4 hb5 hb6
    have KA : ∀ w', Below w6.heap.size w6 w' → Ints w2.heap.size w' a na ca xs ∧ Ints w2.heap.size w' b nb cb ys ∧ Ints w3.heap.size w' a3 (later xs ys).length c3 (later xs ys) := fun w' h =>
      ⟨hia6.below h g2 (Nat.le_refl _), hib6.below h g2 (Nat.le_refl _), hi36.below h g3 (Nat.le_refl _)⟩
    have KB : ∀ w', Below w6.heap.size w6 w' → Ints w4.heap.size w' p np cp zs ∧ Ints w4.heap.size w' q nq cq us ∧ Ents w5.heap.size w' a5 es.length c5 es ∧ Ints w6.heap.size w' a6 n6 c6 ks := fun w' h =>
      ⟨hip6.below h g4 (Nat.le_refl _), hiq6.below h g4 (Nat.le_refl _), hi56.below h hs6 (Nat.le_refl _), hi6.below h (Nat.le_refl _) (Nat.le_refl _)⟩
    have HA := Lib.hid KA; have HB := Lib.hid KB; clear KA KB hia6 hib6 hi36 hip6 hiq6 hi56 hi6
    obtain ⟨x1, x2, -⟩ := HA.out w6 (Below.refl _ _)
    go_wp2_with fail
    refine (specLater_any _ _ _ _ _ _ _ _ _ _ _ x1 x2 g2 g2).mono ?_
    rintro e w7 ⟨v7, rfl, hown7, hb7⟩
    obtain ⟨a7, c7, rfl, hi7⟩ := hown7.ints hlw
    have hs7 := hb7.size
    clear hown7 x1 x2
    obtain ⟨-, -, x3⟩ := HA.out w7 hb7
    go_wp2_with fail
    refine (likeInts_any _ _ _ _ _ _ _ _ _ _ _ x3 hi7).mono ?_
    rintro e w8 ⟨rfl, hd8⟩
    rw [decide_eq_true rfl]
    have hb8 := hb7.trans ((hd8.below w7.heap.size).mono hs7)
    have hs8 := hb8.size
    clear hi7 x3 hd8
    obtain ⟨y1, y2, -, -⟩ := HB.out w8 hb8
    have hCI := fun B C w h1 h2 h3 h4 => implCovers_any B C p q np cp nq cq zs us w h1 h2 h3 h4
    have hCS := fun B C w h1 h2 => specCovers_any B C p q np cp nq cq zs us w h1 h2
    generalize covers zs us = cz at hCI hCS
    go_wp2_with fail
    refine (hCI _ _ _ y1 y2 (by omega) (by omega)).mono ?_
    rintro e w9 ⟨rfl, hb9⟩
    have hb69 := hb8.trans (hb9.mono hs8)
    have hs9 := hb69.size
    clear y1 y2 hb7 hb8 hb9
    obtain ⟨y1, y2, -, -⟩ := HB.out w9 hb69
    go_wp2_with fail
    refine (hCS _ _ _ y1 y2).mono ?_
    rintro e wA ⟨rfl, hdA⟩
    have hb6A := hb69.trans ((hdA.below w6.heap.size))
    have hsA := hb6A.size
    clear y1 y2 hCI hCS hdA hb69
    obtain ⟨-, -, y3, -⟩ := HB.out wA hb6A
    go_wp2_with fail
    refine (implVecOf_any _ _ _ _ _ _ y3 (by omega)).mono ?_
    rintro e wB ⟨vB, rfl, hownB, hbB⟩
    obtain ⟨aB, cB, rfl, hiB⟩ := hownB.ints (vecOf_i64 es)
    have hb6B := hb6A.trans (hbB.mono hsA)
    have hsB := hb6B.size
    clear y3 hownB
    obtain ⟨-, -, y3, -⟩ := HB.out wB hb6B
    go_wp2_with fail
    refine (specVecOf_any _ _ _ _ _ _ y3 (by omega)).mono ?_
    rintro e wC ⟨vC, rfl, hownC, hbC⟩
    obtain ⟨aC, cC, rfl, hiC⟩ := hownC.ints (vecOf_i64 es)
    have hb6C := hb6B.trans (hbC.mono hsB)
    have hsC := hb6C.size
    have hiBC := hiB.below hbC (Nat.le_refl _) (Nat.le_refl _)
    clear y3 hownC hiB hb6A hb6B hbB hbC
    go_wp2_with fail
    refine (likeInts_any _ _ _ _ _ _ _ _ _ _ _ hiBC hiC).mono ?_
    rintro e wD ⟨rfl, hdD⟩
    rw [decide_eq_true rfl]
    have hb6D := hb6C.trans (hdD.below w6.heap.size)
    have hsD := hb6D.size
    clear hiBC hiC hdD hb6C
    obtain ⟨-, -, -, y4⟩ := HB.out wD hb6D
    have hKI := fun B w h1 h2 => implVecOk_any B a6 n6 c6 ks w h1 h2
    have hKS := fun B w h1 => specVecOk_any B a6 n6 c6 ks w h1
    generalize vecOk ks = bk at hKI hKS
    go_wp2_with fail
    refine (hKI _ _ y4 (by omega)).mono ?_
    rintro e wE ⟨rfl, hbE⟩
    have hb6E := hb6D.trans (hbE.mono hsD)
    have hsE := hb6E.size
    clear y4 hbE hb6D
    obtain ⟨-, -, -, y4⟩ := HB.out wE hb6E
    go_wp2_with fail
    refine (hKS _ _ y4).mono ?_
    rintro e wF ⟨rfl, rfl⟩
    clear y4 hKI hKS HB
    obtain ⟨x1, x2, x3⟩ := HA.out wF hb6E
    have hb1F := hb16.trans (hb6E.mono hb16.size)
    by_cases hgood : vecOk xs = true ∧ vecOk ys = true
    · obtain ⟨hl4, hc1, hc2, hc3⟩ := later_ok hgood.1 hgood.2
      have hC1 := fun B C w h1 h2 h3 h4 => implCovers_any B C a3 a 4 c3 na ca (later xs ys) xs w h1 h2 h3 h4
      have hC2 := fun B C w h1 h2 h3 h4 => implCovers_any B C a3 b 4 c3 nb cb (later xs ys) ys w h1 h2 h3 h4
      have hC3 := fun B C w h1 h2 h3 h4 => implCovers_any B C a b na ca nb cb xs ys w h1 h2 h3 h4
      rw [hc1] at hC1; rw [hc2] at hC2; rw [hc3] at hC3
      rw [hl4] at HA x3 ⊢
      clear hl4 hc1 hc2 hc3 hgood hll
      have hL := fun w h1 h2 => likeInts_any w3.heap.size w2.heap.size a3 a 4 c3 na ca (later xs ys) xs w h1 h2
      generalize decide (later xs ys = xs) = dd at hC3 hL
      go_wp2_with fail
      refine (hC1 _ _ _ x3 x1 (by omega) (by omega)).mono ?_
      rintro e wG ⟨rfl, hbG⟩
      have hb6G := hb6E.trans (hbG.mono hsE)
      have hb1G := hb1F.trans (hbG.mono hb1F.size)
      have hsG := hb6G.size
      clear x1 x2 x3 hbG
      obtain ⟨x1, x2, x3⟩ := HA.out wG hb6G
      go_wp2_with fail
      refine (hC2 _ _ _ x3 x2 (by omega) (by omega)).mono ?_
      rintro e wH ⟨rfl, hbH⟩
      have hb6H := hb6G.trans (hbH.mono hsG)
      have hb1H := hb1G.trans (hbH.mono hb1G.size)
      have hsH := hb6H.size
      clear x1 x2 x3 hbH
      obtain ⟨x1, x2, x3⟩ := HA.out wH hb6H
      go_wp2_with fail
      refine (hC3 _ _ _ x1 x2 (by omega) (by omega)).mono ?_
      rintro e wI ⟨rfl, hbI⟩
      have hb6I := hb6H.trans (hbI.mono hsH)
      have hb1I := hb1H.trans (hbI.mono hb1H.size)
      clear x1 x2 x3 hbI
      obtain ⟨x1, x2, x3⟩ := HA.out wI hb6I
      go_wp2_with fail
      refine (hL _ x3 x1).mono ?_
      rintro e wJ ⟨rfl, hdJ⟩
      cases dd
      all_goals
        go_wp2_with fail
        go_ret
        exact ⟨rfl, hb1I.trans (hdJ.below _)⟩
    · have hnil := later_bad hgood
      rw [hnil] at hll hlw HA x3 ⊢
      have hV1 := fun w h => specVecOk_any w2.heap.size a na ca xs w h
      have hV2 := fun w h => specVecOk_any w2.heap.size b nb cb ys w h
      generalize vecOk xs = b1 at hV1 hgood
      generalize vecOk ys = b2 at hV2 hgood
      rcases b1 with _ | _
      · go_wp2_with fail
        refine (hV1 _ x1).mono ?_
        rintro e wG ⟨rfl, rfl⟩
        go_wp2_with fail
        go_ret
        exact ⟨rfl, hb1F⟩
      · rcases b2 with _ | _
        · go_wp2_with fail
          refine (hV1 _ x1).mono ?_
          rintro e wG ⟨rfl, rfl⟩
          go_wp2_with fail
          refine (hV2 _ x2).mono ?_
          rintro e wH ⟨rfl, rfl⟩
          go_wp2_with fail
          go_ret
          exact ⟨rfl, hb1F⟩
        · exact absurd ⟨rfl, rfl⟩ hgood

end Go.Proofs.Ytbpoojibbakpnaa
