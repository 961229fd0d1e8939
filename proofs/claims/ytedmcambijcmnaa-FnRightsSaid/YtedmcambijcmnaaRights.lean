/- FnRights, the walk. -/
import Derived.Test.YtedmcambijcmnaaDrawRights
import Derived.Test.YtedmcambijcmnaaMathHeld
import Derived.Test.YtedmcambijcmnaaImplRight
import Derived.Test.YtedmcambijcmnaaBig
namespace Go.Proofs.Ytedmcambijcmnaa
open Go.RowKit

/-- What the first k nodes hold. -/
def heldTo (es : List Ent) : Nat → Int
  | 0 => 0
  | k + 1 => heldTo es k + heldBy es k
theorem heldTo_four {es : List Ent} (h : bookOk es = true) : heldTo es 4 = madeIn es - spentIn es := by
  have := held_total h
  simp only [heldTo]
  push_cast
  omega

set_option maxHeartbeats 4000000 in
set_option maxRecDepth 100000 in
theorem fnRights_any (ao : Option Addr) (n cap : Nat) (bs : List Int) (w : World) (hb : Bytes w.heap.size w ao n cap bs) :
    Calls Try.prog 3 #[.slice ao n cap] w (Yes w) := by
  by_cases hbig : 4096 < n
  · go_enter Try.func3, Try.ntmps3
    go_wp2_with fail
    refine (big_any _ _ _ _).mono ?_
    rintro e w1 ⟨rfl, rfl⟩
    rw [decide_eq_true hbig]
    go_wp2_with fail
    go_ret
    exact ⟨rfl, Below.refl _ _⟩
  · go_enter Try.func3, Try.ntmps3
    go_wp2_with fail
    refine (big_any _ _ _ _).mono ?_
    rintro e w1 ⟨rfl, rfl⟩
    rw [decide_eq_false hbig]
    go_wp2_with fail
    refine (drawHeldBy_any _ _ _ _ bs _ hb (Nat.le_refl _) (by omega)).mono ?_
    rintro e w2 ⟨v2, es, node, rfl, hown2, hall2, -, hnode, hb2⟩
    obtain ⟨a2, c2, rfl, hi2, -⟩ := hown2.ents hall2
    have hs2 := hb2.size
    have hbb2 := hb.below hb2 (Nat.le_refl _) (Nat.le_refl _)
    clear hown2 hall2 hb
    go_wp2_with fail
    refine (drawMadeIn_any _ _ _ _ bs _ hbb2 hb2.size (by omega)).mono ?_
    rintro e w3 ⟨v3, es3, rfl, hown3, hall3, -, hb3⟩
    obtain ⟨a3, c3, rfl, hi3, -⟩ := hown3.ents hall3
    have hs3 := hb3.size
    have hb13 := hb2.trans (hb3.mono hs2)
    have hbb3 := hbb2.below hb3 hs2 (Nat.le_refl _)
    clear hown3 hall3
    go_wp2_with fail
    refine (drawSpentIn_any _ _ _ _ bs _ hbb3 hb13.size (by omega)).mono ?_
    rintro e w4 ⟨v4, es4, rfl, hown4, hall4, -, hb4⟩
    obtain ⟨a4, c4, rfl, hi4, -⟩ := hown4.ents hall4
    have hs4 := hb4.size
    have hb14 := hb13.trans (hb4.mono hb13.size)
    have hi24 := (hi2.below hb3 (Nat.le_refl _) (Nat.le_refl _)).below hb4 hs3 (Nat.le_refl _)
    have hi34 := hi3.below hb4 (Nat.le_refl _) (Nat.le_refl _)
    have g2 : w2.heap.size ≤ w4.heap.size := by omega
    have KA : ∀ w', Below w4.heap.size w4 w' → Ents w2.heap.size w' a2 es.length c2 es ∧ Ents w3.heap.size w' a3 es3.length c3 es3 ∧ Ents w4.heap.size w' a4 es4.length c4 es4 := fun w' h =>
      ⟨hi24.below h g2 (Nat.le_refl _), hi34.below h hs4 (Nat.le_refl _), hi4.below h (Nat.le_refl _) (Nat.le_refl _)⟩
    have HA := Lib.hid KA; clear KA hi2 hi3 hi4 hi24 hi34 hown4 hall4 hbb2 hbb3 hb2 hb3 hb4 hb13
    have hI := fun B w h1 h2 => implHeldBy_any B a2 es.length c2 es node w h1 h2
    have hS := fun B w h1 h2 => specHeldBy_any B a2 es.length c2 es node w h1 h2
    generalize heldBy es node = hv at hI hS
    obtain ⟨x1, -, -⟩ := HA.out w4 (Below.refl _ _)
    go_wp2_with fail
    refine (hI _ _ x1 g2).mono ?_
    rintro e w5 ⟨rfl, hb5⟩
    have hs5 := hb5.size
    clear x1
    obtain ⟨x1, -, -⟩ := HA.out w5 hb5
    go_wp2_with fail
    refine (hS _ _ x1 (by omega)).mono ?_
    rintro e w6 ⟨rfl, hb6⟩
    have hb46 := hb5.trans (hb6.mono hs5)
    have hs6 := hb46.size
    clear x1 hb5 hb6 hI hS
    obtain ⟨-, x2, -⟩ := HA.out w6 hb46
    have hI := fun B w h1 h2 => implMadeIn_any B a3 es3.length c3 es3 w h1 h2
    have hS := fun B w h1 h2 => specMadeIn_any B a3 es3.length c3 es3 w h1 h2
    generalize madeIn es3 = mv at hI hS
    go_wp2_with fail
    refine (hI _ _ x2 (by omega)).mono ?_
    rintro e w7 ⟨rfl, hb7⟩
    have hb47 := hb46.trans (hb7.mono hs6)
    have hs7 := hb47.size
    clear x2 hb7
    obtain ⟨-, x2, -⟩ := HA.out w7 hb47
    go_wp2_with fail
    refine (hS _ _ x2 (by omega)).mono ?_
    rintro e w8 ⟨rfl, hb8⟩
    have hb48 := hb47.trans (hb8.mono hs7)
    have hs8 := hb48.size
    clear x2 hb8 hI hS
    obtain ⟨-, -, x3⟩ := HA.out w8 hb48
    have hI := fun B w h1 h2 => implSpentIn_any B a4 es4.length c4 es4 w h1 h2
    have hS := fun B w h1 h2 => specSpentIn_any B a4 es4.length c4 es4 w h1 h2
    generalize spentIn es4 = sv at hI hS
    go_wp2_with fail
    refine (hI _ _ x3 (by omega)).mono ?_
    rintro e w9 ⟨rfl, hb9⟩
    have hb49 := hb48.trans (hb9.mono hs8)
    have hs9 := hb49.size
    clear x3 hb9
    obtain ⟨-, -, x3⟩ := HA.out w9 hb49
    go_wp2_with fail
    refine (hS _ _ x3 (by omega)).mono ?_
    rintro e wA ⟨rfl, hbA⟩
    have hb4A := hb49.trans (hbA.mono hs9)
    have hsA := hb4A.size
    clear x3 hbA hI hS hb46 hb47 hb48 hb49
    obtain ⟨x1, -, -⟩ := HA.out wA hb4A
    have hB := fun B w h1 h2 => specBookOk_any B a2 es.length c2 es w h1 h2
    have hMI := fun B w h1 h2 => implMadeIn_any B a2 es.length c2 es w h1 h2
    have hSI := fun B w h1 h2 => implSpentIn_any B a2 es.length c2 es w h1 h2
    have hno : bookOk es = false → madeIn es = -1 ∧ spentIn es = -1 := fun h => ⟨madeIn_no h, spentIn_no h⟩
    have htot : bookOk es = true → heldTo es 4 = madeIn es - spentIn es := heldTo_four
    have hmr := madeIn_range es; have hsr := spentIn_range es
    generalize madeIn es = mm at hMI hno htot hmr
    generalize spentIn es = ss at hSI hno htot hsr
    generalize bookOk es = b at hB hno htot
    have HN := Lib.hid hno; have HT := Lib.hid htot; clear hno htot
    go_wp2_with fail
    refine (hB _ _ x1 (by omega)).mono ?_
    rintro e wB ⟨rfl, hbB⟩
    have hb4B := hb4A.trans (hbB.mono hsA)
    have hsB := hb4B.size
    clear x1 hbB hb4A
    have hb1B := hb14.trans (hb4B.mono hb14.size)
    obtain ⟨x1, -, -⟩ := HA.out wB hb4B
    rcases b with _ | _
    · obtain ⟨rfl, rfl⟩ := HN.out (by first | rfl | trivial)
      clear HN HT
      go_wp2_with fail
      refine (hMI _ _ x1 (by omega)).mono ?_
      rintro e wC ⟨rfl, hbC⟩
      have hb4C := hb4B.trans (hbC.mono hsB)
      have hb1C := hb1B.trans (hbC.mono hb1B.size)
      have hsC := hb4C.size
      clear x1
      obtain ⟨x1, -, -⟩ := HA.out wC hb4C
      go_wp2_with fail
      refine (hSI _ _ x1 (by omega)).mono ?_
      rintro e wD ⟨rfl, hbD⟩
      go_wp2_with fail
      go_ret
      exact ⟨rfl, hb1C.trans (hbD.mono hb1C.size)⟩
    · have ht := HT.out (by first | rfl | trivial)
      have HTT := Lib.hid ht; clear ht HN HT x1
      go_wp2
      go_loopw [7, 8] (fun sa sn wr => ∃ (i : Nat) (m : Int), i ≤ 4 ∧ sn = .int .i64 i ∧ sa = .int .i64 m ∧ Hid (heldTo es i = m) ∧ -(20000000 * (i : Int)) ≤ m ∧ m ≤ 20000000 * (i : Int) ∧ Below w4.heap.size w4 wr) (fun _ sn _ => 4 - (intOf sn).toNat)
      case atStart => exact ⟨0, 0, by omega, rfl, rfl, Lib.hid rfl, by omega, by omega, hb4B⟩
      case round =>
        obtain ⟨i, m, hi, rfl, rfl, hm, hm0, hm1, hbr⟩ := hrel
        have hsr' := hbr.size
        obtain ⟨x1, -, -⟩ := HA.out wr hbr
        by_cases hlt : i < 4
        · have hH := fun B w h1 h2 => implHeldBy_any B a2 es.length c2 es i w h1 h2
          have hrg := heldBy_range es (i : Int)
          have hstep : heldTo es (i + 1) = m + heldBy es i := by rw [← hm.out]; rfl
          generalize heldBy es (i : Int) = h at hH hrg hstep
          have HS := Lib.hid hstep; clear hstep
          obtain ⟨hr0, hr1⟩ := hrg
          have i2 : (i : Int) < 4 := by omega
          go_wp2_with fail
          refine (hH _ _ x1 (by omega)).mono ?_
          rintro e wT ⟨rfl, hbT⟩
          have hbN := hbr.trans (hbT.mono hsr')
          go_wp2
          go_roundw
          case rel => exact ⟨i + 1, m + h, by omega, by go_num, by go_num, HS, by omega, by omega, hbN⟩
          case measure => simp [intOf]; omega
        · have ei : i = 4 := by omega
          subst ei
          have hmm : m = mm - ss := hm.out.symm.trans HTT.out
          subst hmm
          have hb1r := hb14.trans (hbr.mono hb14.size)
          go_wp2_with fail
          refine (hMI _ _ x1 (by omega)).mono ?_
          rintro e wC ⟨rfl, hbC⟩
          have hb4C := hbr.trans (hbC.mono hsr')
          have hb1C := hb1r.trans (hbC.mono hb1r.size)
          have hsC := hb4C.size
          clear x1
          obtain ⟨x1, -, -⟩ := HA.out wC hb4C
          go_wp2_with fail
          refine (hSI _ _ x1 (by omega)).mono ?_
          rintro e wD ⟨rfl, hbD⟩
          go_wp2_with fail
          go_ret
          exact ⟨rfl, hb1C.trans (hbD.mono hb1C.size)⟩

end Go.Proofs.Ytedmcambijcmnaa
