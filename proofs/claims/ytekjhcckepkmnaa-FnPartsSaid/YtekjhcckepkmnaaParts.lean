/- FnParts, the walk. -/
import Derived.Test.YtekjhcckepkmnaaMathPart
import Derived.Test.YtekjhcckepkmnaaSpecPart
import Derived.Test.YtekjhcckepkmnaaDrawPart
import Derived.Test.YtekjhcckepkmnaaSpecJoined
import Derived.Test.YtekjhcckepkmnaaLikeBook
import Derived.Test.YtekjhcckepkmnaaBig
namespace Go.Proofs.Ytekjhcckepkmnaa
open Go.RowKit

theorem ents_zero (B : Nat) (w : World) (ao : Option Addr) : Ents B w ao 0 0 [] := ⟨rfl, Nat.le_refl _, Nat.zero_le _, fun j hj => absurd hj (by omega), fun e h => by cases h⟩

set_option maxHeartbeats 4000000 in
set_option maxRecDepth 100000 in
theorem fnParts_any (ao : Option Addr) (n cap : Nat) (bs : List Int) (w : World) (hb : Bytes w.heap.size w ao n cap bs) :
    Calls Try.prog 3 #[.slice ao n cap] w (Yes w) := by
  by_cases hbig : 4096 < n
  · go_enter Try.func3, Try.ntmps3
    go_wp2_with fail
    refine (big_any _ _ _ _).mono ?_
    rintro e w1 ⟨rfl, rfl⟩
    rw [decide_eq_true hbig]
    go_wp2_with fail
    go_ret
    exact ⟨rfl, Below.refl _ _⟩
  · go_enter Try.func3, Try.ntmps3
    go_wp2_with fail
    refine (big_any _ _ _ _).mono ?_
    rintro e w1 ⟨rfl, rfl⟩
    rw [decide_eq_false hbig]
    go_wp2_with fail
    refine (drawPartFor_any _ _ _ _ bs _ hb (Nat.le_refl _) (by omega)).mono ?_
    rintro e w2 ⟨v, es, a, m, c, ks, rfl, hown, hall, hlen, hi, hm, hb2⟩
    have hs2 := hb2.size
    obtain ⟨a5, c5, rfl, hx, -⟩ := hown.ents hall
    clear hown hb
    have KA : ∀ w', Below w2.heap.size w2 w' → Ents w2.heap.size w' a5 es.length c5 es ∧ Ints w2.heap.size w' a m c ks := fun w' h => ⟨hx.below h (Nat.le_refl _) (Nat.le_refl _), hi.below h (Nat.le_refl _) (Nat.le_refl _)⟩
    have HA := Lib.hid KA; clear KA
    have hpw := partFor_wf ks hall
    have hpl := partFor_len es ks
    obtain ⟨x1, x2⟩ := HA.out w2 (Below.refl _ _)
    go_wp2_with fail
    refine (implPartFor_any _ _ _ _ _ _ _ _ es ks w2 x1 x2 (Nat.le_refl _) (Nat.le_refl _)).mono ?_
    rintro e w3 ⟨v3, rfl, hown3, hb3⟩
    obtain ⟨a3, c3, rfl, hp3, -⟩ := hown3.ents hpw
    have hs3 := hb3.size
    clear hown3 x1 x2
    obtain ⟨x1, x2⟩ := HA.out w3 hb3
    go_wp2_with fail
    refine (specPartFor_any _ _ _ _ _ _ _ es ks w3 x1 x2 hs3).mono ?_
    rintro e w4 ⟨v4, rfl, hown4, hb4⟩
    obtain ⟨a4, c4, rfl, hp4, -⟩ := hown4.ents hpw
    have hs4 := hb4.size
    have hp34 := hp3.below hb4 (Nat.le_refl _) (Nat.le_refl _)
    have hb24 := hb3.trans (hb4.mono hs3)
    clear hown4 x1 x2 hp3
    go_wp2_with fail
    refine (likeBook_any _ _ _ _ _ _ _ _ _ _ _ hp34 hp4).mono ?_
    rintro e w5 ⟨rfl, hd5⟩
    rw [decide_eq_true rfl]
    have hb5 := hd5.below w4.heap.size
    have hb25 := hb24.trans (hb5.mono (by omega))
    have hp5 := hp34.below hb5 (by omega) (Nat.le_refl _)
    have hs5 := hb5.size
    clear hp34 hp4 hd5
    obtain ⟨x1, x2⟩ := HA.out w5 hb25
    have h1 := specBookOk_any _ _ _ _ es w5 x1 (by omega)
    have hno1 := @partFor_no1 es ks
    have hno2 := @partFor_no2 es ks
    have hyes := @partFor_yes es ks
    have hjoin := fun h => @parts_join es h ks
    have hpall := @part_all es
    have hpnone := @part_none es
    have hgood := fun h => @book_right es h
    have hl20 : bookOk es = true → es.length ≤ 20 := book_len
    have hoI := fun B C ao n cap m dap bo es' ks' w h1 h2 h3 h4 => implPartFor_any B C ao bo n cap m dap es' ks' w h1 h2 h3 h4
    generalize hBK : bookOk es = b1 at h1 hno1 hyes hjoin hpall hpnone hgood hl20
    generalize hVK : vecOk ks = b2 at hno2 hyes
    have hVS := fun B a' n' c' w h1 => specVecOk_any B a' n' c' ks w h1
    rw [hVK] at hVS
    have HBK := Lib.hid hBK; have HVK := Lib.hid hVK
    have HN1 := Lib.hid hno1; have HN2 := Lib.hid hno2; have HY := Lib.hid hyes; have HJ := Lib.hid hjoin; have HPA := Lib.hid hpall; have HPN := Lib.hid hpnone; have HG := Lib.hid hgood; have HL := Lib.hid hl20
    clear hno1 hno2 hyes hjoin hpall hpnone hgood hl20 hBK hVK hoI
    have hpl2 := Lib.hid hpl; clear hpl
    generalize hP : partFor es ks = ps at hp5 hpw hpl2 HN1 HN2 HY
    clear hP
    go_wp2_with fail
    refine h1.mono ?_
    rintro e w6 ⟨rfl, hb6⟩
    have hb26 := hb25.trans (hb6.mono (by omega))
    have hs6 := hb6.size
    have hp6 := hp5.below hb6 (by omega) (Nat.le_refl _)
    clear h1 x1 x2 hp5
    rcases b1 with _ | _
    · have hz : ps.length = 0 := by rw [HN1.out (by first | rfl | trivial)]; rfl
      have HZ := hz
      clear HN1 HN2 HY HJ HPA HPN HG HL hVS
      go_wp2_with fail
      go_ret
      exact ⟨rfl, hb2.trans (hb26.mono hs2)⟩
    · obtain ⟨x1, x2⟩ := HA.out w6 hb26
      go_wp2_with fail
      refine (hVS _ _ _ _ _ x2).mono ?_
      rintro e w7 ⟨rfl, hw7⟩
      subst hw7
      rcases b2 with _ | _
      · have hz : ps.length = 0 := by rw [HN2.out (by first | rfl | trivial)]; rfl
        have HZ := hz
        clear HN1 HN2 HY HJ HPA HPN HG HL hVS
        go_wp2_with fail
        go_ret
        exact ⟨rfl, hb2.trans (hb26.mono hs2)⟩
      · have hps := HY.out (by first | rfl | trivial) (by first | rfl | trivial)
        have HPS := Lib.hid hps
        have hok := HBK.out
        have hvk := HVK.out
        have hm4 : m = 4 := by have := vec_len hvk; have := hi.hlen; omega
        have hl20 := HL.out (by first | rfl | trivial)
        have hgood := HG.out (by first | rfl | trivial)
        have HGD := Lib.hid hgood; have HOK := Lib.hid hok
        have hjoin := HJ.out (by first | rfl | trivial)
        rw [← hps] at hjoin
        have HJN := Lib.hid hjoin
        have hpa := HPA.out (by first | rfl | trivial)
        have hpn := HPN.out (by first | rfl | trivial)
        have HPA2 := Lib.hid hpa; have HPN2 := Lib.hid hpn
        clear hps hok hvk hgood hjoin hpa hpn HN1 HN2 HY HJ HPA HPN HG HL hVS x1 x2 hx hi
        subst hm4
        have ho0 := ownE_empty w7
        have hbA : Below w7.heap.size w7 (w7.alloc (.cells #[] 33)) := (Below.refl _ _).alloc (Nat.le_refl _) _
        have hmx := (HA.out w7 hb26).1.hmax
        have hcx := (HA.out w7 hb26).1.hcap
        have hmy := (HA.out w7 hb26).2.hmax
        have hcy := (HA.out w7 hb26).2.hcap
        unfold maxLen at hmx hmy
        go_wp2
        go_loopw [6, 7] (fun s6 s7 wr => ∃ k : Nat, k ≤ es.length ∧ s7 = .int .i64 k ∧ OwnE w7.heap.size wr s6 (oldE (es.take k) ks) ∧ Below w7.heap.size w7 wr) (fun _ s7 _ => es.length - (intOf s7).toNat)
        case atStart => exact ⟨0, by omega, rfl, ho0, hbA⟩
        case round =>
          obtain ⟨k, hk, rfl, hown, hbel⟩ := hrel
          have hsz := hbel.size
          have hb2r := hb26.trans (hbel.mono (by omega))
          obtain ⟨x1, x2⟩ := HA.out wr hb2r
          by_cases hlt : k < es.length
          · obtain ⟨b, off, rfl, hbB, hc⟩ := x1.at k hlt
            have g1 := hc k hlt
            clear hc x1
            have hgood := Ent.ok_all (HGD.out k hlt).1
            have hyes := old_yes (known := ks) hlt
            have hno := old_no (known := ks) hlt
            have hql : (oldE (es.take k) ks).length ≤ 1099511627776 := by have := old_len (es.take k) ks; rw [List.length_take] at this; omega
            generalize E es k = x at g1 hgood hyes hno
            obtain ⟨j, hj⟩ : ∃ j : Nat, x.o = j := ⟨x.o.toNat, by omega⟩
            have hj4 : j < 4 := by omega
            have hnw : news ks x = decide (ks.getD j 0 < x.d) := by unfold news; rw [hj, Int.toNat_natCast]
            obtain ⟨b2, off2, rfl, hb2B, hcyy⟩ := x2.at j hj4
            have q0 := hcyy j hj4
            rw [hnw] at hyes hno
            obtain ⟨c0, c1, c2, c3⟩ := g1
            have c0' := c0
            rw [hj] at c0
            generalize ks.getD j 0 = z at q0 hyes hno
            have HJ := Lib.hid hj
            clear hcyy hnw hgood hj x2
            have i1 : (0 : Int) ≤ k := by omega
            have i2 : (k : Int) < es.length := by omega
            have j1 : (0 : Int) ≤ j := by omega
            have j2 : (j : Int) < 4 := by omega
            by_cases hz : z < x.d
            · have d1 : decide (z < x.d) = true := decide_eq_true hz
              have hnext := Lib.hid (hno d1)
              clear hyes hno
              go_wp2_with fail
              go_quiet (fail)
              go_wp2_with fail
              go_roundw
              case rel => exact ⟨k + 1, by omega, by go_num, by rw [hnext.out]; exact hown.below (below_drewN (Below.refl _ _) _) (Nat.le_refl _), below_drewN hbel _⟩
              case measure => simp [intOf]; omega
            · have d1 : decide (z < x.d) = false := decide_eq_false hz
              have hnext := Lib.hid (hyes d1)
              clear hyes hno
              go_wp2_with fail
              go_quiet (fail)
              have c0q := c0'
              clear c0
              go_wp2_with (at_builtin; refine appendE_one x rfl _ _ rfl w7.heap.size _ _ rfl rfl (hown.below (below_drewN (Below.refl _ _) _) (Nat.le_refl _)) hsz hql ?_; intro v' w' hown' hb')
              go_roundw
              case rel => exact ⟨k + 1, by omega, by go_num, by rw [hnext.out]; exact hown', (below_drewN hbel _).trans hb'⟩
              case measure => simp [intOf]; omega
          · have ek : k = es.length := by omega
            subst ek
            rw [List.take_of_length_le (Nat.le_refl _)] at hown
            obtain ⟨a8, c8, rfl, hk8, -⟩ := hown.ents (old_wf ks hall)
            have hp8 := hp6.below (hbel.mono (by omega)) (Nat.le_refl _) (show w3.heap.size ≤ wr.heap.size by omega)
            have hJ := specJoined_any _ _ _ _ _ _ _ _ _ wr hk8 hp8 (Nat.le_refl _)
            rw [HJN.out] at hJ
            unfold MaybeEs at hJ
            simp only [Option.isSome_some, Option.getD_some] at hJ
            have hoI := fun B C ao' n' cap' m' dap' bo' ks' w h1 h2 h3 h4 => implPartFor_any B C ao' bo' n' cap' m' dap' es ks' w h1 h2 h3 h4
            have hoI1 := hoI
            clear hown hk8 x1 x2 HJN hp6 hp8
            go_wp2_with fail
            refine hJ.mono ?_
            rintro e w9 ⟨v9, rfl, hown9, hb9⟩
            obtain ⟨a9, c9, rfl, hx9, -⟩ := hown9.ents hall
            clear hown9 hJ hoI hoI1
            have hb29 := hb2r.trans (hb9.mono (by omega))
            have hbB9 : Below w9.heap.size w9 (w9.alloc (.cells #[] 33)) := (Below.refl _ _).alloc (Nat.le_refl _) _
            have hs9 := hb29.size
            go_wp2_with fail
            generalize w9.alloc (.cells #[] 33) = wB at hbB9 ⊢
            have hx9B := hx9.below hbB9 (Nat.le_refl _) (Nat.le_refl _)
            have hsB := hbB9.size
            have hb2B := hb29.trans (hbB9.mono (by omega))
            refine (specVecOf_any wB.heap.size _ _ _ [] wB (ents_zero _ _ _) (Nat.le_refl _)).mono ?_
            rintro e wC ⟨vC, rfl, hownC, hbC⟩
            obtain ⟨aC, cC, rfl, hyC⟩ := hownC.ints (vecOf_i64 [])
            have hb2C := hb2B.trans (hbC.mono (by omega))
            have hx9C := hx9B.below hbC (by omega) (Nat.le_refl _)
            have hsC := hbC.size
            clear hownC hx9 hx9B hb2B hb29
            obtain ⟨x1, x2⟩ := HA.out wC hb2C
            have hD := implPartFor_any _ _ _ _ _ _ _ _ es _ wC x1 hyC (by omega) (Nat.le_refl _)
            rw [HPA2.out] at hD
            clear x1 x2 hyC
            go_wp2_with fail
            refine hD.mono ?_
            rintro e wD ⟨vD, rfl, hownD, hbD⟩
            obtain ⟨aD, cD, rfl, hxD, -⟩ := hownD.ents hall
            have hb2D := hb2C.trans (hbD.mono (by omega))
            have hx9D := hx9C.below hbD (by omega) (Nat.le_refl _)
            have hsD := hbD.size
            clear hownD hD hx9C
            obtain ⟨x1, x2⟩ := HA.out wD hb2D
            go_wp2_with fail
            refine (likeBook_any _ _ _ _ _ _ _ _ _ _ _ hx9D x1).mono ?_
            rintro e wE ⟨rfl, hdE⟩
            rw [decide_eq_true rfl]
            have hbE := hdE.below wD.heap.size
            have hb2E := hb2D.trans (hbE.mono (by omega))
            have hsE := hbE.size
            have hxE := hxD.below hbE (Nat.le_refl _) (Nat.le_refl _)
            clear x1 x2 hx9D hxD
            obtain ⟨x1, x2⟩ := HA.out wE hb2E
            go_wp2_with fail
            refine (likeBook_any _ _ _ _ _ _ _ _ _ _ _ hxE x1).mono ?_
            rintro e wF ⟨rfl, hdF⟩
            rw [decide_eq_true rfl]
            have hbF := hdF.below wE.heap.size
            have hb2F := hb2E.trans (hbF.mono (by omega))
            have hsF := hbF.size
            clear x1 x2 hxE
            obtain ⟨x1, x2⟩ := HA.out wF hb2F
            go_wp2_with fail
            refine (specVecOf_any _ _ _ _ _ wF x1 (by omega)).mono ?_
            rintro e wG ⟨vG, rfl, hownG, hbG⟩
            obtain ⟨aG, cG, rfl, hyG⟩ := hownG.ints (vecOf_i64 es)
            have hb2G := hb2F.trans (hbG.mono (by omega))
            have hsG := hbG.size
            clear hownG x1 x2
            obtain ⟨x1, x2⟩ := HA.out wG hb2G
            have hH := implPartFor_any _ _ _ _ _ _ _ _ es _ wG x1 hyG (by omega) (Nat.le_refl _)
            rw [HPN2.out] at hH
            clear x1 x2 hyG
            go_wp2_with fail
            refine hH.mono ?_
            rintro e wH ⟨vH, rfl, hownH, hbH⟩
            obtain ⟨aH, cH, rfl, hxH, -⟩ := hownH.ents (fun e he => by cases he)
            have hb2H := hb2G.trans (hbH.mono (by omega))
            go_wp2_with fail
            go_ret
            exact ⟨rfl, hb2.trans (hb2H.mono hs2)⟩

end Go.Proofs.Ytekjhcckepkmnaa
