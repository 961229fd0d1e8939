/- FnBooks, the walk. -/
import Derived.Test.YtekkjfhmabefoaaDrawBooks
import Derived.Test.YtekkjfhmabefoaaMathPut
import Derived.Test.YtekkjfhmabefoaaLikeBook
import Derived.Test.YtekkjfhmabefoaaImplWith
import Derived.Test.YtekkjfhmabefoaaImplAmount
import Derived.Test.YtekkjfhmabefoaaBig
namespace Go.Proofs.Ytekkjfhmabefoaa
open Go.RowKit

set_option maxHeartbeats 4000000 in
set_option maxRecDepth 100000 in
theorem fnBooks_any (ao : Option Addr) (n cap : Nat) (bs : List Int) (w : World) (hb : Bytes w.heap.size w ao n cap bs) :
    Calls Try.prog 3 #[.slice ao n cap] w (Yes w) := by
  by_cases hbig : 4096 < n
  · go_enter Try.func3, Try.ntmps3
    go_wp2_with fail
    refine (big_any _ _ _ _).mono ?_
    rintro e w1 ⟨rfl, rfl⟩
    rw [decide_eq_true hbig]
    go_wp2_with fail
    go_ret
    exact ⟨rfl, Below.refl _ _⟩
  · go_enter Try.func3, Try.ntmps3
    go_wp2_with fail
    refine (big_any _ _ _ _).mono ?_
    rintro e w1 ⟨rfl, rfl⟩
    rw [decide_eq_false hbig]
    go_wp2_with fail
    refine (drawWith_any _ _ _ _ bs _ hb (Nat.le_refl _) (by omega)).mono ?_
    rintro e w2 ⟨v2, l, x, rfl, hown2, hall2, hlen2, hxw, hb2⟩
    obtain ⟨a2, c2, rfl, hi2, hz2⟩ := hown2.ents hall2
    have hs2 := hb2.size
    have hE := Blk.new w2 26 #[.int .i64 x.o, .int .i64 x.s, .int .i64 x.a, .int .i64 x.d]
    have hbE2 : Below w2.heap.size w2 (w2.alloc (.cells #[.int .i64 x.o, .int .i64 x.s, .int .i64 x.a, .int .i64 x.d] 26)) := (Below.refl _ _).alloc (Nat.le_refl _) _
    have hbE := hb2.trans (hbE2.mono hs2)
    have hi2E := hi2.below hbE2 (Nat.le_refl _) (Nat.le_refl _)
    have hsE : (w2.alloc (.cells #[.int .i64 x.o, .int .i64 x.s, .int .i64 x.a, .int .i64 x.d] 26)).heap.size = w2.heap.size + 1 := by simp
    have c0 := hE.cell 0; have c1 := hE.cell 1; have c2' := hE.cell 2; have c3 := hE.cell 3
    obtain ⟨nl, hnl⟩ : ∃ nl, l.length = nl := ⟨_, rfl⟩
    rw [hnl] at hi2 hi2E hlen2 ⊢
    have HNL := Lib.hid hnl; clear hnl
    go_wp2_with fail
    generalize w2.alloc (.cells #[.int .i64 x.o, .int .i64 x.s, .int .i64 x.a, .int .i64 x.d] 26) = wE at hE hbE2 hbE hi2E hsE c0 c1 c2' c3 ⊢
    have HZ2 := Lib.hid hz2; clear hz2
    have hbb := hb.below hbE (Nat.le_refl _) (Nat.le_refl _)
    have hwI := implWith_any w2.heap.size a2 nl c2 l x wE hi2E HZ2.out (by omega) hxw
    have hwS := fun w h1 h2 => specWith_any w2.heap.size a2 nl c2 l x w h1 HZ2.out h2 hxw
    have hput := fun r h => amountAt_put (es := l) (r := r) (e := x) h
    have hrok := fun r h => withR_ok (es := l) (r := r) (e := x) h
    have hrl := fun r h => withR_len (es := l) (x := x) (r := r) h
    generalize withR l x = r at hwI hwS hput hrok hrl
    have HP := Lib.hid hput; have HRO := Lib.hid hrok; have HRL := Lib.hid hrl
    clear hput hrok hrl hown2 hb2
    refine hwI.mono ?_
    rintro e w3 ⟨v3, rfl, hown3, hb3⟩
    clear hwI
    have hs3 := hb3.size
    have hE3 := hE.below hb3 (by omega)
    have hi23 := hi2E.below hb3 (by omega) (Nat.le_refl _)
    have hb13 := hbE.trans (hb3.mono hbE.size)
    clear c0 c1 c2' c3
    have c0 := hE3.cell 0; have c1 := hE3.cell 1; have c2' := hE3.cell 2; have c3 := hE3.cell 3
    go_wp2_with fail
    refine (hwS w3 hi23 (by omega)).mono ?_
    rintro e w4 ⟨v4, rfl, hown4, hb4⟩
    clear hwS
    have hs4 := hb4.size
    have hE4 := hE3.below hb4 (by omega)
    have hi24 := hi23.below hb4 (by omega) (Nat.le_refl _)
    have hown34 := hown3.below hb4 (Nat.le_refl _)
    have hb14 := hb13.trans (hb4.mono hb13.size)
    have hbb4 := hbb.below (hb3.trans (hb4.mono hs3)) hbE.size (Nat.le_refl _)
    clear c0 c1 c2' c3 hown3 hi23 hE3 hE hi2E hi2
    go_wp2_with fail
    refine (drawAmountAt_any _ _ _ _ bs _ hbb4 hb14.size (by omega)).mono ?_
    rintro e w5 ⟨v5, b, o, s, rfl, hown5, hall5, hlen5, ho, hs, hb5⟩
    have hs5 := hb5.size
    have hE5 := hE4.below hb5 (by omega)
    have hi25 := hi24.below hb5 (by omega) (Nat.le_refl _)
    have hown35 := hown34.below hb5 (Nat.le_refl _)
    have hown45 := hown4.below hb5 (Nat.le_refl _)
    have hb15 := hb14.trans (hb5.mono hb14.size)
    have hbb5 := hbb4.below hb5 hb14.size (Nat.le_refl _)
    clear hown34 hown4 hi24 hE4 hbb4 hbb
    go_wp2_with fail
    refine (drawBookOk_any _ _ _ _ bs _ hbb5 hb15.size (by omega)).mono ?_
    rintro e w6 ⟨v6, k, rfl, hown6, hall6, hlen6, hb6⟩
    have hs6 := hb6.size
    have hE6 := hE5.below hb6 (by omega)
    have hi26 := hi25.below hb6 (by omega) (Nat.le_refl _)
    have hown36 := hown35.below hb6 (Nat.le_refl _)
    have hown46 := hown45.below hb6 (Nat.le_refl _)
    have hown56 := hown5.below hb6 (Nat.le_refl _)
    have hb16 := hb15.trans (hb6.mono hb15.size)
    clear hown35 hown45 hi25 hE5 hbb5 hown5 hb
    have hall3 : AllE (r.getD []) := by
      cases r with
      | none => intro z hz; cases hz
      | some y => exact (HRL.out y rfl).2
    have hlen3 : (r.getD []).length ≤ 20 := by
      cases r with
      | none => simp
      | some y => exact (HRL.out y rfl).1
    obtain ⟨a3, c3, rfl, hi3, -⟩ := hown36.ents hall3
    obtain ⟨a4, c4, rfl, hi4, -⟩ := hown46.ents hall3
    obtain ⟨a5, c5, rfl, hi5, -⟩ := hown56.ents hall5
    obtain ⟨a6, c6, rfl, hi6, -⟩ := hown6.ents hall6
    clear hown36 hown46 hown56 hown6 hall5 hall6
    go_wp2_with fail
    refine (likeBook_any _ _ _ _ _ _ _ _ _ _ _ hi3 hi4).mono ?_
    rintro e w7 ⟨rfl, hd7⟩
    rw [decide_eq_true rfl]
    have hb7 := hd7.below w6.heap.size
    have hs7 := hb7.size
    have hi57 := hi5.below hb7 (Nat.le_refl _) (Nat.le_refl _)
    have hi67 := hi6.below hb7 (Nat.le_refl _) (Nat.le_refl _)
    have hI := fun w h1 h2 => implAmountAt_any w6.heap.size a5 b.length c5 b o s w h1 h2
    have hS := fun w h1 h2 => specAmountAt_any w6.heap.size a5 b.length c5 b o s w h1 h2
    generalize amountAt b o s = am at hI hS
    have hKI := fun w h1 h2 => implBookOk_any w6.heap.size a6 k.length c6 k w h1 h2
    have hKS := fun w h1 h2 => specBookOk_any w6.heap.size a6 k.length c6 k w h1 h2
    generalize bookOk k = bk at hKI hKS
    go_wp2_with fail
    refine (hI w7 hi57 hs7).mono ?_
    rintro e w8 ⟨rfl, hb8⟩
    have hb68 := hb7.trans (hb8.mono hs7)
    have hs8 := hb68.size
    go_wp2_with fail
    refine (hS w8 (hi5.below hb68 (Nat.le_refl _) (Nat.le_refl _)) hs8).mono ?_
    rintro e w9 ⟨rfl, hb9⟩
    have hb69 := hb68.trans (hb9.mono hs8)
    have hs9 := hb69.size
    go_wp2_with fail
    refine (hKI w9 (hi6.below hb69 (Nat.le_refl _) (Nat.le_refl _)) hs9).mono ?_
    rintro e wA ⟨rfl, hbA⟩
    have hb6A := hb69.trans (hbA.mono hs9)
    have hsA := hb6A.size
    go_wp2_with fail
    refine (hKS wA (hi6.below hb6A (Nat.le_refl _) (Nat.le_refl _)) hsA).mono ?_
    rintro e wB ⟨rfl, hbB⟩
    have hb6B := hb6A.trans (hbB.mono hsA)
    have hsB := hb6B.size
    have hb1B := hb16.trans (hb6B.mono hb16.size)
    clear hI hS hKI hKS hi4 hi5 hi6 hi57 hi67 hb7 hb8 hb9 hbA hbB hb68 hb69 hb6A hd7
    rcases r with _ | r
    · simp only [Option.getD, List.length_nil] at hi3 ⊢
      go_wp2_with fail
      go_ret
      exact ⟨rfl, hb1B⟩
    · simp only [Option.getD] at hi3 hlen3 hall3 ⊢
      simp only [Option.isSome_some]
      have hEB := hE6.below hb6B (by omega)
      have hi2B := hi26.below hb6B (by omega) (Nat.le_refl _)
      have hi3B := hi3.below hb6B (Nat.le_refl _) (Nat.le_refl _)
      have hput2 := fun o s => HP.out r rfl o s
      have hok := HRO.out r rfl
      have HP2 := Lib.hid hput2; have HOK := Lib.hid hok
      clear hput2 hok HP HRO HRL hE6 hi26 hi3 hb16 hb15 hb14 hb13
      obtain ⟨nr, hnr⟩ : ∃ nr, r.length = nr := ⟨_, rfl⟩
      rw [hnr] at hi3B hlen3 ⊢
      clear hnr
      have HFF : ∀ w', Below wB.heap.size wB w' → Ents w2.heap.size w' a2 nl c2 l ∧ Ents w6.heap.size w' a3 nr c3 r ∧ Blk w' w2.heap.size 26 #[.int .i64 x.o, .int .i64 x.s, .int .i64 x.a, .int .i64 x.d] := fun w' h =>
        ⟨hi2B.below h (by omega) (Nat.le_refl _), hi3B.below h hsB (Nat.le_refl _), hEB.below h (by omega)⟩
      have HF := Lib.hid HFF
      have hlow : w2.heap.size ≤ wB.heap.size := by omega
      have hs1B := hb1B.size
      clear HFF hi2B hi3B hEB hs2 hs3 hs4 hs5 hs6 hb3 hb4 hb5 hb6 hbE hbE2 hsE hb6B
      go_wp2
      go_loopw [13, 14, 15] (fun so _ss _sn wr => ∃ i : Nat, i ≤ 4 ∧ so = .int .i64 i ∧ Below wB.heap.size wB wr) (fun so _ _ _ => 4 - (intOf so).toNat)
      case atStart => exact ⟨0, by omega, rfl, Below.refl _ _⟩
      case round =>
        obtain ⟨i, hi, rfl, hbr⟩ := hrel
        by_cases hi4 : i < 4
        · have i1 : (i : Int) < 4 := by omega
          go_wp2
          go_loopw [14, 15] (fun ss _sn wr => ∃ j : Nat, j ≤ 5 ∧ ss = .int .i64 j ∧ Below wB.heap.size wB wr) (fun ss _ _ => 5 - (intOf ss).toNat)
          case atStart => exact ⟨0, by omega, rfl, hbr⟩
          case round =>
            obtain ⟨j, hj, rfl, hbq⟩ := hrel
            by_cases hj5 : j < 5
            · have j1 : (j : Int) < 5 := by omega
              have hsq := hbq.size
              have hm := HP2.out i j (by omega) (by omega) (by omega) (by omega)
              have hIm := fun w h1 h2 => implAmountAt_any w6.heap.size a3 nr c3 r i j w h1 h2
              have hSm := fun w h1 h2 => specAmountAt_any w2.heap.size a2 nl c2 l i j w h1 h2
              have hm2 : (((i : Int) = x.o ∧ (j : Int) = x.s) → amountAt r i j = x.a) ∧ (¬ ((i : Int) = x.o ∧ (j : Int) = x.s) → amountAt r i j = amountAt l i j) := ⟨fun h => by rw [hm, if_pos h], fun h => by rw [hm, if_neg h]⟩
              clear hm
              generalize amountAt r i j = mr at hIm hm2
              generalize amountAt l i j = ml at hSm hm2
              have HM := Lib.hid hm2; clear hm2
              go_wp2_with fail
              refine (hSm wr (HF.out wr hbq).1 (by omega)).mono ?_
              rintro e wS ⟨rfl, hbS1⟩
              have hbS := hbq.trans (hbS1.mono hsq)
              have hsS : w6.heap.size ≤ wS.heap.size := by have := hbS.size; omega
              have hES := (HF.out wS hbS).2.2
              have c0 := hES.cell 0; have c1 := hES.cell 1; have c2' := hES.cell 2
              clear hES hSm
              by_cases ho : (i : Int) = x.o
              · have ho' : ((i : Int) == x.o) = true := by simpa using ho
                by_cases hs : (j : Int) = x.s
                · have hs' : ((j : Int) == x.s) = true := by simpa using hs
                  have hm := HM.out.1 ⟨ho, hs⟩
                  subst hm
                  clear HM ho hs
                  go_wp2_with fail
                  refine (hIm wS (HF.out wS hbS).2.1 hsS).mono ?_
                  rintro e wT ⟨rfl, hbT⟩
                  have hbN := hbS.trans (hbT.mono hbS.size)
                  go_wp2
                  go_roundw
                  case rel => exact ⟨j + 1, by omega, by go_num, hbN⟩
                  case measure => simp [intOf]; omega
                · have hs' : ((j : Int) == x.s) = false := by simpa using hs
                  have hm := HM.out.2 (fun h => hs h.2)
                  subst hm
                  clear HM ho hs
                  go_wp2_with fail
                  refine (hIm wS (HF.out wS hbS).2.1 hsS).mono ?_
                  rintro e wT ⟨rfl, hbT⟩
                  have hbN := hbS.trans (hbT.mono hbS.size)
                  go_wp2
                  go_roundw
                  case rel => exact ⟨j + 1, by omega, by go_num, hbN⟩
                  case measure => simp [intOf]; omega
              · have ho' : ((i : Int) == x.o) = false := by simpa using ho
                have hm := HM.out.2 (fun h => ho h.1)
                subst hm
                clear HM ho
                go_wp2_with fail
                refine (hIm wS (HF.out wS hbS).2.1 hsS).mono ?_
                rintro e wT ⟨rfl, hbT⟩
                have hbN := hbS.trans (hbT.mono hbS.size)
                go_wp2
                go_roundw
                case rel => exact ⟨j + 1, by omega, by go_num, hbN⟩
                case measure => simp [intOf]; omega
            · have ej : j = 5 := by omega
              subst ej
              go_wp2
              go_roundw
              case rel => exact ⟨i + 1, by omega, by go_num, hbq⟩
              case measure => simp [intOf]; omega
        · have ei : i = 4 := by omega
          subst ei
          have hKm := fun w h1 h2 => implBookOk_any w6.heap.size a3 nr c3 r w h1 h2
          rw [HOK.out] at hKm
          have hsr := hbr.size
          go_wp2_with fail
          refine (hKm wr (HF.out wr hbr).2.1 (by omega)).mono ?_
          rintro e wZ ⟨rfl, hbZ⟩
          go_wp2_with fail
          go_ret
          exact ⟨rfl, (hb1B.trans (hbr.mono hs1B)).trans (hbZ.mono (by omega))⟩

end Go.Proofs.Ytekkjfhmabefoaa
