/-
  laws.FnSums.
-/
import Derived.Test.YtdfcdemkmniknaaDraw2
import Derived.Test.YtdfcdemkmniknaaLDice
import Derived.Test.YtdfcdemkmniknaaLike
import Derived.Test.YtdfcdemkmniknaaUnsummed
import Derived.Test.YtdfcdemkmniknaaExact
namespace Go.Proofs.Ytdfcdemkmniknaa
open Go.RowKit

set_option maxHeartbeats 400000 in
theorem big_any (ao : Option Addr) (n cap : Nat) (w : World) :
    Calls Try.prog 7 #[.slice ao n cap] w fun e w' => e = .returned (.bool (decide (4096 < n))) ∧ w' = w := by
  go_enter Try.func7, Try.ntmps7
  go_wp2
  go_ret
  exact ⟨ret_bool (by simp; omega), rfl⟩

def Yes (w : World) (e : Ending) (w' : World) : Prop := e = .returned (.bool true) ∧ Below w.heap.size w w'

set_option maxHeartbeats 1000000 in
set_option maxRecDepth 100000 in
theorem fnSums_any (ao : Option Addr) (n cap : Nat) (bs : List Int) (w : World) (hb : Bytes w.heap.size w ao n cap bs) :
    Calls Try.prog 3 #[.slice ao n cap] w (Yes w) := by
  by_cases hbig : 4096 < n
  · go_enter Try.func3, Try.ntmps3
    go_wp2_with fail
    refine (big_any _ _ _ _).mono ?_
    rintro e w1 ⟨rfl, rfl⟩
    rw [decide_eq_true hbig]
    go_wp2_with fail
    go_ret
    exact ⟨rfl, Below.refl _ _⟩
  · have hn : n ≤ 1099511627776 := by omega
    go_enter Try.func3, Try.ntmps3
    go_wp2_with fail
    refine (big_any _ _ _ _).mono ?_
    rintro e w1 ⟨rfl, rfl⟩
    rw [decide_eq_false hbig]
    go_wp2_with fail
    refine (drawWithSum_any _ _ _ _ bs _ hb (Nat.le_refl _) hn).mono ?_
    rintro e w2 ⟨v2, xb, rfl, ho2, hall2, hlen2, hb2⟩
    obtain ⟨a2, c2, rfl, hi2, hz2⟩ := ho2.ints' hall2
    have HZ2 := Lib.hid hz2; clear hz2
    have hs2 := hb2.size
    go_wp2_with fail
    refine (implWithSum_any _ _ _ _ xb _ hi2 (Nat.le_refl _) HZ2.out).mono ?_
    rintro e w3 ⟨v3, rfl, ho3, hb3⟩
    have hwl := withSum_len xb
    obtain ⟨a3, c3, rfl, hi3, hz3⟩ := ho3.ints' (bytes_i64 (withSum_bytes xb))
    have HZ3 := Lib.hid hz3; clear hz3
    have hs3 := hb3.size
    replace hi2 := hi2.below hb3 (Nat.le_refl _) hs3
    have H3 := hb2.trans (hb3.mono hs2)
    clear ho2 ho3 hb2 hb3
    go_wp2_with fail
    refine (drawUnsummed_any _ _ _ _ bs _ (hb.below H3 (Nat.le_refl _) H3.size) (Nat.le_refl _) hn).mono ?_
    rintro e w4 ⟨v4, xu, rfl, ho4, hall4, hlen4, hb4⟩
    obtain ⟨a4, c4, rfl, hi4, hz4⟩ := ho4.ints' hall4
    have HZ4 := Lib.hid hz4; clear hz4
    have hs4 := hb4.size
    replace hi2 := hi2.below hb4 (Nat.le_refl _) hs4
    replace hi3 := hi3.below hb4 (Nat.le_refl _) hs4
    have H4 := H3.trans (hb4.mono H3.size)
    clear ho4 hb4 H3
    go_wp2_with fail
    refine (implUnsummed_any _ _ _ _ xu _ hi4 (Nat.le_refl _) HZ4.out (by omega)).mono ?_
    rintro e w5 ⟨v5, rfl, ho5, hb5⟩
    have hwf5 : AllI64 ((unsummed xu).getD []) := unsummed_all hall4
    obtain ⟨a5, c5, rfl, hi5⟩ := ho5.ints hwf5
    have hs5 := hb5.size
    replace hi2 := hi2.below hb5 (Nat.le_refl _) hs5
    replace hi3 := hi3.below hb5 (Nat.le_refl _) hs5
    replace hi4 := hi4.below hb5 (Nat.le_refl _) hs5
    have H5 := H4.trans (hb5.mono H4.size)
    clear ho5 hb5 H4
    go_wp2_with fail
    refine (specUnsummed_any _ _ _ _ xu _ hi4 (Nat.le_refl _) HZ4.out (by omega)).mono ?_
    rintro e w6 ⟨v6, rfl, ho6, hb6⟩
    obtain ⟨a6, c6, rfl, hi6⟩ := ho6.ints hwf5
    have hs6 := hb6.size
    replace hi2 := hi2.below hb6 (Nat.le_refl _) hs6
    replace hi3 := hi3.below hb6 (Nat.le_refl _) hs6
    replace hi5 := hi5.below hb6 (Nat.le_refl _) hs6
    have H6 := H5.trans (hb6.mono H5.size)
    clear ho6 hb6 H5 hi4
    generalize (unsummed xu).isSome = fl
    generalize (unsummed xu).getD [] = ys at hi5 hi6 hwf5
    go_wp2_with fail
    refine (drawSumOf_any _ _ _ _ bs _ (hb.below H6 (Nat.le_refl _) H6.size) (Nat.le_refl _) hn).mono ?_
    rintro e w7 ⟨v7, xk, rfl, ho7, hall7, hlen7, hb7⟩
    obtain ⟨a7, c7, rfl, hi7⟩ := ho7.ints hall7
    have hs7 := hb7.size
    replace hi2 := hi2.below hb7 (Nat.le_refl _) hs7
    replace hi3 := hi3.below hb7 (Nat.le_refl _) hs7
    replace hi5 := hi5.below hb7 (Nat.le_refl _) hs7
    replace hi6 := hi6.below hb7 (Nat.le_refl _) hs7
    have H7 := H6.trans (hb7.mono H6.size)
    clear ho7 hb7 H6
    go_wp2_with fail
    refine (specWithSum_any _ _ _ _ xb _ hi2 (Nat.le_refl _) HZ2.out (by omega)).mono ?_
    rintro e w8 ⟨v8, rfl, ho8, hb8⟩
    obtain ⟨a8, c8, rfl, hi8⟩ := ho8.ints (bytes_i64 (withSum_bytes xb))
    have hs8 := hb8.size
    replace hi2 := hi2.below hb8 (Nat.le_refl _) hs8
    replace hi3 := hi3.below hb8 (Nat.le_refl _) hs8
    replace hi5 := hi5.below hb8 (Nat.le_refl _) hs8
    replace hi6 := hi6.below hb8 (Nat.le_refl _) hs8
    replace hi7 := hi7.below hb8 (Nat.le_refl _) hs8
    have H8 := H7.trans (hb8.mono H7.size)
    clear ho8 hb8 H7
    go_wp2_with fail
    refine (likeInts_any _ _ _ _ _ _ _ _ _ _ _ hi3 hi8).mono ?_
    rintro e w9 ⟨rfl, hd9⟩
    rw [decide_eq_true rfl]
    have hb9 := hd9.below w8.heap.size
    have hs9 := hb9.size
    replace hi2 := hi2.below hb9 (Nat.le_refl _) hs9
    replace hi3 := hi3.below hb9 (Nat.le_refl _) hs9
    replace hi5 := hi5.below hb9 (Nat.le_refl _) hs9
    replace hi6 := hi6.below hb9 (Nat.le_refl _) hs9
    replace hi7 := hi7.below hb9 (Nat.le_refl _) hs9
    have H9 := H8.trans (hb9.mono H8.size)
    clear hd9 hb9 H8 hi8
    go_wp2_with fail
    refine (likeInts_any _ _ _ _ _ _ _ _ _ _ _ hi5 hi6).mono ?_
    rintro e wa ⟨rfl, hda⟩
    rw [decide_eq_true rfl]
    have hba := hda.below w9.heap.size
    have hsa := hba.size
    replace hi2 := hi2.below hba (Nat.le_refl _) hsa
    replace hi3 := hi3.below hba (Nat.le_refl _) hsa
    replace hi7 := hi7.below hba (Nat.le_refl _) hsa
    have Ha := H9.trans (hba.mono H9.size)
    clear hda hba H9 hi5 hi6
    go_wp2_with fail
    refine (implSumOf_any _ _ _ _ xk _ hi7 (Nat.le_refl _)).mono ?_
    rintro e wb ⟨rfl, hbb⟩
    have hsb := hbb.size
    replace hi2 := hi2.below hbb (Nat.le_refl _) hsb
    replace hi3 := hi3.below hbb (Nat.le_refl _) hsb
    replace hi7 := hi7.below hbb (Nat.le_refl _) hsb
    have Hb := Ha.trans (hbb.mono Ha.size)
    clear hbb Ha
    go_wp2_with fail
    refine (specSumOf_any _ _ _ _ xk _ hi7).mono ?_
    rintro e wc ⟨rfl, rfl⟩
    generalize sumOf xk = sk
    clear hi7
    obtain ⟨ss, hss⟩ : ∃ ss, withSum xb = ss := ⟨_, rfl⟩
    rw [hss] at hi3 hwl ⊢
    have HSS := Lib.hid hss; clear hss
    obtain ⟨m, hm⟩ : ∃ m, m = ss.length := ⟨_, rfl⟩
    rw [← hm] at hi3 hwl ⊢
    have HM := Lib.hid hm; clear hm
    by_cases hm0 : m = 0
    · subst hm0
      go_wp2_with fail
      go_ret
      exact ⟨rfl, Hb⟩
    have hb0 : ((m : Int) == 0) = false := by rw [beq_eq_false_iff_ne]; omega
    have hm1 : 0 < m := by omega
    clear hm0
    have hun : unsummed ss = some xb := by
      by_cases h : bytesOk xb = true ∧ xb.length ≤ 3996
      · rw [← HSS.out]; exact unsummed_withSum h
      · have := withSum_no h
        rw [HSS.out] at this
        have := HM.out
        simp_all
    have HUN := Lib.hid hun; clear hun
    go_wp2_with fail
    refine (implUnsummed_any _ a3 m c3 ss _ hi3 (Nat.le_refl _) HZ3.out (by omega)).mono ?_
    rintro e wd ⟨vd, rfl, hod, hbd⟩
    rw [HUN.out] at hod ⊢
    have hod' : Own _ wd vd xb := hod
    obtain ⟨ad, cd, rfl, hid⟩ := hod'.ints hall2
    have hsd := hbd.size
    replace hi2 := hi2.below hbd (Nat.le_refl _) hsd
    replace hi3 := hi3.below hbd (Nat.le_refl _) hsd
    have Hd := Hb.trans (hbd.mono Hb.size)
    clear hod hod' hbd Hb
    simp only [Option.isSome_some]
    go_wp2_with fail
    refine (roll_any _ _ _ _ bs 2 _ (hb.below Hd (Nat.le_refl _) Hd.size) (Nat.le_refl _) hn).mono ?_
    rintro e we ⟨rfl, hde, hbe⟩
    have hse := hbe.size
    have hge := hde.hg
    replace hi2 := hi2.below hbe (Nat.le_refl _) (Nat.le_refl _)
    replace hi3 := hi3.below hbe (Nat.le_refl _) (Nat.le_refl _)
    replace hid := hid.below hbe (Nat.le_refl _) (Nat.le_refl _)
    have He := Hd.trans (hbe.mono Hd.size)
    have hwg : w1.heap.size ≤ wd.heap.size := Hd.size
    generalize wd.heap.size = g at hde hge hi2 hi3 hid hwg ⊢
    clear hbe Hd hse hsd hsb hsa hs9 hs8 hs7 hs6 hs5 hs4 hs3 hs2
    go_wp2_with fail
    refine (ldBelow_any _ _ m _ hde (by omega) (by omega)).mono ?_
    rintro e wf ⟨r, rfl, hr1, hof, hdf⟩
    have hr3 : r < m := by omega
    have hbf := hof.below (B := g) (Nat.le_refl _) (Nat.le_of_lt hge)
    have hgf : g < wf.heap.size := by rw [hof.size]; exact hge
    replace hi2 := hi2.below hbf (Nat.le_refl _) (Nat.le_refl _)
    replace hi3 := hi3.below hbf (Nat.le_refl _) (Nat.le_refl _)
    replace hid := hid.below hbf (Nat.le_refl _) (Nat.le_refl _)
    have Hf := He.trans (hbf.mono hwg)
    clear hof hbf He hde hge hr1
    have hbal : Below wf.heap.size wf (wf.alloc (.cells #[] 2)) := (Below.refl _ _).alloc (Nat.le_refl _) _
    have hi3a := hi3.below hbal (Nat.le_of_lt hgf) (Nat.le_refl _)
    have hemp := own_empty wf
    have hsza : wf.heap.size ≤ (wf.alloc (.cells #[] 2)).heap.size := by simp
    have HSZA := Lib.hid hsza; clear hsza
    go_wp2_with (at_builtin; refine append_all rfl _ _ rfl wf.heap.size g _ [] ss a3 m c3 rfl rfl hi3a HZ3.out hemp HSZA.out (by simp; omega) ?_; intro vA wA hownA hbA)
    rw [List.nil_append] at hownA
    have hsA := hbA.size
    have HfA := Hf.trans ((hbal.trans hbA).mono Hf.size)
    have hgA := hdf.below (hbal.trans hbA) hgf
    have hi2A := hi2.below (hbal.trans hbA) (Nat.le_of_lt hgf) (Nat.le_refl _)
    have hidA := hid.below (hbal.trans hbA) (Nat.le_of_lt hgf) (Nat.le_refl _)
    clear hbal hbA hdf hi2 hid hi3 hi3a hemp HSZA Hf
    rcases hownA.2 with ⟨rfl, h0⟩ | ⟨g4, cap4, cur, rfl, hbg, hgc, hnc, hcm, -, -⟩
    · exact absurd h0 (by have := HM.out; omega)
    have hg4 : g4 < wA.heap.size := (Array.getElem?_eq_some_iff.1 hgc).1
    clear hgc
    unfold maxLen at hcm
    unfold Own at hownA
    rw [← HM.out] at hownA hnc ⊢
    have hgg : g ≠ g4 := by omega
    have hcA := hownA.cellAt r (by omega)
    rw [map_get ss r (by have := HM.out; omega)] at hcA
    have hy : 0 ≤ ss.getD r 0 ∧ ss.getD r 0 ≤ 255 := by
      have := HM.out
      have e : ss.getD r 0 = ss[r] := by simp [List.getD, show r < ss.length by omega]
      rw [e]
      exact withSum_bytes xb _ (by rw [HSS.out]; exact List.getElem_mem _)
    have HBENT : Hid (∀ z : Int, 0 ≤ z → z < 255 → unsummed (ss.set r ((ss.getD r 0 + 1 + z) % 256)) = none) := by
      refine Lib.hid fun z hz0 hz1 => ?_
      have hl := HM.out
      have e : ss.getD r 0 = ss[r] := by simp [List.getD, show r < ss.length by omega]
      have h1 := bent_none (xs := xb) (i := r) (y := (ss.getD r 0 + 1 + z) % 256) (by rw [HSS.out]; omega) (by omega) (by
        intro h
        have e2 : (withSum xb)[r]'(by rw [HSS.out]; omega) = ss.getD r 0 := by rw [e]; congr 1
        omega)
      rw [HSS.out] at h1
      exact h1
    generalize ss.getD r 0 = y at hcA hy HBENT
    obtain ⟨hy0, hy1⟩ := hy
    have fA := hownA.frozenAt r
    have HOWN := Lib.hid hownA; clear hownA
    have hgD := hgA.below (C := wA.heap.size) ((Below.refl _ _).drew) (by omega)
    have i1 : (0 : Int) ≤ r := by omega
    have i3 : (0 : Int) < 255 := by decide
    have i4 : (255 : Int) ≤ 4611686018427387904 := by decide
    go_region_with (first
      | (go_at_call_of 19 (Value.int IntKind.i64 255); ((with_reducible refine (ldBelow_any _ _ 255 _ hgD i3 i4).mono ?_); rintro e wB ⟨z, rfl, hz1, hoB, hdB⟩; have hcB := hoB.keeps.cell (a := ⟨g4, r, none⟩) hcA (fun e => hgg (Option.some.inj e).symm); have fB := (hoB.frozen (a := ⟨g4, r, none⟩) (fun e => hgg e.symm) hg4).trans fA)))
    all_goals
      rw [bend_val hy0 hy1 (by omega) hz1]
      have hownB := World.ownsRow.kept (World.ownsRow.kept HOWN.out (Keeps.drew g wA) (.inr (fun e => by have h2 : g4 = g := Option.some.inj e; omega))) (hoB.grown) (.inr (fun e => by have h2 : g4 = g := Option.some.inj e; omega))
      have hst := (hownB.stored r (.int .i64 ((y + 1 + (z : Int)) % 256))).1
      rw [map_set] at hst
      have hbe := HBENT.out z (by omega) hz1
      have hownS := own_of (by rw [List.length_set]; exact HM.out) hst
      have hbB : Below g wA wB := ((Below.refl g wA).drew).trans (hoB.below (Nat.le_refl _) (by simp; omega))
      have hbS : Below g wA (wB.setCell ⟨g4, r, none⟩ (.int .i64 ((y + 1 + (z : Int)) % 256))) := hbB.setCell (by show g ≤ g4; omega) _
      have HS := HfA.trans (hbS.mono hwg)
      have hi2S := hi2A.below hbS (Nat.le_refl _) (Nat.le_refl _)
      have hidS := hidA.below hbS (Nat.le_refl _) (Nat.le_refl _)
      have hwfS : AllI64 (ss.set r ((y + 1 + (z : Int)) % 256)) := by
        intro x hx
        rcases List.mem_or_eq_of_mem_set hx with h | h
        · exact bytes_i64 (withSum_bytes xb) x (by rw [HSS.out]; exact h)
        · rw [h]; unfold I64; omega
      have hlS : (ss.set r ((y + 1 + (z : Int)) % 256)).length = m := by rw [List.length_set]; exact HM.out.symm
      unfold Own at hownS
      rw [hlS] at hownS
      have hiS := (own_of hlS.symm hownS).ints_at' hlS hwfS
      generalize ss.set r ((y + 1 + (z : Int)) % 256) = us at hiS hbe hwfS
      have hgS' : g ≤ (wB.setCell ⟨g4, r, none⟩ (.int .i64 ((y + 1 + (z : Int)) % 256))).heap.size := by have := hbS.size; omega
      generalize wB.setCell ⟨g4, r, none⟩ (.int .i64 ((y + 1 + (z : Int)) % 256)) = wS at hiS HS hi2S hidS hgS' ⊢
      clear hownS hlS hst hownB hbB hbS hcB fB hoB hdB hcA fA hgA hgD hi2A hidA HBENT
      have HBE := Lib.hid hbe; clear hbe
      go_wp2_with fail
      refine (implUnsummed_any _ _ m cap4 us _ hiS (Nat.le_refl _) (by intro h; cases h) (by omega)).mono ?_
      rintro e wU ⟨vU, rfl, hoU, hbU⟩
      rw [HBE.out]
      simp only [Option.isSome_none]
      have hi2U := hi2S.below hbU hgS' (Nat.le_refl _)
      have hidU := hidS.below hbU hgS' (Nat.le_refl _)
      have HU := HS.trans (hbU.mono HS.size)
      clear hoU hbU HS hi2S hidS
      go_wp2_with fail
      refine (likeInts_any _ _ _ _ _ _ _ _ _ _ _ hidU hi2U).mono ?_
      rintro e wV ⟨rfl, hdV⟩
      rw [decide_eq_true rfl]
      have HV := HU.trans (hdV.below _)
      go_wp2_with fail
      go_ret
      exact ⟨rfl, HV⟩

end Go.Proofs.Ytdfcdemkmniknaa
