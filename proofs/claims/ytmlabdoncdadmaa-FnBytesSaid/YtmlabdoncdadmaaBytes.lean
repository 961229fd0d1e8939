import Derived.Test.YtmlabdoncdadmaaDrawRead
import Derived.Test.YtmlabdoncdadmaaSpecReadVar
import Derived.Test.YtmlabdoncdadmaaLike
import Derived.Test.YtmlabdoncdadmaaMathVar
import Derived.Deep.RegionHeld3
namespace Go.Proofs.Ytmlabdoncdadmaa
open Go.RowKit

set_option maxHeartbeats 400000 in
theorem big_any (ao : Option Addr) (n cap : Nat) (w : World) :
    Calls Try.prog 7 #[.slice ao n cap] w fun e w' => e = .returned (.bool (decide (4096 < n))) ∧ w' = w := by
  go_enter Try.func7, Try.ntmps7
  go_wp2
  go_ret
  exact ⟨ret_bool (by simp; omega), rfl⟩

def Yes (w : World) (e : Ending) (w' : World) : Prop := e = .returned (.bool true) ∧ Below w.heap.size w w'

set_option maxHeartbeats 1000000 in
set_option maxRecDepth 100000 in
theorem fnBytes_any (ao : Option Addr) (n cap : Nat) (bs : List Int) (w : World) (hb : Bytes w.heap.size w ao n cap bs) :
    Calls Try.prog 3 #[.slice ao n cap] w (Yes w) := by
  by_cases hbig : 4096 < n
  · go_enter Try.func3, Try.ntmps3
    go_wp2_with fail
    refine (big_any _ _ _ _).mono ?_
    rintro e w1 ⟨rfl, rfl⟩
    rw [decide_eq_true hbig]
    go_wp2_with fail
    go_ret
    exact ⟨rfl, Below.refl _ _⟩
  · go_enter Try.func3, Try.ntmps3
    go_wp2_with fail
    refine (big_any _ _ _ _).mono ?_
    rintro e w1 ⟨rfl, rfl⟩
    rw [decide_eq_false hbig]
    go_wp2_with fail
    refine (drawVarOf_any _ _ _ _ bs _ hb (Nat.le_refl _) (by omega)).mono ?_
    rintro e w2 ⟨q, rfl, hq, hb2⟩
    have hs2 := hb2.size
    go_wp2_with fail
    refine (drawReadVar_any _ _ _ _ bs _ (hb.below hb2 (Nat.le_refl _) hs2) (Nat.le_refl _) (by omega)).mono ?_
    rintro e w3 ⟨v3, xs, p, rfl, hown3, hall3, hlen3, hp, hb3⟩
    have hs3 := hb3.size
    go_wp2_with fail
    refine (drawBytesOk_any _ _ _ _ bs _ ((hb.below hb2 (Nat.le_refl _) hs2).below hb3 (Nat.le_refl _) hs3) (Nat.le_refl _) (by omega)).mono ?_
    rintro e w4 ⟨v4, ks, rfl, hown4, hall4, hlen4, hb4⟩
    have hs4 := hb4.size
    have hown3' := hown3.below hb4 (Nat.le_refl _)
    obtain ⟨a4, c4, rfl, hi4⟩ := hown4.ints hall4
    obtain ⟨a3, c3, rfl, hi3⟩ := hown3'.ints hall3
    go_wp2_with fail
    refine (implVarOf_any _ _).mono ?_
    rintro e w5 ⟨v5, rfl, hown5, hb5⟩
    have hs5 := hb5.size
    have hwf5 := bytes_i64 (varOf_bytes q)
    have hl5 := varOf_small_len q
    obtain ⟨a5, c5, rfl, hi5, hz5⟩ := hown5.ints' hwf5
    have HZ := Lib.hid hz5; clear hz5
    have hi35 := hi3.below hb5 (Nat.le_refl _) hs5
    have hi45 := hi4.below hb5 (Nat.le_refl _) hs5
    go_wp2_with fail
    refine (implReadVar_any _ _ _ _ xs p _ hi35 (Nat.le_refl _)).mono ?_
    rintro e w6 ⟨rfl, hb6⟩
    have hs6 := hb6.size
    have hi36 := hi35.below hb6 (Nat.le_refl _) hs6
    have hi46 := hi45.below hb6 (Nat.le_refl _) hs6
    have hi56 := hi5.below hb6 (Nat.le_refl _) hs6
    have hbel6 : Below w1.heap.size w1 w6 := (((hb2.trans (hb3.mono hs2)).trans (hb4.mono (by omega))).trans (hb5.mono (by omega))).trans (hb6.mono (by omega))
    have HQ := Lib.hid hq; have HP := Lib.hid hp
    clear hb2 hb3 hb4 hb5 hb6 hown3 hown3' hown4 hq hi35 hi45 hi3 hi4 hi5 hb hp
    go_wp2_with fail
    refine (specReadVar_any _ _ _ _ xs p _ hi36).mono ?_
    rintro e w7 ⟨rfl, rfl⟩
    have hspec : ∀ a k, readVar xs p = some (a, k) → 0 ≤ p ∧ p ≤ k ∧ k ≤ xs.length ∧ 0 ≤ a ∧ a ≤ 1000000000 ∧ varOf a = (xs.drop p.toNat).take (k - p.toNat) := fun a k h => readVar_spec h
    generalize readVar xs p = o at hspec
    rcases o with _ | ⟨a, k⟩
    · clear hspec
      go_wp2_with fail
      refine (specVarOf_any _ _).mono ?_
      rintro e w8 ⟨v8, rfl, hown8, hb8⟩
      have hs8 := hb8.size
      obtain ⟨a8, c8, rfl, hi8⟩ := hown8.ints hwf5
      have hi58 := hi56.below hb8 (Nat.le_refl _) hs8
      have hi48 := hi46.below hb8 (Nat.le_refl _) hs8
      go_wp2_with fail
      refine (likeInts_any _ _ _ _ _ _ _ _ _ _ _ hi58 hi8).mono ?_
      rintro e w9 ⟨rfl, hd9⟩
      rw [decide_eq_true rfl]
      have hb9 := hd9.below w8.heap.size
      have hi49 := hi48.below hb9 (Nat.le_refl _) hb9.size
      simp only [rvN, rvE]
      go_wp2_with fail
      refine (implBytesOk_any _ _ _ _ ks _ hi49).mono ?_
      rintro e w10 ⟨rfl, rfl⟩
      go_wp2_with fail
      refine (specBytesOk_any _ _ _ _ ks _ hi49).mono ?_
      rintro e wX ⟨rfl, rfl⟩
      go_wp2_with fail
      have hi5X := hi58.below hb9 (Nat.le_refl _) hb9.size
      have hbelX := (hbel6.trans (hb8.mono (by omega))).trans (hb9.mono (by omega))
      go_quiet (fail)
      have HI : ∀ m, Ints (wX.drewN m).heap.size (wX.drewN m) a5 (varOf q).length c5 (varOf q) := fun m => hi5X.below ((Drew.one wX m).below _) (Nat.le_refl _) (Nat.le_refl _)
      have HB : ∀ m, Below w1.heap.size w1 (wX.drewN m) := fun m => hbelX.trans ((Drew.one wX m).below _)
      have hsX := hbelX.size
      by_cases hv0 : (varOf q).length = 0
      · have hqq := varOf_nil.1 hv0
        have hb0 : (((varOf q).length : Int) == 0) = true := by simp [hv0]
        have HQQ := Lib.hid hqq; clear hqq hv0
        rcases HQQ.out with h | h
        all_goals
          clear HQQ
          go_wp2
          go_ret
          exact ⟨rfl, HB _⟩
      · have hqq : 0 ≤ q ∧ q ≤ 1000000000 := by
          rcases Classical.em (q < 0 ∨ 1000000000 < q) with h | h
          · exact absurd (varOf_nil.2 h) hv0
          · omega
        have hr7 := readVar_seven q hqq
        obtain ⟨hq0, hq1⟩ := hqq
        have hb0 : (((varOf q).length : Int) == 0) = false := by simp only [beq_eq_false_iff_ne]; omega
        have hwf7 : AllI64 ([7] ++ varOf q) := fun x hx => by
          rcases List.mem_append.1 hx with h | h
          · simp at h; subst h; unfold I64; omega
          · exact hwf5 x h
        have HR7 := Lib.hid hr7; have HQ0 := Lib.hid hq0; have HQ1 := Lib.hid hq1
        clear hr7 hv0 hq0 hq1
        have hz5 : a5 = none → c5 = 0 := HZ.out
        have HZ5 := Lib.hid hz5; clear hz5
        have HO7 : ∀ m, Own wX.heap.size ((wX.drewN m).alloc (Obj.cells #[Value.int IntKind.i64 7] 2)) (.slice (some ⟨wX.heap.size, 0, none⟩) 1 1) [7] := fun m => own_lit (wX.drewN m) [7] (by decide)
        have HI7 : ∀ m, Ints wX.heap.size ((wX.drewN m).alloc (Obj.cells #[Value.int IntKind.i64 7] 2)) a5 (varOf q).length c5 (varOf q) := fun m => (HI m).below ((Below.refl _ _).alloc (Nat.le_refl _) _) (Nat.le_refl _) (Nat.le_refl _)
        go_wp2_with (at_builtin; refine append_all rfl _ _ rfl wX.heap.size wX.heap.size _ [7] (varOf q) a5 _ c5 rfl rfl (HI7 _) HZ5.out (HO7 _) (by simp) (by simp; omega) ?_; intro vA wA hownA hbA)
        have hsA : wX.heap.size + 1 ≤ wA.heap.size := by have := hbA.size; simpa using this
        obtain ⟨aA, cA, rfl, hiA⟩ := hownA.ints hwf7
        refine (implReadVar_any _ _ _ _ _ 1 _ hiA (Nat.le_refl _)).mono ?_
        rintro e wB ⟨rfl, hbB⟩
        rw [show ([7] ++ varOf q : List Int) = 7 :: varOf q from rfl, HR7.out]
        simp only [rvN, rvE]
        go_wp2
        go_ret
        exact ⟨rfl, (((HB _).alloc hsX _).trans (hbA.mono hsX)).trans (hbB.mono (by omega))⟩
    · obtain ⟨hp0, hpk, hkl, ha0, ha1, hva⟩ := hspec a k rfl
      clear hspec
      have hpo : ∃ p' : Nat, p = p' := ⟨p.toNat, by omega⟩
      obtain ⟨p', rfl⟩ := hpo
      rw [Int.toNat_natCast] at hva
      have hpk' : p' ≤ k := by omega
      have hwfa := bytes_i64 (varOf_bytes a)
      have hvl : (varOf a).length = k - p' := by rw [hva]; simp; omega
      have hvn : (varOf a).length ≠ 0 := fun h => by have := varOf_nil.1 h; omega
      have hsub : ∀ (C : Nat) (wY : World) (ao : Option Addr) (cc : Nat), Ints C wY ao xs.length cc xs → ∃ b off, ao = some ⟨b, off, none⟩ ∧ Ints C wY (some ⟨b, off + p', none⟩) (k - p') (cc - p') (varOf a) := by
        intro C wY ao cc hi
        obtain ⟨b, off, e, hbC, hc⟩ := hi.at p' (by omega)
        refine ⟨b, off, e, hvl, by have := hi.hcap; omega, by have := hi.hmax; omega, fun j hj => ⟨b, off + p', rfl, hbC, ?_⟩, hwfa⟩
        rw [Nat.add_assoc, hc (p' + j) (by omega), hva]
        simp [List.getD, hj]
      have HVA := Lib.hid hva; have HVL := Lib.hid hvl; have HSUB := Lib.hid hsub
      clear hva hvl hsub hvn
      go_wp2_with fail
      refine (specVarOf_any _ _).mono ?_
      rintro e w8 ⟨v8, rfl, hown8, hb8⟩
      have hs8 := hb8.size
      obtain ⟨a8, c8, rfl, hi8⟩ := hown8.ints hwf5
      have hi58 := hi56.below hb8 (Nat.le_refl _) hs8
      have hi48 := hi46.below hb8 (Nat.le_refl _) hs8
      have hi38 := hi36.below hb8 (Nat.le_refl _) hs8
      go_wp2_with fail
      refine (likeInts_any _ _ _ _ _ _ _ _ _ _ _ hi58 hi8).mono ?_
      rintro e w9 ⟨rfl, hd9⟩
      rw [decide_eq_true rfl]
      have hb9 := hd9.below w8.heap.size
      have hi49 := hi48.below hb9 (Nat.le_refl _) hb9.size
      have hi39 := hi38.below hb9 (Nat.le_refl _) hb9.size
      have hi59 := hi58.below hb9 (Nat.le_refl _) hb9.size
      simp only [rvN, rvE]
      go_wp2_with fail
      refine (implBytesOk_any _ _ _ _ ks _ hi49).mono ?_
      rintro e w10 ⟨rfl, rfl⟩
      go_wp2_with fail
      refine (specBytesOk_any _ _ _ _ ks _ hi49).mono ?_
      rintro e wX ⟨rfl, rfl⟩
      have hbelX := (hbel6.trans (hb8.mono (by omega))).trans (hb9.mono (by omega))
      go_wp2_with fail
      obtain ⟨b, off, rfl, hi3X⟩ := HSUB.out _ _ _ _ hi39
      have d1 : decide (xs.length < k) = false := decide_eq_false (by omega)
      have d2 : decide (k < p') = false := decide_eq_false (by omega)
      have hne : ¬ c3 = p' := by have := hi39.hcap; have := (varOf_nil (n := a)); have := HVL.out; omega
      have hpc : k ≤ c3 := by have := hi39.hcap; omega
      go_region_held3 (fun _ => True) (trivial) (first
        | (go_at_call 11; refine (implVarOf_any a _).mono ?_; rintro e wV ⟨vV, rfl, hownV, hbV⟩; obtain ⟨aV, cV, rfl, hiV⟩ := hownV.ints hwfa)
        | (go_at_call 14; refine (likeInts_any _ _ _ _ _ _ _ _ _ _ _ hiV ((hi3X.below ((Below.refl _ _).drew) (Nat.le_refl _) (Nat.le_refl _)).below hbV (Nat.le_refl _) (Nat.le_refl _))).mono ?_; rintro e wL ⟨rfl, hdL⟩; rw [decide_eq_true rfl])
        )
      have hbL : Below wX.heap.size wX wL := (((Below.refl wX.heap.size wX).drew).trans hbV).trans (hdL.below _)
      have hsL := hbL.size
      have hi5L := hi59.below hbL (Nat.le_refl _) hsL
      have hbelL := hbelX.trans (hbL.mono hbelX.size)
      clear hi39 hi38 hi36 hi3X hi49 hi48 hi46 hiV hownV hbV hdL
      have HI : ∀ _m : Nat, Ints wL.heap.size wL a5 (varOf q).length c5 (varOf q) := fun _ => hi5L
      have HB : ∀ _m : Nat, Below w1.heap.size w1 wL := fun _ => hbelL
      have hsL := hbelL.size
      by_cases hv0 : (varOf q).length = 0
      · have hqq := varOf_nil.1 hv0
        have hb0 : (((varOf q).length : Int) == 0) = true := by simp [hv0]
        have HQQ := Lib.hid hqq; clear hqq hv0
        rcases HQQ.out with h | h
        all_goals
          clear HQQ
          go_wp2
          go_ret
          exact ⟨rfl, HB 0⟩
      · have hqq : 0 ≤ q ∧ q ≤ 1000000000 := by
          rcases Classical.em (q < 0 ∨ 1000000000 < q) with h | h
          · exact absurd (varOf_nil.2 h) hv0
          · omega
        have hr7 := readVar_seven q hqq
        obtain ⟨hq0, hq1⟩ := hqq
        have hb0 : (((varOf q).length : Int) == 0) = false := by simp only [beq_eq_false_iff_ne]; omega
        have hwf7 : AllI64 ([7] ++ varOf q) := fun x hx => by
          rcases List.mem_append.1 hx with h | h
          · simp at h; subst h; unfold I64; omega
          · exact hwf5 x h
        have HR7 := Lib.hid hr7; have HQ0 := Lib.hid hq0; have HQ1 := Lib.hid hq1
        clear hr7 hv0 hq0 hq1
        have hz5 : a5 = none → c5 = 0 := HZ.out
        have HZ5 := Lib.hid hz5; clear hz5
        have HO7 : ∀ _m : Nat, Own wL.heap.size (wL.alloc (Obj.cells #[Value.int IntKind.i64 7] 2)) (.slice (some ⟨wL.heap.size, 0, none⟩) 1 1) [7] := fun _ => own_lit wL [7] (by decide)
        have HI7 : ∀ _m : Nat, Ints wL.heap.size (wL.alloc (Obj.cells #[Value.int IntKind.i64 7] 2)) a5 (varOf q).length c5 (varOf q) := fun _ => (HI 0).below ((Below.refl _ _).alloc (Nat.le_refl _) _) (Nat.le_refl _) (Nat.le_refl _)
        go_wp2_with (at_builtin; refine append_all rfl _ _ rfl wL.heap.size wL.heap.size _ [7] (varOf q) a5 _ c5 rfl rfl (HI7 0) HZ5.out (HO7 0) (by simp) (by simp; omega) ?_; intro vA wA hownA hbA)
        have hsA : wL.heap.size + 1 ≤ wA.heap.size := by have := hbA.size; simpa using this
        obtain ⟨aA, cA, rfl, hiA⟩ := hownA.ints hwf7
        refine (implReadVar_any _ _ _ _ _ 1 _ hiA (Nat.le_refl _)).mono ?_
        rintro e wB ⟨rfl, hbB⟩
        rw [show ([7] ++ varOf q : List Int) = 7 :: varOf q from rfl, HR7.out]
        simp only [rvN, rvE]
        go_wp2
        go_ret
        exact ⟨rfl, (((HB 0).alloc hsL _).trans (hbA.mono hsL)).trans (hbB.mono (by omega))⟩

end Go.Proofs.Ytmlabdoncdadmaa
