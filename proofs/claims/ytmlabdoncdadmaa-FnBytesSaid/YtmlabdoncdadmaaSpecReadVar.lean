import Derived.Test.YtmlabdoncdadmaaReadVar
namespace Go.Proofs.Ytmlabdoncdadmaa
open Go.RowKit

def ScPost (o : Option (Int × Nat)) (w : World) (e : Ending) (w' : World) : Prop :=
  e = .returned (.tuple #[.int .i64 (rvN o), .int .i64 (rvE o), .bool o.isSome]) ∧ w' = w
theorem scPost_none {o : Option (Int × Nat)} {w : World} (h : o = none) : ScPost o w (.returned (.tuple #[.int .i64 0, .int .i64 0, .bool false])) w := ⟨by rw [h]; rfl, rfl⟩
theorem scPost_some {o : Option (Int × Nat)} {w : World} {r : Int × Nat} {a b : Int} (h : o = some r) (ha : a = r.1) (hb' : b = r.2) : ScPost o w (.returned (.tuple #[.int .i64 a, .int .i64 b, .bool true])) w := ⟨by rw [h, ha, hb']; rfl, rfl⟩

set_option maxHeartbeats 1000000 in
theorem l1ReadVar_any (B : Nat) (ao : Option Addr) (n cap : Nat) (xs : List Int) (k0 : Nat) (w : World) (hx : Ints B w ao n cap xs) (hn : n ≤ 4000) (hk0 : k0 ≤ n) (hby : ∀ x ∈ xs, 0 ≤ x ∧ x ≤ 255) :
    Calls Try.prog 30 #[.slice ao n cap, .int .i64 k0] w (ScPost (scan xs 5 k0 0 1) w) := by
  have hx1 := hx.hcap; have hx2 := hx.hmax; have hx0 := hx.hlen
  unfold maxLen at hx2
  have HX := Lib.hid hx0; clear hx0
  have HBY := Lib.hid hby; clear hby
  go_enter Try.func30, Try.ntmps30
  go_wp2
  go_loop [7, 8, 9] (fun sn su si => ∃ (f k : Nat) (a u : Int), sn = .int .i64 a ∧ su = .int .i64 u ∧ si = .int .i64 k ∧ Unit' f u ∧ Hid (k + f = k0 + 5) ∧ 0 ≤ a ∧ a < u ∧ k ≤ n ∧ Hid (scan xs 5 k0 0 1 = scan xs f k a u)) (fun _ _ si => n - (intOf si).toNat)
  case atStart => exact ⟨5, k0, 0, 1, rfl, rfl, rfl, .inl ⟨rfl, rfl⟩, rfl, by omega, by omega, hk0, rfl⟩
  case round =>
    obtain ⟨f, k, a, u, rfl, rfl, rfl, hu, hkf, ha0, hau, hkn, hs⟩ := hrel
    by_cases hlt : k < n
    · obtain ⟨b, off, rfl, hbB, hcell⟩ := hx.at k hlt
      have g1 := hcell k hlt
      clear hcell
      have hby : 0 ≤ xs.getD k 0 ∧ xs.getD k 0 ≤ 255 := by
        have hl := HX.out
        have e : xs.getD k 0 = xs[k]'(by omega) := by simp [List.getD, show k < xs.length by omega]
        rw [e]; exact HBY.out _ (List.getElem_mem _)
      have hmore := scan_more (xs := xs) (f := f - 1) (i := k) (n := a) (u := u) (by have := HX.out; omega)
      have hbad := scan_bad (xs := xs) (f := f - 1) (i := k) (n := a) (u := u) (by have := HX.out; omega)
      have hgood := scan_good (xs := xs) (f := f - 1) (i := k) (n := a) (u := u) (by have := HX.out; omega)
      generalize xs.getD k 0 = x at g1 hby hmore hbad hgood
      have HM := Lib.hid hmore; have HB := Lib.hid hbad; have HG := Lib.hid hgood
      clear hmore hbad hgood
      obtain ⟨f1, hf1⟩ : ∃ f1, f1 = f - 1 := ⟨_, rfl⟩
      have HF1 := Lib.hid hf1; clear hf1
      have hcase : 1000000000 < a + x % 128 * u ∨ ¬ 1000000000 < a + x % 128 * u := Classical.em _
      have hl1 : k < k0 + 5 ∨ k0 + 5 ≤ k := by omega
      have hl2 : k0 < k ∨ k ≤ k0 := by omega
      have hl3 : k0 + 5 = k + f := hkf.out.symm
      rcases hu with ⟨rfl, rfl⟩ | ⟨rfl, rfl⟩ | ⟨rfl, rfl⟩ | ⟨rfl, rfl⟩ | ⟨rfl, rfl⟩ | ⟨rfl, rfl⟩
      rotate_left 5
      · have hl4 : ¬ k < k0 + 5 := by omega
        clear hcase hl1 hl2 hl3
        go_wp2
        go_ret3
        exact scPost_none hs.out
      all_goals
        have hl4 : k < k0 + 5 := by omega
        by_cases h128 : x < 128
        · by_cases hz : x = 0
          · subst hz
            first
            | (have e1 : Hid (scan xs 5 k0 0 1 = none) := by rw [Hid, hs.out]; exact HB.out h128 (.inr ⟨rfl, by omega⟩)
               have hl5 : k0 < k := by omega
               have hbig : ¬ 1000000000 < a := by omega
               clear hcase hl1 hl2 hl3
               go_wp2
               go_ret3
               exact scPost_none e1.out)
            | (have e1 : Hid (scan xs 5 k0 0 1 = some (a + 0 % 128 * 1, k + 1)) := by rw [Hid, hs.out]; exact HG.out h128 (by omega)
               have a0 : a = 0 := by omega
               have hl5 : ¬ k0 < k := by omega
               subst a0
               clear hcase hl1 hl2 hl3
               go_wp2
               go_ret3
               exact scPost_some e1.out (by omega) (by omega))
          · have hz' : (x == 0) = false := by simpa using hz
            have hl2' : Hid (k0 < k ∨ k ≤ k0) := hl2
            clear hl1 hl2 hl3
            rcases hcase with hbig | hbig
            · first
              | (exfalso; omega)
              | (have e1 : Hid (scan xs 5 k0 0 1 = none) := by rw [Hid, hs.out]; exact HB.out h128 (.inl hbig)
                 go_wp2
                 go_ret3
                 exact scPost_none e1.out)
            · have e0 := hs.out.trans (HG.out h128 (by omega))
              have e1 := Lib.hid e0; clear e0
              rcases hl2'.out with hl5 | hl5
              all_goals
                go_wp2
                go_ret3
                exact scPost_some e1.out (by omega) (by omega)
        · clear hcase hl1 hl2 hl3
          have e0 := hs.out.trans (HM.out h128)
          have e1 := Lib.hid e0; clear e0
          go_wp2
          go_round
          case rel => exact ⟨f1, k + 1, _, _, rfl, rfl, by go_num, by have := HF1.out; unfold Unit'; omega, by have := HF1.out; have := hkf.out; unfold Hid; omega, by omega, by omega, by omega, by rw [Hid, e1.out, HF1.out]; first | rfl | (congr 1 <;> omega)⟩
          case measure => simp [intOf]; try omega
    · have e1 : Hid (scan xs 5 k0 0 1 = none) := by rw [Hid, hs.out]; exact scan_stop (by have := HX.out; omega)
      go_wp2
      go_ret3
      exact scPost_none e1.out

theorem readVar_out {xs : List Int} {p : Int} (h : ¬ (0 ≤ p ∧ p ≤ xs.length)) : readVar xs p = none := by
  unfold readVar scanAt
  split
  · split
    · exact scan_stop (by omega)
    · rfl
  · rfl

set_option maxHeartbeats 400000 in
theorem specReadVar_any (B : Nat) (ao : Option Addr) (n cap : Nat) (xs : List Int) (p : Int) (w : World) (hx : Ints B w ao n cap xs) :
    Calls Try.prog 13 #[.slice ao n cap, .int .i64 p] w (ScPost (readVar xs p) w) := by
  have hx0 := hx.hlen
  have HX := Lib.hid hx0; clear hx0
  by_cases hok : bytesOk xs = true
  · by_cases hin : inB p 0 n = true
    · have hp : 0 ≤ p ∧ p ≤ n := by simpa [inB] using hin
      obtain ⟨k0, rfl⟩ : ∃ k0 : Nat, p = k0 := ⟨p.toNat, by omega⟩
      have e0 : readVar xs k0 = scan xs 5 k0 0 1 := by rw [readVar, if_pos hok, scanAt, if_pos (by omega)]; simp
      have hby := bytesOk_mem hok
      rw [HX.out] at hby
      have HBY := Lib.hid hby; clear hby
      rw [e0]
      clear e0
      go_enter Try.func13, Try.ntmps13
      go_wp2_with fail
      refine (specBytesOk_any _ _ _ _ xs _ hx).mono ?_
      rintro e w1 ⟨rfl, rfl⟩
      rw [hok]
      go_wp2_with fail
      refine (l1In_any _ _ _ _).mono ?_
      rintro e w2 ⟨rfl, rfl⟩
      rw [hin]
      go_wp2_with fail
      refine (l1ReadVar_any B ao n cap xs k0 _ hx HBY.out.1 (by omega) HBY.out.2).mono ?_
      rintro e w3 ⟨rfl, rfl⟩
      go_wp2_with fail
      go_ret3
      exact ⟨rfl, rfl⟩
    · have hin : inB p 0 n = false := by simpa using hin
      have e0 : readVar xs p = none := readVar_out (by have := HX.out; simp [inB] at hin; omega)
      have E0 := Lib.hid e0; clear e0
      go_enter Try.func13, Try.ntmps13
      go_wp2_with fail
      refine (specBytesOk_any _ _ _ _ xs _ hx).mono ?_
      rintro e w1 ⟨rfl, rfl⟩
      rw [hok]
      go_wp2_with fail
      refine (l1In_any _ _ _ _).mono ?_
      rintro e w2 ⟨rfl, rfl⟩
      rw [hin]
      go_wp2_with fail
      go_ret3
      exact scPost_none E0.out
  · have hok : bytesOk xs = false := by simpa using hok
    have e0 : readVar xs p = none := by rw [readVar, hok]; rfl
    have E0 := Lib.hid e0; clear e0
    go_enter Try.func13, Try.ntmps13
    go_wp2_with fail
    refine (specBytesOk_any _ _ _ _ xs _ hx).mono ?_
    rintro e w1 ⟨rfl, rfl⟩
    rw [hok]
    go_wp2_with fail
    go_ret3
    exact scPost_none E0.out

end Go.Proofs.Ytmlabdoncdadmaa
