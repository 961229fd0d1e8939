import Derived.Test.YtekjhcckepkmnaaEqMath
namespace Go.Proofs.Ytekjhcckepkmnaa
open Go.RowKit

set_option maxHeartbeats 400000 in
theorem eqInt64S_any (B C : Nat) (ao bo : Option Addr) (n cap m dap : Nat) (xs ys : List Int) (w : World) (hx : Ints B w ao n cap xs) (hy : Ints C w bo m dap ys) :
    Calls Try.prog 18 #[.slice ao n cap, .slice bo m dap] w fun e w' => e = .returned (.bool (decide (xs = ys))) ∧ Drew w w' := by
  have hxl := hx.hlen
  have hyl := hy.hlen
  have hx1 := hx.hcap; have hx2 := hx.hmax; have hy1 := hy.hcap; have hy2 := hy.hmax
  unfold maxLen at hx2 hy2
  have HX := Lib.hid hxl; have HY := Lib.hid hyl
  by_cases hnm : n = m
  · subst hnm
    clear hxl hyl
    go_enter Try.func18, Try.ntmps18
    go_wp2
    go_loopw [5] (fun i wr => ∃ k : Nat, k ≤ n ∧ i = .int .i64 k ∧ Hid (xs.take k = ys.take k) ∧ Drew w wr) (fun i _ => n - (intOf i).toNat)
    case atStart => exact ⟨0, Nat.zero_le _, rfl, rfl, Drew.refl _⟩
    case round =>
      obtain ⟨k, hk, rfl, ht, nq, rfl⟩ := hrel
      by_cases hlt : k < n
      · obtain ⟨b, off, rfl, hbB, hc⟩ := hx.at k hlt
        obtain ⟨b', off', rfl, hbB', hc'⟩ := hy.at k hlt
        have g1 := hc k hlt
        have g2 := hc' k hlt
        clear hc hc'
        by_cases he : xs.getD k 0 = ys.getD k 0
        · have ht2 := Lib.hid (take_eq_step (by have := HX.out; omega) (by have := HY.out; omega) ht.out he)
          generalize xs.getD k 0 = x at g1 he
          generalize ys.getD k 0 = y at g2 he
          subst he
          have g1' : (w.drewN nq).cell? ⟨b, off + k, none⟩ = some (.int .i64 x) := g1
          have g2' : (w.drewN nq).cell? ⟨b', off' + k, none⟩ = some (.int .i64 x) := g2
          have i1 : (0 : Int) ≤ k := by omega
          have i2 : (k : Int) < n := by omega
          go_wp2
          go_quiet (fail)
          go_wp2
          go_roundw
          case rel => exact ⟨k + 1, by omega, by go_num, ht2, by first | exact Drew.two _ _ _ | exact Drew.one _ _⟩
          case measure => simp [intOf]; omega
        · have hne := getD_ne he
          generalize xs.getD k 0 = x at g1 he
          generalize ys.getD k 0 = y at g2 he
          have hb : (x != y) = true := by simpa using he
          have g1' : (w.drewN nq).cell? ⟨b, off + k, none⟩ = some (.int .i64 x) := g1
          have g2' : (w.drewN nq).cell? ⟨b', off' + k, none⟩ = some (.int .i64 y) := g2
          have i1 : (0 : Int) ≤ k := by omega
          have i2 : (k : Int) < n := by omega
          clear he
          have HNE' := Lib.hid hne; clear hne
          go_wp2
          go_quiet (fail)
          go_wp2
          go_ret
          exact ⟨ret_bool (decide_eq_false HNE'.out).symm, by first | exact Drew.two _ _ _ | exact Drew.one _ _⟩
      · go_wp2
        go_ret
        have ek : k = n := by omega
        subst ek
        have h1 := ht.out
        rw [List.take_of_length_le (by have := HX.out; omega), List.take_of_length_le (by have := HY.out; omega)] at h1
        exact ⟨ret_bool (decide_eq_true h1).symm, by first | exact Drew.two _ _ _ | exact Drew.one _ _⟩
  · have hne : xs ≠ ys := fun h => hnm (by rw [← hxl, ← hyl, h])
    have HNE' := Lib.hid hne; clear hne
    have hb : ((n : Int) != (m : Int)) = true := by rw [bne_iff_ne]; omega
    clear hxl hyl
    go_enter Try.func18, Try.ntmps18
    go_wp2
    go_ret
    exact ⟨ret_bool (decide_eq_false HNE'.out).symm, Drew.refl _⟩

end Go.Proofs.Ytekjhcckepkmnaa
