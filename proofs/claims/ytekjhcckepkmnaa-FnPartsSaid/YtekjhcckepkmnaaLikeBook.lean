/-
  laws.likeBook.
-/
import Derived.Test.YtekjhcckepkmnaaEntsSet
import Derived.Deep.RegionHeld3
namespace Go.Proofs.Ytekjhcckepkmnaa
open Go.RowKit

theorem takeB_eq_step {xs ys : List Ent} {k n : Nat} (hx : xs.length = n) (hy : ys.length = n) (hk : k < n) (h : xs.take k = ys.take k) (he : E xs k = E ys k) : xs.take (k + 1) = ys.take (k + 1) := by
  rw [List.take_succ_eq_append_getElem (by omega), List.take_succ_eq_append_getElem (by omega), h, ← E_get (by omega), ← E_get (by omega), he]

theorem ent_neq {x y : Ent} (h : x ≠ y) : x.o ≠ y.o ∨ x.s ≠ y.s ∨ x.a ≠ y.a ∨ x.d ≠ y.d := by
  obtain ⟨a, b, c, d⟩ := x
  obtain ⟨a', b', c', d'⟩ := y
  simp at h ⊢
  omega

set_option maxHeartbeats 1000000 in
set_option maxRecDepth 100000 in
theorem likeBook_any (B C : Nat) (ao bo : Option Addr) (n cap m dap : Nat) (xs ys : List Ent) (w : World) (hx : Ents B w ao n cap xs) (hy : Ents C w bo m dap ys) :
    Calls Try.prog 8 #[.slice ao n cap, .slice bo m dap] w fun e w' => e = .returned (.bool (decide (xs = ys))) ∧ Drew w w' := by
  have hxl := hx.hlen
  have hyl := hy.hlen
  have hx1 := hx.hcap; have hx2 := hx.hmax; have hy1 := hy.hcap; have hy2 := hy.hmax
  unfold maxLen at hx2 hy2
  have HX := Lib.hid hxl; have HY := Lib.hid hyl
  generalize hq : decide (xs = ys) = q
  have HQ := Lib.hid hq; clear hq
  by_cases hnm : n = m
  · subst hnm
    clear hxl hyl
    go_enter Try.func8, Try.ntmps8
    go_wp2
    go_loopw [5] (fun i wr => ∃ k : Nat, k ≤ n ∧ i = .int .i64 k ∧ Hid (xs.take k = ys.take k) ∧ Drew w wr) (fun i _ => n - (intOf i).toNat)
    case atStart => exact ⟨0, Nat.zero_le _, rfl, rfl, Drew.refl _⟩
    case round =>
      obtain ⟨k, hk, rfl, ht, nq, rfl⟩ := hrel
      by_cases hlt : k < n
      · obtain ⟨b, off, rfl, hbB, hc⟩ := hx.at k hlt
        obtain ⟨b', off', rfl, hbC, hc'⟩ := hy.at k hlt
        have hstep : E xs k = E ys k → xs.take (k + 1) = ys.take (k + 1) := fun h => takeB_eq_step HX.out HY.out hlt ht.out h
        have hne : E xs k ≠ E ys k → q = false := fun h => by rw [← HQ.out]; exact decide_eq_false (fun e => h (by rw [e]))
        have v1 := hc k hlt
        have v2 := hc' k hlt
        generalize E xs k = x at hstep hne v1
        generalize E ys k = y at hstep hne v2
        obtain ⟨c0, c1, c2, c3⟩ : Ent4 (w.drewN nq) b (off + k * 4) x := ⟨v1.h0, v1.h1, v1.h2, v1.h3⟩
        obtain ⟨d0, d1, d2, d3⟩ : Ent4 (w.drewN nq) b' (off' + k * 4) y := ⟨v2.h0, v2.h1, v2.h2, v2.h3⟩
        have HS := Lib.hid hstep; have HN := Lib.hid hne
        clear hstep hne hc hc' v1 v2
        have i1 : (0 : Int) ≤ k := by omega
        have i2 : (k : Int) < n := by omega
        by_cases he : x = y
        · have hd := Lib.hid (HS.out he)
          subst he
          clear HN HS
          go_wp2
          go_region_held3 (fun w' => w'.cell? ⟨b, off + k * 4, none⟩ = some (.int .i64 x.o) ∧ w'.cell? ⟨b, off + k * 4 + 1, none⟩ = some (.int .i64 x.s) ∧ w'.cell? ⟨b, off + k * 4 + 2, none⟩ = some (.int .i64 x.a) ∧ w'.cell? ⟨b, off + k * 4 + 3, none⟩ = some (.int .i64 x.d) ∧ w'.cell? ⟨b', off' + k * 4, none⟩ = some (.int .i64 x.o) ∧ w'.cell? ⟨b', off' + k * 4 + 1, none⟩ = some (.int .i64 x.s) ∧ w'.cell? ⟨b', off' + k * 4 + 2, none⟩ = some (.int .i64 x.a) ∧ w'.cell? ⟨b', off' + k * 4 + 3, none⟩ = some (.int .i64 x.d))
            (exact ⟨c0, c1, c2, c3, d0, d1, d2, d3⟩) (fail)
          go_wp2
          go_roundw
          case rel => exact ⟨k + 1, by omega, by go_num, hd, by first | exact Drew.two _ _ _ | exact Drew.one _ _⟩
          case measure => simp [intOf]; omega
        · have hd := Lib.hid (HN.out he)
          by_cases e0 : x.o = y.o
          rotate_left
          ·
            clear he HN HS
            go_wp2
            go_region_held3 (fun w' => w'.cell? ⟨b, off + k * 4, none⟩ = some (.int .i64 x.o) ∧ w'.cell? ⟨b, off + k * 4 + 1, none⟩ = some (.int .i64 x.s) ∧ w'.cell? ⟨b, off + k * 4 + 2, none⟩ = some (.int .i64 x.a) ∧ w'.cell? ⟨b, off + k * 4 + 3, none⟩ = some (.int .i64 x.d) ∧ w'.cell? ⟨b', off' + k * 4, none⟩ = some (.int .i64 y.o) ∧ w'.cell? ⟨b', off' + k * 4 + 1, none⟩ = some (.int .i64 y.s) ∧ w'.cell? ⟨b', off' + k * 4 + 2, none⟩ = some (.int .i64 y.a) ∧ w'.cell? ⟨b', off' + k * 4 + 3, none⟩ = some (.int .i64 y.d))
              (exact ⟨c0, c1, c2, c3, d0, d1, d2, d3⟩) (fail)
            go_wp2
            go_ret
            exact ⟨ret_bool hd.out.symm, by first | exact Drew.two _ _ _ | exact Drew.one _ _⟩
          by_cases e1 : x.s = y.s
          rotate_left
          ·
            clear he HN HS
            go_wp2
            go_region_held3 (fun w' => w'.cell? ⟨b, off + k * 4, none⟩ = some (.int .i64 x.o) ∧ w'.cell? ⟨b, off + k * 4 + 1, none⟩ = some (.int .i64 x.s) ∧ w'.cell? ⟨b, off + k * 4 + 2, none⟩ = some (.int .i64 x.a) ∧ w'.cell? ⟨b, off + k * 4 + 3, none⟩ = some (.int .i64 x.d) ∧ w'.cell? ⟨b', off' + k * 4, none⟩ = some (.int .i64 y.o) ∧ w'.cell? ⟨b', off' + k * 4 + 1, none⟩ = some (.int .i64 y.s) ∧ w'.cell? ⟨b', off' + k * 4 + 2, none⟩ = some (.int .i64 y.a) ∧ w'.cell? ⟨b', off' + k * 4 + 3, none⟩ = some (.int .i64 y.d))
              (exact ⟨c0, c1, c2, c3, d0, d1, d2, d3⟩) (fail)
            go_wp2
            go_ret
            exact ⟨ret_bool hd.out.symm, by first | exact Drew.two _ _ _ | exact Drew.one _ _⟩
          by_cases e2 : x.a = y.a
          rotate_left
          ·
            clear he HN HS
            go_wp2
            go_region_held3 (fun w' => w'.cell? ⟨b, off + k * 4, none⟩ = some (.int .i64 x.o) ∧ w'.cell? ⟨b, off + k * 4 + 1, none⟩ = some (.int .i64 x.s) ∧ w'.cell? ⟨b, off + k * 4 + 2, none⟩ = some (.int .i64 x.a) ∧ w'.cell? ⟨b, off + k * 4 + 3, none⟩ = some (.int .i64 x.d) ∧ w'.cell? ⟨b', off' + k * 4, none⟩ = some (.int .i64 y.o) ∧ w'.cell? ⟨b', off' + k * 4 + 1, none⟩ = some (.int .i64 y.s) ∧ w'.cell? ⟨b', off' + k * 4 + 2, none⟩ = some (.int .i64 y.a) ∧ w'.cell? ⟨b', off' + k * 4 + 3, none⟩ = some (.int .i64 y.d))
              (exact ⟨c0, c1, c2, c3, d0, d1, d2, d3⟩) (fail)
            go_wp2
            go_ret
            exact ⟨ret_bool hd.out.symm, by first | exact Drew.two _ _ _ | exact Drew.one _ _⟩
          have e3 : ¬ x.d = y.d := by rcases ent_neq he with h | h | h | h <;> simp_all
          clear he HN HS
          go_wp2
          go_region_held3 (fun w' => w'.cell? ⟨b, off + k * 4, none⟩ = some (.int .i64 x.o) ∧ w'.cell? ⟨b, off + k * 4 + 1, none⟩ = some (.int .i64 x.s) ∧ w'.cell? ⟨b, off + k * 4 + 2, none⟩ = some (.int .i64 x.a) ∧ w'.cell? ⟨b, off + k * 4 + 3, none⟩ = some (.int .i64 x.d) ∧ w'.cell? ⟨b', off' + k * 4, none⟩ = some (.int .i64 y.o) ∧ w'.cell? ⟨b', off' + k * 4 + 1, none⟩ = some (.int .i64 y.s) ∧ w'.cell? ⟨b', off' + k * 4 + 2, none⟩ = some (.int .i64 y.a) ∧ w'.cell? ⟨b', off' + k * 4 + 3, none⟩ = some (.int .i64 y.d))
            (exact ⟨c0, c1, c2, c3, d0, d1, d2, d3⟩) (fail)
          go_wp2
          go_ret
          exact ⟨ret_bool hd.out.symm, by first | exact Drew.two _ _ _ | exact Drew.one _ _⟩
      · have ek : k = n := by omega
        subst ek
        have h1 := ht.out
        rw [List.take_of_length_le (by have := HX.out; omega), List.take_of_length_le (by have := HY.out; omega)] at h1
        have hd := Lib.hid (HQ.out.symm.trans (decide_eq_true h1))
        clear h1
        go_wp2
        go_ret
        exact ⟨ret_bool hd.out.symm, by first | exact Drew.two _ _ _ | exact Drew.one _ _⟩
  · have hne : xs ≠ ys := fun h => hnm (by rw [← hxl, ← hyl, h])
    have hd := Lib.hid (HQ.out.symm.trans (decide_eq_false hne)); clear hne
    have hb : ((n : Int) != (m : Int)) = true := by rw [bne_iff_ne]; omega
    clear hxl hyl
    go_enter Try.func8, Try.ntmps8
    go_wp2
    go_ret
    exact ⟨ret_bool hd.out.symm, Drew.refl _⟩

end Go.Proofs.Ytekjhcckepkmnaa
