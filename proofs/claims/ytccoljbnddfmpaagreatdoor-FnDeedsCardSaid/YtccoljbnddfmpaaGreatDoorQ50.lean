/- Texts of this claim, put together. -/
import Derived.Test.YtccoljbnddfmpaaGreatDoorQ1
import Derived.Test.YtccoljbnddfmpaaGreatDoorQ2
import Derived.Test.YtccoljbnddfmpaaGreatDoorQ7
import Derived.Test.YtccoljbnddfmpaaGreatDoorQ14
import Derived.Test.YtccoljbnddfmpaaGreatDoorQ18
import Derived.Test.YtccoljbnddfmpaaGreatDoorQ24
import Derived.Test.YtccoljbnddfmpaaGreatDoorQ45
import Derived.Test.YtccoljbnddfmpaaGreatDoorQ47
import Derived.Test.YtccoljbnddfmpaaGreatDoorQ48

namespace Go.Proofs.YtccoljbnddfmpaaGreatDoor
open Go.RowKit
structure LDice (B g : Nat) (w : World) : Prop where
  hB : B ≤ g
  hg : g < w.heap.size
  dice : ∃ ao n cap bs, Bytes B w ao n cap bs ∧ w.cell? ⟨g, 0, none⟩ = some (.slice ao n cap) ∧ ∃ i : Nat, i ≤ n ∧ w.cell? ⟨g, 1, none⟩ = some (.int .i64 i) ∧ ∃ h : Int, 0 ≤ h ∧ h ≤ 18446744073709551615 ∧ w.cell? ⟨g, 2, none⟩ = some (.int .u64 h)
  free : ∀ o, w.frozen? ⟨g, o, none⟩ = false
theorem LDice.moved {B g : Nat} {w : World} (hB : B ≤ g) (hg : g < w.heap.size) {ao : Option Addr} {n cap : Nat} {bs : List Int} (hb : Bytes B w ao n cap bs) (h0 : w.cell? ⟨g, 0, none⟩ = some (.slice ao n cap))
    {v2 : Value} (h2 : w.cell? ⟨g, 2, none⟩ = some v2) {v1 : Value} (h1 : w.cell? ⟨g, 1, none⟩ = some v1) (hf : ∀ o, w.frozen? ⟨g, o, none⟩ = false) (i : Nat) (hi : i ≤ n) (q : Int) (hq : 0 ≤ q ∧ q ≤ 18446744073709551615) (k : Nat) (p : Int) (hp : p = i) :
    Only g w (((w.setCell ⟨g, 2, none⟩ (.int .u64 q)).drewN k).setCell ⟨g, 1, none⟩ (.int .i64 p)) ∧ LDice B g (((w.setCell ⟨g, 2, none⟩ (.int .u64 q)).drewN k).setCell ⟨g, 1, none⟩ (.int .i64 p)) := by
  subst hp
  have ho : Only g w (((w.setCell ⟨g, 2, none⟩ (.int .u64 q)).drewN k).setCell ⟨g, 1, none⟩ (.int .i64 i)) := (((Only.refl g w).setCell 2 _).drewN _).setCell 1 _
  exact ⟨ho, hB, by rw [ho.size]; exact hg, ⟨ao, n, cap, bs, hb.grown ho.grown hB, by go_simp, i, hi, by go_simp, q, hq.1, hq.2, by go_simp⟩, fun o => by have := hf o; go_simp⟩
theorem LDice.rolled {B g : Nat} {w : World} (hB : B ≤ g) (hg : g < w.heap.size) {ao : Option Addr} {n cap : Nat} {bs : List Int} (hb : Bytes B w ao n cap bs) (h0 : w.cell? ⟨g, 0, none⟩ = some (.slice ao n cap))
    {v2 : Value} (h2 : w.cell? ⟨g, 2, none⟩ = some v2) {i : Nat} (h1 : w.cell? ⟨g, 1, none⟩ = some (.int .i64 i)) (hf : ∀ o, w.frozen? ⟨g, o, none⟩ = false) (hi : i ≤ n) (q : Int) (hq : 0 ≤ q ∧ q ≤ 18446744073709551615) (k : Nat) :
    Only g w ((w.setCell ⟨g, 2, none⟩ (.int .u64 q)).drewN k) ∧ LDice B g ((w.setCell ⟨g, 2, none⟩ (.int .u64 q)).drewN k) := by
  have ho : Only g w ((w.setCell ⟨g, 2, none⟩ (.int .u64 q)).drewN k) := ((Only.refl g w).setCell 2 _).drewN _
  exact ⟨ho, hB, by rw [ho.size]; exact hg, ⟨ao, n, cap, bs, hb.grown ho.grown hB, by go_simp, i, hi, by go_simp, q, hq.1, hq.2, by go_simp⟩, fun o => by have := hf o; go_simp⟩
theorem LDice.below {B g C : Nat} {w w' : World} (hd : LDice B g w) (hb : Below C w w') (hC : g < C) : LDice B g w' := by
  obtain ⟨hB, hg, ⟨ao, n, cap, bs, hby, h0, i, hi, h1, h, hh1, hh2, h2⟩, hf⟩ := hd
  exact ⟨hB, Nat.lt_of_lt_of_le hg hb.size, ⟨ao, n, cap, bs, hby.below hb (by omega) (Nat.le_refl _), (hb.cell (p := ⟨g, 0, none⟩) hC).trans h0, i, hi, (hb.cell (p := ⟨g, 1, none⟩) hC).trans h1, h, hh1, hh2, (hb.cell (p := ⟨g, 2, none⟩) hC).trans h2⟩,
    fun o => (hb.frozen (p := ⟨g, o, none⟩) hC).trans (hf o)⟩
def LLow (B g : Nat) (n : Int) (w : World) (e : Ending) (w' : World) : Prop := ∃ r : Nat, e = .returned (.int .i64 r) ∧ (r : Int) < n ∧ Only g w w' ∧ LDice B g w'
theorem LLow.mk {B g : Nat} {n r : Int} {w w' : World} (h0 : 0 ≤ r) (h1 : r < n) (ho : Only g w w') (hd : LDice B g w') : LLow B g n w (.returned (.int .i64 r)) w' := by
  obtain ⟨k, rfl⟩ := Int.eq_ofNat_of_zero_le h0
  exact ⟨k, rfl, h1, ho, hd⟩


set_option maxHeartbeats 400000 in
theorem big_any (ao : Option Addr) (n cap : Nat) (w : World) :
    Calls Tryz.prog 5 #[.slice ao n cap] w fun e w' => e = .returned (.bool (decide (4096 < n))) ∧ w' = w := by
  go_enter Tryz.func5, Tryz.ntmps5
  go_wp2
  go_ret
  exact ⟨ret_bool (by simp; omega), rfl⟩
theorem OwnE.apart {base g : Nat} {w w' : World} {v : Value} {es : List Ent} (h : OwnE base w v es) (hk : Keeps g w w') (hn : v.ownBlock ≠ some g) : OwnE base w' v es := World.ownsRow.kept h hk (.inr hn)
theorem OwnE.newer {base g : Nat} {w : World} {v : Value} {es : List Ent} (h : OwnE base w v es) (hg : g < base) : v.ownBlock ≠ some g := fun e => by
  have := (World.ownsRow.lt h g e).1
  omega
theorem takeB_eq_step {xs ys : List Ent} {k n : Nat} (hx : xs.length = n) (hy : ys.length = n) (hk : k < n) (h : xs.take k = ys.take k) (he : E xs k = E ys k) : xs.take (k + 1) = ys.take (k + 1) := by
  rw [List.take_succ_eq_append_getElem (by omega), List.take_succ_eq_append_getElem (by omega), h, ← E_get (by omega), ← E_get (by omega), he]
theorem ent_neq {x y : Ent} (h : x ≠ y) : x.o ≠ y.o ∨ x.s ≠ y.s ∨ x.a ≠ y.a ∨ x.d ≠ y.d := by
  obtain ⟨a, b, c, d⟩ := x
  obtain ⟨a', b', c', d'⟩ := y
  simp at h ⊢
  omega
set_option maxHeartbeats 1000000 in
set_option maxRecDepth 100000 in
theorem likeBook_any (B C : Nat) (ao bo : Option Addr) (n cap m dap : Nat) (xs ys : List Ent) (w : World) (hx : Ents B w ao n cap xs) (hy : Ents C w bo m dap ys) :
    Calls Tryz.prog 10 #[.slice ao n cap, .slice bo m dap] w fun e w' => e = .returned (.bool (decide (xs = ys))) ∧ Drew w w' := by
  have hxl := hx.hlen
  have hyl := hy.hlen
  have hx1 := hx.hcap; have hx2 := hx.hmax; have hy1 := hy.hcap; have hy2 := hy.hmax
  unfold maxLen at hx2 hy2
  have HX := Lib.hid hxl; have HY := Lib.hid hyl
  generalize hq : decide (xs = ys) = q
  have HQ := Lib.hid hq; clear hq
  by_cases hnm : n = m
  · subst hnm
    clear hxl hyl
    go_enter Tryz.func10, Tryz.ntmps10
    go_wp2
    go_loopw [5] (fun i wr => ∃ k : Nat, k ≤ n ∧ i = .int .i64 k ∧ Hid (xs.take k = ys.take k) ∧ Drew w wr) (fun i _ => n - (intOf i).toNat)
    case atStart => exact ⟨0, Nat.zero_le _, rfl, rfl, Drew.refl _⟩
    case round =>
      obtain ⟨k, hk, rfl, ht, nq, rfl⟩ := hrel
      by_cases hlt : k < n
      · obtain ⟨b, off, rfl, hbB, hc⟩ := hx.at k hlt
        obtain ⟨b', off', rfl, hbC, hc'⟩ := hy.at k hlt
        have hstep : E xs k = E ys k → xs.take (k + 1) = ys.take (k + 1) := fun h => takeB_eq_step HX.out HY.out hlt ht.out h
        have hne : E xs k ≠ E ys k → q = false := fun h => by rw [← HQ.out]; exact decide_eq_false (fun e => h (by rw [e]))
        have v1 := hc k hlt
        have v2 := hc' k hlt
        generalize E xs k = x at hstep hne v1
        generalize E ys k = y at hstep hne v2
        obtain ⟨c0, c1, c2, c3⟩ : Ent4 (w.drewN nq) b (off + k * 4) x := ⟨v1.h0, v1.h1, v1.h2, v1.h3⟩
        obtain ⟨d0, d1, d2, d3⟩ : Ent4 (w.drewN nq) b' (off' + k * 4) y := ⟨v2.h0, v2.h1, v2.h2, v2.h3⟩
        have HS := Lib.hid hstep; have HN := Lib.hid hne
        clear hstep hne hc hc' v1 v2
        have i1 : (0 : Int) ≤ k := by omega
        have i2 : (k : Int) < n := by omega
        by_cases he : x = y
        · have hd := Lib.hid (HS.out he)
          subst he
          clear HN HS
          go_wp2
          go_region_held3 (fun w' => w'.cell? ⟨b, off + k * 4, none⟩ = some (.int .i64 x.o) ∧ w'.cell? ⟨b, off + k * 4 + 1, none⟩ = some (.int .i64 x.s) ∧ w'.cell? ⟨b, off + k * 4 + 2, none⟩ = some (.int .i64 x.a) ∧ w'.cell? ⟨b, off + k * 4 + 3, none⟩ = some (.int .i64 x.d) ∧ w'.cell? ⟨b', off' + k * 4, none⟩ = some (.int .i64 x.o) ∧ w'.cell? ⟨b', off' + k * 4 + 1, none⟩ = some (.int .i64 x.s) ∧ w'.cell? ⟨b', off' + k * 4 + 2, none⟩ = some (.int .i64 x.a) ∧ w'.cell? ⟨b', off' + k * 4 + 3, none⟩ = some (.int .i64 x.d))
            (exact ⟨c0, c1, c2, c3, d0, d1, d2, d3⟩) (fail)
          go_wp2
          go_roundw
          case rel => exact ⟨k + 1, by omega, by go_num, hd, by first | exact Drew.two _ _ _ | exact Drew.one _ _⟩
          case measure => simp [intOf]; omega
        · have hd := Lib.hid (HN.out he)
          by_cases e0 : x.o = y.o
          rotate_left
          ·
            clear he HN HS
            go_wp2
            go_region_held3 (fun w' => w'.cell? ⟨b, off + k * 4, none⟩ = some (.int .i64 x.o) ∧ w'.cell? ⟨b, off + k * 4 + 1, none⟩ = some (.int .i64 x.s) ∧ w'.cell? ⟨b, off + k * 4 + 2, none⟩ = some (.int .i64 x.a) ∧ w'.cell? ⟨b, off + k * 4 + 3, none⟩ = some (.int .i64 x.d) ∧ w'.cell? ⟨b', off' + k * 4, none⟩ = some (.int .i64 y.o) ∧ w'.cell? ⟨b', off' + k * 4 + 1, none⟩ = some (.int .i64 y.s) ∧ w'.cell? ⟨b', off' + k * 4 + 2, none⟩ = some (.int .i64 y.a) ∧ w'.cell? ⟨b', off' + k * 4 + 3, none⟩ = some (.int .i64 y.d))
              (exact ⟨c0, c1, c2, c3, d0, d1, d2, d3⟩) (fail)
            go_wp2
            go_ret
            exact ⟨ret_bool hd.out.symm, by first | exact Drew.two _ _ _ | exact Drew.one _ _⟩
          by_cases e1 : x.s = y.s
          rotate_left
          ·
            clear he HN HS
            go_wp2
            go_region_held3 (fun w' => w'.cell? ⟨b, off + k * 4, none⟩ = some (.int .i64 x.o) ∧ w'.cell? ⟨b, off + k * 4 + 1, none⟩ = some (.int .i64 x.s) ∧ w'.cell? ⟨b, off + k * 4 + 2, none⟩ = some (.int .i64 x.a) ∧ w'.cell? ⟨b, off + k * 4 + 3, none⟩ = some (.int .i64 x.d) ∧ w'.cell? ⟨b', off' + k * 4, none⟩ = some (.int .i64 y.o) ∧ w'.cell? ⟨b', off' + k * 4 + 1, none⟩ = some (.int .i64 y.s) ∧ w'.cell? ⟨b', off' + k * 4 + 2, none⟩ = some (.int .i64 y.a) ∧ w'.cell? ⟨b', off' + k * 4 + 3, none⟩ = some (.int .i64 y.d))
              (exact ⟨c0, c1, c2, c3, d0, d1, d2, d3⟩) (fail)
            go_wp2
            go_ret
            exact ⟨ret_bool hd.out.symm, by first | exact Drew.two _ _ _ | exact Drew.one _ _⟩
          by_cases e2 : x.a = y.a
          rotate_left
          ·
            clear he HN HS
            go_wp2
            go_region_held3 (fun w' => w'.cell? ⟨b, off + k * 4, none⟩ = some (.int .i64 x.o) ∧ w'.cell? ⟨b, off + k * 4 + 1, none⟩ = some (.int .i64 x.s) ∧ w'.cell? ⟨b, off + k * 4 + 2, none⟩ = some (.int .i64 x.a) ∧ w'.cell? ⟨b, off + k * 4 + 3, none⟩ = some (.int .i64 x.d) ∧ w'.cell? ⟨b', off' + k * 4, none⟩ = some (.int .i64 y.o) ∧ w'.cell? ⟨b', off' + k * 4 + 1, none⟩ = some (.int .i64 y.s) ∧ w'.cell? ⟨b', off' + k * 4 + 2, none⟩ = some (.int .i64 y.a) ∧ w'.cell? ⟨b', off' + k * 4 + 3, none⟩ = some (.int .i64 y.d))
              (exact ⟨c0, c1, c2, c3, d0, d1, d2, d3⟩) (fail)
            go_wp2
            go_ret
            exact ⟨ret_bool hd.out.symm, by first | exact Drew.two _ _ _ | exact Drew.one _ _⟩
          have e3 : ¬ x.d = y.d := by rcases ent_neq he with h | h | h | h <;> simp_all
          clear he HN HS
          go_wp2
          go_region_held3 (fun w' => w'.cell? ⟨b, off + k * 4, none⟩ = some (.int .i64 x.o) ∧ w'.cell? ⟨b, off + k * 4 + 1, none⟩ = some (.int .i64 x.s) ∧ w'.cell? ⟨b, off + k * 4 + 2, none⟩ = some (.int .i64 x.a) ∧ w'.cell? ⟨b, off + k * 4 + 3, none⟩ = some (.int .i64 x.d) ∧ w'.cell? ⟨b', off' + k * 4, none⟩ = some (.int .i64 y.o) ∧ w'.cell? ⟨b', off' + k * 4 + 1, none⟩ = some (.int .i64 y.s) ∧ w'.cell? ⟨b', off' + k * 4 + 2, none⟩ = some (.int .i64 y.a) ∧ w'.cell? ⟨b', off' + k * 4 + 3, none⟩ = some (.int .i64 y.d))
            (exact ⟨c0, c1, c2, c3, d0, d1, d2, d3⟩) (fail)
          go_wp2
          go_ret
          exact ⟨ret_bool hd.out.symm, by first | exact Drew.two _ _ _ | exact Drew.one _ _⟩
      · have ek : k = n := by omega
        subst ek
        have h1 := ht.out
        rw [List.take_of_length_le (by have := HX.out; omega), List.take_of_length_le (by have := HY.out; omega)] at h1
        have hd := Lib.hid (HQ.out.symm.trans (decide_eq_true h1))
        clear h1
        go_wp2
        go_ret
        exact ⟨ret_bool hd.out.symm, by first | exact Drew.two _ _ _ | exact Drew.one _ _⟩
  · have hne : xs ≠ ys := fun h => hnm (by rw [← hxl, ← hyl, h])
    have hd := Lib.hid (HQ.out.symm.trans (decide_eq_false hne)); clear hne
    have hb : ((n : Int) != (m : Int)) = true := by rw [bne_iff_ne]; omega
    clear hxl hyl
    go_enter Tryz.func10, Tryz.ntmps10
    go_wp2
    go_ret
    exact ⟨ret_bool hd.out.symm, Drew.refl _⟩
end Go.Proofs.YtccoljbnddfmpaaGreatDoor
