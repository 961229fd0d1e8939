/-
  laws.eqEntry, laws.eqEntryS.
-/
import Derived.Test.YtekjhcckepkmnaaEntsSet
import Derived.Test.YtekjhcckepkmnaaEqMath
import Derived.Deep.RegionHeld3
namespace Go.Proofs.Ytekjhcckepkmnaa
open Go.RowKit

theorem ent_ne_o {x y : Ent} (h : x.o ≠ y.o) : decide (x = y) = false := decide_eq_false (fun e => h (by rw [e]))
theorem ent_ne_s {x y : Ent} (h : x.s ≠ y.s) : decide (x = y) = false := decide_eq_false (fun e => h (by rw [e]))
theorem ent_ne_a {x y : Ent} (h : x.a ≠ y.a) : decide (x = y) = false := decide_eq_false (fun e => h (by rw [e]))
theorem ent_ne_d {x y : Ent} (h : x.d ≠ y.d) : decide (x = y) = false := decide_eq_false (fun e => h (by rw [e]))
theorem ent_eq {x y : Ent} (h0 : x.o = y.o) (h1 : x.s = y.s) (h2 : x.a = y.a) (h3 : x.d = y.d) : decide (x = y) = true := by
  obtain ⟨a, b, c, d⟩ := x
  obtain ⟨a', b', c', d'⟩ := y
  simp at h0 h1 h2 h3
  subst h0 h1 h2 h3
  exact decide_eq_true rfl

theorem says_box2 {v u : Value} {w : World} (cs cs' : Array Value) (t t' : TypeId) (h : u = v) : Says v w (.returned u) ((w.alloc (.cells cs t)).alloc (.cells cs' t')) := by
  subst h
  exact ⟨rfl, ((Below.refl _ _).alloc (Nat.le_refl _) _).alloc (by simp) _⟩

set_option maxHeartbeats 1000000 in
theorem eqEntry_any (x y : Ent) (w : World) :
    Calls Try.prog 36 #[.agg #[.int .i64 x.o, .int .i64 x.s, .int .i64 x.a, .int .i64 x.d], .agg #[.int .i64 y.o, .int .i64 y.s, .int .i64 y.a, .int .i64 y.d]] w (Says (.bool (decide (x = y))) w) := by
  generalize hq : decide (x = y) = q
  have HQ := Lib.hid hq; clear hq
  by_cases h0 : x.o = y.o
  · have h0' : (x.o != y.o) = false := by simpa using h0
    by_cases h1 : x.s = y.s
    · have h1' : (x.s != y.s) = false := by simpa using h1
      by_cases h2 : x.a = y.a
      · have h2' : (x.a != y.a) = false := by simpa using h2
        by_cases h3 : x.d = y.d
        · have h3' : (x.d != y.d) = false := by simpa using h3
          have hv := Lib.hid (HQ.out.symm.trans (ent_eq h0 h1 h2 h3))
          clear h0 h1 h2 h3
          go_enter Try.func36, Try.ntmps36
          go_wp2
          go_ret
          exact says_box2 _ _ _ _ (by rw [hv.out]; rfl)
        · have h3' : (x.d != y.d) = true := by simpa using h3
          have hv := Lib.hid (HQ.out.symm.trans (ent_ne_d h3))
          clear h0 h1 h2 h3
          go_enter Try.func36, Try.ntmps36
          go_wp2
          go_ret
          exact says_box2 _ _ _ _ (by rw [hv.out]; rfl)
      · have h2' : (x.a != y.a) = true := by simpa using h2
        have hv := Lib.hid (HQ.out.symm.trans (ent_ne_a h2))
        clear h0 h1 h2
        go_enter Try.func36, Try.ntmps36
        go_wp2
        go_ret
        exact says_box2 _ _ _ _ (by rw [hv.out]; rfl)
    · have h1' : (x.s != y.s) = true := by simpa using h1
      have hv := Lib.hid (HQ.out.symm.trans (ent_ne_s h1))
      clear h0 h1
      go_enter Try.func36, Try.ntmps36
      go_wp2
      go_ret
      exact says_box2 _ _ _ _ (by rw [hv.out]; rfl)
  · have h0' : (x.o != y.o) = true := by simpa using h0
    have hv := Lib.hid (HQ.out.symm.trans (ent_ne_o h0))
    clear h0
    go_enter Try.func36, Try.ntmps36
    go_wp2
    go_ret
    exact says_box2 _ _ _ _ (by rw [hv.out]; rfl)

theorem takeE_eq_step {xs ys : List Ent} {k n : Nat} (hx : xs.length = n) (hy : ys.length = n) (hk : k < n) (h : xs.take k = ys.take k) (he : E xs k = E ys k) : xs.take (k + 1) = ys.take (k + 1) := by
  rw [List.take_succ_eq_append_getElem (by omega), List.take_succ_eq_append_getElem (by omega), h, ← E_get (by omega), ← E_get (by omega), he]
theorem E_ne {xs ys : List Ent} {k : Nat} (h : E xs k ≠ E ys k) : xs ≠ ys := fun e => h (by rw [e])

set_option maxHeartbeats 1000000 in
set_option maxRecDepth 100000 in
theorem eqEntryS_any (B C : Nat) (ao bo : Option Addr) (n cap m dap : Nat) (xs ys : List Ent) (w : World) (hx : Ents B w ao n cap xs) (hy : Ents C w bo m dap ys) (hB : B ≤ w.heap.size) (hC : C ≤ w.heap.size) :
    Calls Try.prog 17 #[.slice ao n cap, .slice bo m dap] w (Says (.bool (decide (xs = ys))) w) := by
  have hxl := hx.hlen
  have hyl := hy.hlen
  have hx1 := hx.hcap; have hx2 := hx.hmax; have hy1 := hy.hcap; have hy2 := hy.hmax
  unfold maxLen at hx2 hy2
  have HX := Lib.hid hxl; have HY := Lib.hid hyl
  generalize hq : decide (xs = ys) = q
  have HQ := Lib.hid hq; clear hq
  by_cases hnm : n = m
  · subst hnm
    clear hxl hyl
    go_enter Try.func17, Try.ntmps17
    go_wp2
    go_loopw [5] (fun i wr => ∃ k : Nat, k ≤ n ∧ i = .int .i64 k ∧ Hid (xs.take k = ys.take k) ∧ Below w.heap.size w wr) (fun i _ => n - (intOf i).toNat)
    case atStart => exact ⟨0, Nat.zero_le _, rfl, rfl, Below.refl _ _⟩
    case round =>
      obtain ⟨k, hk, rfl, ht, hbel⟩ := hrel
      by_cases hlt : k < n
      · obtain ⟨b, off, rfl, hbB, hc⟩ := hx.at k hlt
        obtain ⟨b', off', rfl, hbC, hc'⟩ := hy.at k hlt
        have hsz := hbel.size
        have hE := fun w => eqEntry_any (E xs k) (E ys k) w
        have hstep : E xs k = E ys k → xs.take (k + 1) = ys.take (k + 1) := fun h => takeE_eq_step HX.out HY.out hlt ht.out h
        have hne : E xs k ≠ E ys k → q = false := fun h => by rw [← HQ.out]; exact decide_eq_false (E_ne h)
        have HV1 : ∀ w', Below wr.heap.size wr w' → Ent4 w' b (off + k * 4) (E xs k) := fun w' h => ((hc k hlt).below hbel (show b < w.heap.size by omega)).below h (by omega)
        have HV2 : ∀ w', Below wr.heap.size wr w' → Ent4 w' b' (off' + k * 4) (E ys k) := fun w' h => ((hc' k hlt).below hbel (show b' < w.heap.size by omega)).below h (by omega)
        generalize E xs k = x at hE hstep hne HV1
        generalize E ys k = y at hE hstep hne HV2
        obtain ⟨c0, c1, c2, c3⟩ := HV1 wr (Below.refl _ _)
        obtain ⟨d0, d1, d2, d3⟩ := HV2 wr (Below.refl _ _)
        have HW := Lib.hid HV1; have HV := Lib.hid HV2; have HS := Lib.hid hstep; have HN := Lib.hid hne
        clear HV1 HV2 hstep hne hc hc'
        have i1 : (0 : Int) ≤ k := by omega
        have i2 : (k : Int) < n := by omega
        by_cases he : x = y
        · have hd := Lib.hid (HS.out he)
          rw [decide_eq_true he] at hE
          clear he HN HS
          go_wp2
          go_region_held3 (fun w' => w'.cell? ⟨b, off + k * 4, none⟩ = some (.int .i64 x.o) ∧ w'.cell? ⟨b, off + k * 4 + 1, none⟩ = some (.int .i64 x.s) ∧ w'.cell? ⟨b, off + k * 4 + 2, none⟩ = some (.int .i64 x.a) ∧ w'.cell? ⟨b, off + k * 4 + 3, none⟩ = some (.int .i64 x.d) ∧ w'.cell? ⟨b', off' + k * 4, none⟩ = some (.int .i64 y.o) ∧ w'.cell? ⟨b', off' + k * 4 + 1, none⟩ = some (.int .i64 y.s) ∧ w'.cell? ⟨b', off' + k * 4 + 2, none⟩ = some (.int .i64 y.a) ∧ w'.cell? ⟨b', off' + k * 4 + 3, none⟩ = some (.int .i64 y.d))
            (first | exact ⟨(HW.out _ HBA).h0, (HW.out _ HBA).h1, (HW.out _ HBA).h2, (HW.out _ HBA).h3, (HV.out _ HBA).h0, (HV.out _ HBA).h1, (HV.out _ HBA).h2, (HV.out _ HBA).h3⟩ | exact ⟨c0, c1, c2, c3, d0, d1, d2, d3⟩)
            (first | (go_at_call 36; refine (hE _).mono ?_; rintro e wA ⟨rfl, hbA⟩; have HBA := (Below.refl wr.heap.size wr).drew.trans hbA))
          go_wp2
          go_roundw
          case rel => exact ⟨k + 1, by omega, by go_num, hd, hbel.trans (HBA.mono hsz)⟩
          case measure => simp [intOf]; omega
        · have hd := Lib.hid (HN.out he)
          rw [decide_eq_false he] at hE
          clear he HN HS
          go_wp2
          go_region_held3 (fun w' => w'.cell? ⟨b, off + k * 4, none⟩ = some (.int .i64 x.o) ∧ w'.cell? ⟨b, off + k * 4 + 1, none⟩ = some (.int .i64 x.s) ∧ w'.cell? ⟨b, off + k * 4 + 2, none⟩ = some (.int .i64 x.a) ∧ w'.cell? ⟨b, off + k * 4 + 3, none⟩ = some (.int .i64 x.d) ∧ w'.cell? ⟨b', off' + k * 4, none⟩ = some (.int .i64 y.o) ∧ w'.cell? ⟨b', off' + k * 4 + 1, none⟩ = some (.int .i64 y.s) ∧ w'.cell? ⟨b', off' + k * 4 + 2, none⟩ = some (.int .i64 y.a) ∧ w'.cell? ⟨b', off' + k * 4 + 3, none⟩ = some (.int .i64 y.d))
            (first | exact ⟨(HW.out _ HBA).h0, (HW.out _ HBA).h1, (HW.out _ HBA).h2, (HW.out _ HBA).h3, (HV.out _ HBA).h0, (HV.out _ HBA).h1, (HV.out _ HBA).h2, (HV.out _ HBA).h3⟩ | exact ⟨c0, c1, c2, c3, d0, d1, d2, d3⟩)
            (first | (go_at_call 36; refine (hE _).mono ?_; rintro e wA ⟨rfl, hbA⟩; have HBA := (Below.refl wr.heap.size wr).drew.trans hbA))
          go_wp2
          go_ret
          exact ⟨ret_bool hd.out.symm, hbel.trans (HBA.mono hsz)⟩
      · have ek : k = n := by omega
        subst ek
        have h1 := ht.out
        rw [List.take_of_length_le (by have := HX.out; omega), List.take_of_length_le (by have := HY.out; omega)] at h1
        have hd := Lib.hid (HQ.out.symm.trans (decide_eq_true h1))
        clear h1
        go_wp2
        go_ret
        exact ⟨ret_bool hd.out.symm, hbel⟩
  · have hne : xs ≠ ys := fun h => hnm (by rw [← hxl, ← hyl, h])
    have hd := Lib.hid (HQ.out.symm.trans (decide_eq_false hne)); clear hne
    have hb : ((n : Int) != (m : Int)) = true := by rw [bne_iff_ne]; omega
    clear hxl hyl
    go_enter Try.func17, Try.ntmps17
    go_wp2
    go_ret
    exact ⟨ret_bool hd.out.symm, Below.refl _ _⟩

end Go.Proofs.Ytekjhcckepkmnaa
