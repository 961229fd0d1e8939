/- FnExactWithin: for all arguments the call returns true, and they read afterwards as before; no condition. -/
import Derived.Test.YtmimeoakoijjmaaSpecWithin
import Derived.Test.YtmimeoakoijjmaaImplWithin
import Derived.Test.YtmimeoakoijjmaaOpenE
import Derived.Test.YtmimeoakoijjmaaToEntryS
import Derived.Test.YtmimeoakoijjmaaEqEntry
import Derived.Test.YtmimeoakoijjmaaOpenE
namespace Go.Proofs.Ytmimeoakoijjmaa
open Go.ChangeShapes Go.WideShapes Go.ChangeAt Go.RowKit

set_option maxHeartbeats 4000000 in
set_option maxRecDepth 100000 in
theorem exactWithin_any (ao0 : Option Addr) (n0 cap0 : Nat) (es0 : List Ent) (ao1 : Option Addr) (n1 cap1 : Nat) (es1 : List Ent) (w : World) (hx0 : Ents w.heap.size w ao0 n0 cap0 es0) (hx1 : Ents w.heap.size w ao1 n1 cap1 es1) :
    Calls Try.prog 4 #[.slice ao0 n0 cap0, .slice ao1 n1 cap1] w (Yes w) := by
  have hp0 := hx0.hcap; have hq0 := hx0.hmax
  have hmax0 : n0 ≤ maxLen := Nat.le_trans hp0 hq0
  unfold maxLen at hq0
  have hp1 := hx1.hcap; have hq1 := hx1.hmax
  have hmax1 : n1 ≤ maxLen := Nat.le_trans hp1 hq1
  unfold maxLen at hq1
  by_cases hbig0 : (1048576 : Int) < n0
  · have hsz : (if (1048576 : Int) < n0 then (-1 : Int) else 1048576 - n0) = -1 := if_pos hbig0
    have hc0 := szEntryS_any ao0 n0 cap0 1048576 w hmax0 (by omega) (by omega)
    rw [hsz] at hc0
    clear hsz
    go_enter Try.func4, Try.ntmps4
    go_wp2_with fail
    refine hc0.mono ?_
    rintro e wz ⟨rfl, rfl⟩
    go_wp2_with fail
    go_ret
    exact ⟨rfl, Below.refl _ _⟩
  · have hsz : (if (1048576 : Int) < n0 then (-1 : Int) else 1048576 - n0) = 1048576 - n0 := if_neg hbig0
    have hc0 := szEntryS_any ao0 n0 cap0 1048576 w hmax0 (by omega) (by omega)
    rw [hsz] at hc0
    clear hsz
    have hn0 : n0 ≤ 1048576 := by omega
    have hps0 : (0 : Int) ≤ 1048576 - n0 := by omega
    by_cases hbig1 : (1048576 - n0 : Int) < n1
    · have hsz : (if (1048576 - n0 : Int) < n1 then (-1 : Int) else 1048576 - n0 - n1) = -1 := if_pos hbig1
      have hc1 := szEntryS_any ao1 n1 cap1 (1048576 - n0) w hmax1 (by omega) (by omega)
      rw [hsz] at hc1
      clear hsz
      go_enter Try.func4, Try.ntmps4
      go_wp2_with fail
      refine hc0.mono ?_
      rintro e wz ⟨rfl, rfl⟩
      go_wp2_with fail
      refine hc1.mono ?_
      rintro e wz ⟨rfl, rfl⟩
      go_wp2_with fail
      go_ret
      exact ⟨rfl, Below.refl _ _⟩
    · have hsz : (if (1048576 - n0 : Int) < n1 then (-1 : Int) else 1048576 - n0 - n1) = 1048576 - n0 - n1 := if_neg hbig1
      have hc1 := szEntryS_any ao1 n1 cap1 (1048576 - n0) w hmax1 (by omega) (by omega)
      rw [hsz] at hc1
      clear hsz
      have hn1 : n1 ≤ 1048576 := by omega
      have hps1 : (0 : Int) ≤ 1048576 - n0 - n1 := by omega
      have hspec := fun a0 c0 a1 c1 w (h0 : Ents w.heap.size w a0 n0 c0 es0) (h1 : Ents w.heap.size w a1 n1 c1 es1) => specWithin_any w.heap.size a0 n0 c0 es0 a1 n1 c1 es1 w h0 h1 (Nat.le_refl _)
      have himpl := fun a0 c0 a1 c1 w (h0 : Ents w.heap.size w a0 n0 c0 es0) (h1 : Ents w.heap.size w a1 n1 c1 es1) => implWithin_any w.heap.size a0 n0 c0 es0 a1 n1 c1 es1 w h0 h1 (Nat.le_refl _) hn0 hn1
      generalize within es0 es1 = r at hspec himpl
      go_enter Try.func4, Try.ntmps4
      go_wp2_with fail
      refine hc0.mono ?_
      rintro e wz ⟨rfl, rfl⟩
      go_wp2_with fail
      refine hc1.mono ?_
      rintro e wz ⟨rfl, rfl⟩
      have hb0 : Below wz.heap.size wz wz := Below.refl _ _
      go_wp2_with fail
      refine (toEntryS_any _ _ _ _ _ _ (hx0.below hb0 (Nat.le_refl _) (Nat.le_refl _)) hb0.size hn0).mono ?_
      rintro e w1 ⟨pa, pc, rfl, -, ph, -, k1, s1⟩
      have hb1 := hb0.trans (k1.mono hb0.size)
      go_wp2_with fail
      refine (toEntryS_any _ _ _ _ _ _ (hx1.below hb1 (Nat.le_refl _) (Nat.le_refl _)) hb1.size hn1).mono ?_
      rintro e w2 ⟨qa, qc, rfl, -, qh, -, k2, s2⟩
      have hb2 := hb1.trans (k2.mono hb1.size)
      replace ph := ph.below k2 (by omega) (by omega)
      replace ph := ph.below (Below.refl w2.heap.size w2) (by omega) (by omega : _ ≤ w2.heap.size)
      replace qh := qh.below (Below.refl w2.heap.size w2) (by omega) (by omega : _ ≤ w2.heap.size)
      go_wp2_with fail
      refine (hspec _ _ _ _ _ ph qh).mono ?_
      rintro e w3 ⟨rfl, k3⟩
      have s3 := k3.size
      have hb3 := hb2.trans (k3.mono hb2.size)
      replace ph := ph.below k3 (by omega) (by omega)
      replace qh := qh.below k3 (by omega) (by omega)
      clear ph qh
      go_wp2_with fail
      refine (toEntryS_any _ _ _ _ _ _ (hx0.below hb3 (Nat.le_refl _) (Nat.le_refl _)) hb3.size hn0).mono ?_
      rintro e w4 ⟨xa, xc, rfl, -, xh, -, k4, s4⟩
      have hb4 := hb3.trans (k4.mono hb3.size)
      go_wp2_with fail
      refine (toEntryS_any _ _ _ _ _ _ (hx1.below hb4 (Nat.le_refl _) (Nat.le_refl _)) hb4.size hn1).mono ?_
      rintro e w5 ⟨ya, yc, rfl, -, yh, -, k5, s5⟩
      have hb5 := hb4.trans (k5.mono hb4.size)
      replace xh := xh.below k5 (by omega) (by omega)
      replace xh := xh.below (Below.refl w5.heap.size w5) (by omega) (by omega : _ ≤ w5.heap.size)
      replace yh := yh.below (Below.refl w5.heap.size w5) (by omega) (by omega : _ ≤ w5.heap.size)
      go_wp2_with fail
      refine (himpl _ _ _ _ _ xh yh).mono ?_
      rintro e w6 ⟨rfl, k6⟩
      have s6 := k6.size
      have hb6 := hb5.trans (k6.mono hb5.size)
      replace xh := xh.below k6 (by omega) (by omega)
      replace yh := yh.below k6 (by omega) (by omega)
      cases r
      all_goals
        go_wp2_with fail
        refine (toEntryS_any _ _ _ _ _ _ (hx0.below hb6 (Nat.le_refl _) (Nat.le_refl _)) hb6.size hn0).mono ?_
        rintro e w7 ⟨ua, uc, rfl, -, uh, -, k7, s7⟩
        have hb7 := hb6.trans (k7.mono hb6.size)
        replace xh := xh.below k7 (by omega) (by omega)
        replace yh := yh.below k7 (by omega) (by omega)
        go_wp2_with fail
        refine (eqEntryS_any _ _ _ _ _ _ _ _ _ _ _ xh uh (by omega) (by omega)).mono ?_
        rintro e w8 ⟨rfl, k8⟩
        rw [decide_eq_true rfl]
        have s8 := k8.size
        have hb8 := hb7.trans (k8.mono hb7.size)
        replace xh := xh.below k8 (by omega) (by omega)
        replace yh := yh.below k8 (by omega) (by omega)
        replace uh := uh.below k8 (by omega) (by omega)
        go_wp2_with fail
        refine (toEntryS_any _ _ _ _ _ _ (hx1.below hb8 (Nat.le_refl _) (Nat.le_refl _)) hb8.size hn1).mono ?_
        rintro e w9 ⟨va, vc, rfl, -, vh, -, k9, s9⟩
        have hb9 := hb8.trans (k9.mono hb8.size)
        replace xh := xh.below k9 (by omega) (by omega)
        replace yh := yh.below k9 (by omega) (by omega)
        replace uh := uh.below k9 (by omega) (by omega)
        go_wp2_with fail
        refine (eqEntryS_any _ _ _ _ _ _ _ _ _ _ _ yh vh (by omega) (by omega)).mono ?_
        rintro e w10 ⟨rfl, k10⟩
        rw [decide_eq_true rfl]
        have s10 := k10.size
        have hb10 := hb9.trans (k10.mono hb9.size)
        replace xh := xh.below k10 (by omega) (by omega)
        replace yh := yh.below k10 (by omega) (by omega)
        replace uh := uh.below k10 (by omega) (by omega)
        replace vh := vh.below k10 (by omega) (by omega)
        go_wp2_with fail
        go_ret
        exact ⟨rfl, hb10⟩

set_option maxRecDepth 100000 in
theorem exactWithin_lifted (os : Os) (started : os.Started) (H : Type) (enc : TypeId × Value → H) :
    ReturnsInHanded {} Try.checked os 4 .any (Rows.fnExactWithinSpec.pre6 enc Try.prog Try.f4 Rows.fnExactWithinRow.domain false) (Rows.fnExactWithinSpec.post enc Try.prog Try.f4 false true false false) := by
  refine returnsInHanded_of_change (C := Try.checked) Try.own started (by kernel_rfl) Try.func4
    (ChangeSpec.witness6 (enc := enc) (C := Try.checked) false ⟨#[], #[.slice none 0 0, .slice none 0 0], []⟩ 8 (by kernel_rfl) (by kernel_rfl) (by kernel_rfl) (by kernel_rfl)) ?_
  intro W base args ds gs before hval0 hW hcnd _
  have hval : ∀ (j : Nat) t v, Try.f4.params[j]? = some t → args[j]? = some v → Value.okWide Try.prog W .any base t v := hval0
  have hW' := hW
  obtain ⟨p, q, hA0, hV, rfl, hfz, hnd⟩ := hW
  have hA : DataW.TrodAll enc Try.prog W 0 (fun _ => true) true Try.f4.params.toList args.toList ds p := hA0
  rw [Try.params4] at hA hval
  obtain ⟨v0, v1, d0, d1, p0, p1, rfl, rfl, rfl, h0, h1⟩ := trodAll_two hA
  obtain ⟨rfl, rfl⟩ := trodVars_none hV
  clear hA0 hval0 hA
  simp only [List.append_nil] at hW' hfz
  have hlt : ∀ x ∈ p0 ++ p1, x.block < W.heap.size := fun x hx => by simpa using hW'.lt x hx
  have hlt0 : ∀ x ∈ p0, x.block < W.heap.size := fun x hx => hlt x (List.mem_append_left _ hx)
  have hlt1 : ∀ x ∈ p1, x.block < W.heap.size := fun x hx => hlt x (List.mem_append_right _ hx)
  have h0k := h0
  obtain ⟨ao0, n0, cap0, es0, rfl, hx0⟩ := open_ents (by exact hval 0 _ v0 rfl rfl) h0 hlt0
  have h1k := h1
  obtain ⟨ao1, n1, cap1, es1, rfl, hx1⟩ := open_ents (by exact hval 1 _ v1 rfl rfl) h1 hlt1
  refine (exactWithin_any ao0 n0 cap0 es0 ao1 n1 cap1 es1 W hx0 hx1).mono fun e W' ⟨he, hb⟩ => ?_
  subst he
  exact ⟨_, rfl, _, _, _, _, _, [], hW', trodAll_mk1 (shut_bool Try.underlying4 _), trodAll_mk2 (Below.trod Try.laidOut (by kernel_rfl) (of_decide_eq_true (by kernel_rfl)) h0k hb hlt0) (Below.trod Try.laidOut (by kernel_rfl) (of_decide_eq_true (by kernel_rfl)) h1k hb hlt1), rfl, hb.frame _, fun h => by cases h⟩

theorem exactWithin_holds : Rows.FnExactWithinSaid :=
  OpenClaim.holds_of_wide 4 Try.f4 rfl rfl rfl rfl rfl rfl rfl ⟨rfl, rfl, rfl, rfl, rfl⟩ rfl rfl rfl rfl rfl (by kernel_rfl) Try.func4 (by kernel_rfl)
    (of_decide_eq_true (by kernel_rfl)) (by unfold Func.isWrapper; first | (rw [if_pos (by decide +kernel)]; kernel_rfl) | (rw [if_neg (by decide +kernel)]; exact ⟨rfl, rfl⟩))
    (fun os started H enc _ => exactWithin_lifted os started H enc)

end Go.Proofs.Ytmimeoakoijjmaa
