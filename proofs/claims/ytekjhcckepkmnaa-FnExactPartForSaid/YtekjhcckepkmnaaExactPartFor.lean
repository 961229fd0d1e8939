/- FnExactPartFor: for all arguments the call returns true, and they read afterwards as before; no condition. -/
import Derived.Test.YtekjhcckepkmnaaSpecPart
import Derived.Test.YtekjhcckepkmnaaRowI
import Derived.Test.YtekjhcckepkmnaaRowE
import Derived.Test.YtekjhcckepkmnaaOpenE
import Derived.Test.YtekjhcckepkmnaaOpen
namespace Go.Proofs.Ytekjhcckepkmnaa
open Go.ChangeShapes Go.WideShapes Go.ChangeAt Go.RowKit

set_option maxHeartbeats 8000000 in
set_option maxRecDepth 100000 in
theorem exactPartFor_any (ao0 : Option Addr) (n0 cap0 : Nat) (es0 : List Ent) (ao1 : Option Addr) (n1 cap1 : Nat) (xs1 : List Int) (w : World) (hx0 : Ents w.heap.size w ao0 n0 cap0 es0) (hx1 : Ints w.heap.size w ao1 n1 cap1 xs1) :
    Calls Try.prog 4 #[.slice ao0 n0 cap0, .slice ao1 n1 cap1] w (Yes w) := by
  have hp0 := hx0.hcap; have hq0 := hx0.hmax
  have hmax0 : n0 ≤ maxLen := Nat.le_trans hp0 hq0
  unfold maxLen at hq0
  have hp1 := hx1.hcap; have hq1 := hx1.hmax
  have hmax1 : n1 ≤ maxLen := Nat.le_trans hp1 hq1
  unfold maxLen at hq1
  by_cases hbig1 : 1048576 < n1
  · go_enter Try.func4, Try.ntmps4
    go_wp2
    go_ret
    exact ⟨rfl, Below.refl _ _⟩
  · have hn1 : n1 ≤ 1048576 := by omega
    by_cases hbig0 : (1048576 : Int) < n0
    · have hsz : (if (1048576 : Int) < n0 then (-1 : Int) else 1048576 - n0) = -1 := if_pos hbig0
      have hc0 := szEntryS_any ao0 n0 cap0 (1048576) w hmax0 (by omega) (by omega)
      rw [hsz] at hc0
      clear hsz
      go_enter Try.func4, Try.ntmps4
      go_wp2_with fail
      refine hc0.mono ?_
      rintro e wz ⟨rfl, rfl⟩
      go_wp2_with fail
      go_ret
      exact ⟨rfl, Below.refl _ _⟩
    · have hsz : (if (1048576 : Int) < n0 then (-1 : Int) else 1048576 - n0) = 1048576 - n0 := if_neg hbig0
      have hc0 := szEntryS_any ao0 n0 cap0 (1048576) w hmax0 (by omega) (by omega)
      rw [hsz] at hc0
      clear hsz
      have hn0 : n0 ≤ 1048576 := by omega
      have hps0 : (0 : Int) ≤ 1048576 - n0 := by omega
      obtain ⟨rs, hrs⟩ : ∃ rs, partFor es0 xs1 = rs := ⟨_, rfl⟩
      obtain ⟨m, hm⟩ : ∃ m, rs.length = m := ⟨_, rfl⟩
      have hall : AllE rs := by rw [← hrs]; exact partFor_wf _ hx0.wf
      have hml : m ≤ 1048576 := by have := partFor_len es0 xs1; have := hx0.hlen; rw [← hm, ← hrs]; omega
      have hspec := fun B0 a0 c0 B1 a1 c1 w (h0 : Ents B0 w a0 n0 c0 es0) (g0 : B0 ≤ w.heap.size) (z0 : a0 = none → c0 = 0) (h1 : Ints B1 w a1 n1 c1 xs1) (g1 : B1 ≤ w.heap.size) (z1 : a1 = none → c1 = 0) => (show Calls Try.prog 9 #[.slice a0 n0 c0, .slice a1 n1 c1] w (RowE rs m (fun v => v) w) from (specPartFor_any w.heap.size a0 a1 n0 c0 n1 c1 es0 xs1 w (h0.below (Below.refl _ _) (Nat.le_refl _) g0) (h1.below (Below.refl _ _) (Nat.le_refl _) g1) (Nat.le_refl _)).mono fun _ _ h => newEs_row (by rw [← hrs]; exact h) hall hm)
      have himpl := fun B0 a0 c0 B1 a1 c1 w (h0 : Ents B0 w a0 n0 c0 es0) (g0 : B0 ≤ w.heap.size) (z0 : a0 = none → c0 = 0) (h1 : Ints B1 w a1 n1 c1 xs1) (g1 : B1 ≤ w.heap.size) (z1 : a1 = none → c1 = 0) => (show Calls Try.prog 7 #[.slice a0 n0 c0, .slice a1 n1 c1] w (RowE rs m (fun v => v) w) from (implPartFor_any B0 B1 a0 a1 n0 c0 n1 c1 es0 xs1 w h0 h1 g0 g1).mono fun _ _ h => newEs_row (by rw [← hrs]; exact h) hall hm)
      clear hrs
      go_enter Try.func4, Try.ntmps4
      go_wp2_with fail
      refine hc0.mono ?_
      rintro e wz ⟨rfl, rfl⟩
      have hb0 : Below wz.heap.size wz wz := Below.refl _ _
      go_wp2_with fail
      refine (toEntryS_any _ _ _ _ _ _ (hx0.below hb0 (Nat.le_refl _) (Nat.le_refl _)) hb0.size hn0).mono ?_
      rintro e w1 ⟨p0a, p0c, rfl, p0o, p0h, p0z, k1, s1⟩
      have hb1 := hb0.trans (k1.mono hb0.size)
      have HZp0 := Lib.hid p0z; clear p0z
      clear p0o
      go_wp2_with fail
      refine (toInt64S_row _ _ _ _ _ _ (hx1.below hb1 (Nat.le_refl _) (Nat.le_refl _)) hb1.size hn1).mono ?_
      rintro e w2 ⟨p1a, p1c, rfl, p1o, p1h, p1z, k2, s2⟩
      have hb2 := hb1.trans (k2.mono hb1.size)
      replace p0h := p0h.below k2 (by omega) (Nat.le_refl _)
      have HZp1 := Lib.hid p1z; clear p1z
      clear p1o
      go_wp2_with fail
      refine (hspec _ _ _ _ _ _ _ p0h (by omega) HZp0.out p1h (by omega) HZp1.out).mono ?_
      rintro e w3 ⟨va, vc, rfl, vo, vh, -, k3, s3⟩
      have hb3 := hb2.trans (k3.mono hb2.size)
      replace p0h := p0h.below k3 (by omega) (Nat.le_refl _)
      replace p1h := p1h.below k3 (by omega) (Nat.le_refl _)
      clear vo
      clear p0h p1h
      go_wp2_with fail
      refine (toEntryS_any _ _ _ _ _ _ (hx0.below hb3 (Nat.le_refl _) (Nat.le_refl _)) hb3.size hn0).mono ?_
      rintro e w4 ⟨x0a, x0c, rfl, x0o, x0h, x0z, k4, s4⟩
      have hb4 := hb3.trans (k4.mono hb3.size)
      replace vh := vh.below k4 (by omega) (Nat.le_refl _)
      have HZx0 := Lib.hid x0z; clear x0z
      have x0q := x0o
      go_wp2_with fail
      refine (toInt64S_row _ _ _ _ _ _ (hx1.below hb4 (Nat.le_refl _) (Nat.le_refl _)) hb4.size hn1).mono ?_
      rintro e w5 ⟨x1a, x1c, rfl, x1o, x1h, x1z, k5, s5⟩
      have hb5 := hb4.trans (k5.mono hb4.size)
      replace vh := vh.below k5 (by omega) (Nat.le_refl _)
      replace x0h := x0h.below k5 (by omega) (Nat.le_refl _)
      replace x0o := x0o.below k5 (Nat.le_refl _)
      have HZx1 := Lib.hid x1z; clear x1z
      have x1q := x1o
      go_wp2_with fail
      refine (himpl _ _ _ _ _ _ _ x0h (by omega) HZx0.out x1h (by omega) HZx1.out).mono ?_
      rintro e w6 ⟨ga, gc, rfl, go, gh, -, k6, s6⟩
      have hb6 := hb5.trans (k6.mono hb5.size)
      replace vh := vh.below k6 (by omega) (Nat.le_refl _)
      replace x0h := x0h.below k6 (by omega) (Nat.le_refl _)
      replace x0o := x0o.below k6 (Nat.le_refl _)
      replace x1h := x1h.below k6 (by omega) (Nat.le_refl _)
      replace x1o := x1o.below k6 (Nat.le_refl _)
      go_wp2_with fail
      refine (eqEntryS_any _ _ _ _ _ _ _ _ _ _ _ gh vh (by omega) (by omega)).mono ?_
      rintro e w7 ⟨rfl, k7⟩
      rw [decide_eq_true rfl]
      have s7 := k7.size
      have hb7 := hb6.trans (k7.mono hb6.size)
      replace vh := vh.below k7 (by omega) (Nat.le_refl _)
      replace x0h := x0h.below k7 (by omega) (Nat.le_refl _)
      replace x0o := x0o.below k7 (Nat.le_refl _)
      replace x1h := x1h.below k7 (by omega) (Nat.le_refl _)
      replace x1o := x1o.below k7 (Nat.le_refl _)
      replace gh := gh.below k7 (by omega) (Nat.le_refl _)
      replace go := go.below k7 (Nat.le_refl _)
      go_wp2_with fail
      refine (toEntryS_any _ _ _ _ _ _ (hx0.below hb7 (Nat.le_refl _) (Nat.le_refl _)) hb7.size hn0).mono ?_
      rintro e w8 ⟨y0a, y0c, rfl, y0o, y0h, y0z, k8, s8⟩
      have hb8 := hb7.trans (k8.mono hb7.size)
      replace vh := vh.below k8 (by omega) (Nat.le_refl _)
      replace x0h := x0h.below k8 (by omega) (Nat.le_refl _)
      replace x0o := x0o.below k8 (Nat.le_refl _)
      replace x1h := x1h.below k8 (by omega) (Nat.le_refl _)
      replace x1o := x1o.below k8 (Nat.le_refl _)
      replace gh := gh.below k8 (by omega) (Nat.le_refl _)
      replace go := go.below k8 (Nat.le_refl _)
      have HZy0 := Lib.hid y0z; clear y0z
      clear y0o
      go_wp2_with fail
      refine (eqEntryS_any _ _ _ _ _ _ _ _ _ _ _ x0h y0h (by omega) (by omega)).mono ?_
      rintro e w9 ⟨rfl, k9⟩
      rw [decide_eq_true rfl]
      have s9 := k9.size
      have hb9 := hb8.trans (k9.mono hb8.size)
      replace vh := vh.below k9 (by omega) (Nat.le_refl _)
      replace x0h := x0h.below k9 (by omega) (Nat.le_refl _)
      replace x0o := x0o.below k9 (Nat.le_refl _)
      replace x1h := x1h.below k9 (by omega) (Nat.le_refl _)
      replace x1o := x1o.below k9 (Nat.le_refl _)
      replace gh := gh.below k9 (by omega) (Nat.le_refl _)
      replace go := go.below k9 (Nat.le_refl _)
      replace y0h := y0h.below k9 (by omega) (Nat.le_refl _)
      clear y0h
      go_wp2_with fail
      refine (toInt64S_row _ _ _ _ _ _ (hx1.below hb9 (Nat.le_refl _) (Nat.le_refl _)) hb9.size hn1).mono ?_
      rintro e w10 ⟨y1a, y1c, rfl, y1o, y1h, y1z, k10, s10⟩
      have hb10 := hb9.trans (k10.mono hb9.size)
      replace vh := vh.below k10 (by omega) (Nat.le_refl _)
      replace x0h := x0h.below k10 (by omega) (Nat.le_refl _)
      replace x0o := x0o.below k10 (Nat.le_refl _)
      replace x1h := x1h.below k10 (by omega) (Nat.le_refl _)
      replace x1o := x1o.below k10 (Nat.le_refl _)
      replace gh := gh.below k10 (by omega) (Nat.le_refl _)
      replace go := go.below k10 (Nat.le_refl _)
      have HZy1 := Lib.hid y1z; clear y1z
      clear y1o
      go_wp2_with fail
      refine (eqInt64S_any _ _ _ _ _ _ _ _ _ _ _ x1h y1h).mono ?_
      rintro e w11 ⟨rfl, kd11⟩
      have k11 := kd11.below w10.heap.size; clear kd11
      rw [decide_eq_true rfl]
      have s11 := k11.size
      have hb11 := hb10.trans (k11.mono hb10.size)
      replace vh := vh.below k11 (by omega) (Nat.le_refl _)
      replace x0h := x0h.below k11 (by omega) (Nat.le_refl _)
      replace x0o := x0o.below k11 (Nat.le_refl _)
      replace x1h := x1h.below k11 (by omega) (Nat.le_refl _)
      replace x1o := x1o.below k11 (Nat.le_refl _)
      replace gh := gh.below k11 (by omega) (Nat.le_refl _)
      replace go := go.below k11 (Nat.le_refl _)
      replace y1h := y1h.below k11 (by omega) (Nat.le_refl _)
      clear y1h
      clear x0h
      clear x1h
      clear gh
      have hmk := markEntryS_any w3.heap.size _ es0 (1) n0 w11 x0o hx0.hlen (by omega) (by omega) hn0 (by omega)
      go_wp2_with fail
      refine hmk.mono ?_
      rintro e w12 ⟨rfl, -, hg12, e12, k12⟩
      have s12 : w11.heap.size ≤ w12.heap.size := by omega
      have hb12 := hb11.trans (k12.mono (by omega))
      replace vh := vh.below k12 (by omega) (Nat.le_refl _)
      replace x1o : Own w4.heap.size w12 _ _ := row_older x1o x0q (by omega) hg12
      replace go : OwnE w5.heap.size w12 _ _ := row_older go x0q (by omega) hg12
      clear hmk x0o x0q hg12
      have hmk := markI_row w4.heap.size _ xs1 (1 + 4 * (n0 : Int)) n1 w12 x1o hx1.hlen (by omega) (by omega) hn1
      go_wp2_with fail
      refine hmk.mono ?_
      rintro e w13 ⟨rfl, -, hg13, e13, k13⟩
      have s13 : w12.heap.size ≤ w13.heap.size := by omega
      have hb13 := hb12.trans (k13.mono (by omega))
      replace vh := vh.below k13 (by omega) (Nat.le_refl _)
      replace go : OwnE w5.heap.size w13 _ _ := row_older go x1q (by omega) hg13
      clear hmk x1o x1q hg13
      have kpos : ¬ (1 + 4 * (n0 : Int) + (n1 : Int) : Int) < 0 := by omega
      have gh := go.read hall
      go_wp2_with fail
      refine (eqEntryS_any _ _ _ _ _ _ _ _ _ _ _ gh vh (by omega) (by omega)).mono ?_
      rintro e w14 ⟨rfl, k14⟩
      rw [decide_eq_true rfl]
      have s14 := k14.size
      have hb14 := hb13.trans (k14.mono hb13.size)
      replace vh := vh.below k14 (by omega) (Nat.le_refl _)
      replace go := go.below k14 (Nat.le_refl _)
      replace gh := gh.below k14 (by omega) (Nat.le_refl _)
      clear gh
      have hmk := markEntryS_any w5.heap.size _ rs 1 m w14 go hm (by decide) (by decide) hml (by omega)
      go_wp2_with fail
      refine hmk.mono ?_
      rintro e w15 ⟨rfl, goo, hg15, e15, k15⟩
      have s15 : w14.heap.size ≤ w15.heap.size := by omega
      have hb15 := hb14.trans (k15.mono (by omega))
      replace vh := vh.below k15 (by omega) (Nat.le_refl _)
      have hmw : AllE (marksE 1 m) := marksE_wf (by decide) (by omega)
      have mh := goo.read hmw
      clear hmk go goo hg15
      have mpos : ¬ (1 + 4 * (m : Int) : Int) < 0 := by omega
      go_wp2_with fail
      refine (heldEntryS_any _ _ _ _ 1 _ mh (by decide) (by decide) hml).mono ?_
      rintro e w16 ⟨rfl, hw16⟩
      have k16 : Below w15.heap.size w15 w16 := by rw [hw16]; exact Below.refl _ _
      clear hw16
      have s16 := k16.size
      have hb16 := hb15.trans (k16.mono hb15.size)
      replace vh := vh.below k16 (by omega) (Nat.le_refl _)
      replace mh := mh.below k16 (by omega) (Nat.le_refl _)
      go_wp2_with fail
      refine (toEntryS_any _ _ _ _ _ _ (hx0.below hb16 (Nat.le_refl _) (Nat.le_refl _)) hb16.size hn0).mono ?_
      rintro e w17 ⟨r0a, r0c, rfl, r0o, r0h, r0z, k17, s17⟩
      have hb17 := hb16.trans (k17.mono hb16.size)
      replace vh := vh.below k17 (by omega) (Nat.le_refl _)
      replace mh := mh.below k17 (by omega) (Nat.le_refl _)
      have HZr0 := Lib.hid r0z; clear r0z
      clear r0o
      go_wp2_with fail
      refine (toInt64S_row _ _ _ _ _ _ (hx1.below hb17 (Nat.le_refl _) (Nat.le_refl _)) hb17.size hn1).mono ?_
      rintro e w18 ⟨r1a, r1c, rfl, r1o, r1h, r1z, k18, s18⟩
      have hb18 := hb17.trans (k18.mono hb17.size)
      replace vh := vh.below k18 (by omega) (Nat.le_refl _)
      replace mh := mh.below k18 (by omega) (Nat.le_refl _)
      replace r0h := r0h.below k18 (by omega) (Nat.le_refl _)
      have HZr1 := Lib.hid r1z; clear r1z
      clear r1o
      go_wp2_with fail
      refine (himpl _ _ _ _ _ _ _ r0h (by omega) HZr0.out r1h (by omega) HZr1.out).mono ?_
      rintro e w19 ⟨ua, uc, rfl, uo, uh, -, k19, s19⟩
      have hb19 := hb18.trans (k19.mono hb18.size)
      replace vh := vh.below k19 (by omega) (Nat.le_refl _)
      replace mh := mh.below k19 (by omega) (Nat.le_refl _)
      replace r0h := r0h.below k19 (by omega) (Nat.le_refl _)
      replace r1h := r1h.below k19 (by omega) (Nat.le_refl _)
      clear uo
      clear r0h r1h
      go_wp2_with fail
      refine (eqEntryS_any _ _ _ _ _ _ _ _ _ _ _ uh vh (by omega) (by omega)).mono ?_
      rintro e w20 ⟨rfl, k20⟩
      rw [decide_eq_true rfl]
      have s20 := k20.size
      have hb20 := hb19.trans (k20.mono hb19.size)
      replace vh := vh.below k20 (by omega) (Nat.le_refl _)
      replace mh := mh.below k20 (by omega) (Nat.le_refl _)
      replace uh := uh.below k20 (by omega) (Nat.le_refl _)
      clear uh
      go_wp2_with fail
      refine (heldEntryS_any _ _ _ _ 1 _ mh (by decide) (by decide) hml).mono ?_
      rintro e w21 ⟨rfl, hw21⟩
      have k21 : Below w20.heap.size w20 w21 := by rw [hw21]; exact Below.refl _ _
      clear hw21
      have s21 := k21.size
      have hb21 := hb20.trans (k21.mono hb20.size)
      replace vh := vh.below k21 (by omega) (Nat.le_refl _)
      replace mh := mh.below k21 (by omega) (Nat.le_refl _)
      go_wp2_with fail
      go_ret
      exact ⟨rfl, hb21⟩

set_option maxRecDepth 100000 in
theorem exactPartFor_lifted (os : Os) (started : os.Started) (H : Type) (enc : TypeId × Value → H) :
    ReturnsInHanded {} Try.checked os 4 .any (Rows.fnExactPartForSpec.pre6 enc Try.prog Try.f4 Rows.fnExactPartForRow.domain false) (Rows.fnExactPartForSpec.post enc Try.prog Try.f4 false true false false) := by
  refine returnsInHanded_of_change (C := Try.checked) Try.own started (by kernel_rfl) Try.func4
    (ChangeSpec.witness6 (enc := enc) (C := Try.checked) false ⟨#[], #[.slice none 0 0, .slice none 0 0], []⟩ 8 (by kernel_rfl) (by kernel_rfl) (by kernel_rfl) (by kernel_rfl)) ?_
  intro W base args ds gs before hval0 hW hcnd _
  have hval : ∀ (j : Nat) t v, Try.f4.params[j]? = some t → args[j]? = some v → Value.okWide Try.prog W .any base t v := hval0
  have hW' := hW
  obtain ⟨p, q, hA0, hV, rfl, hfz, hnd⟩ := hW
  have hA : DataW.TrodAll enc Try.prog W 0 (fun _ => true) true Try.f4.params.toList args.toList ds p := hA0
  rw [Try.params4] at hA hval
  obtain ⟨v0, v1, d0, d1, p0, p1, rfl, rfl, rfl, h0, h1⟩ := trodAll_two hA
  obtain ⟨rfl, rfl⟩ := trodVars_none hV
  clear hA0 hval0 hA
  simp only [List.append_nil] at hW' hfz
  have hlt : ∀ x ∈ p0 ++ p1, x.block < W.heap.size := fun x hx => by simpa using hW'.lt x hx
  have hlt0 : ∀ x ∈ p0, x.block < W.heap.size := fun x hx => hlt x (List.mem_append_left _ hx)
  have hlt1 : ∀ x ∈ p1, x.block < W.heap.size := fun x hx => hlt x (List.mem_append_right _ hx)
  have h0k := h0
  obtain ⟨ao0, n0, cap0, es0, rfl, hx0⟩ := open_ents (by exact hval 0 _ v0 rfl rfl) h0 hlt0
  have h1k := h1
  obtain ⟨ao1, n1, cap1, xs1, rfl, hx1⟩ := open_i64s (by exact hval 1 _ v1 rfl rfl) h1 hlt1
  refine (exactPartFor_any ao0 n0 cap0 es0 ao1 n1 cap1 xs1 W hx0 hx1).mono fun e W' ⟨he, hb⟩ => ?_
  subst he
  exact ⟨_, rfl, _, _, _, _, _, [], hW', trodAll_mk1 (shut_bool Try.underlying4 _), trodAll_mk2 (Below.trod Try.laidOut (by kernel_rfl) (of_decide_eq_true (by kernel_rfl)) h0k hb hlt0) (Below.trod Try.laidOut (by kernel_rfl) (of_decide_eq_true (by kernel_rfl)) h1k hb hlt1), rfl, hb.frame _, fun h => by cases h⟩

theorem exactPartFor_holds : Rows.FnExactPartForSaid :=
  OpenClaim.holds_of_wide 4 Try.f4 rfl rfl rfl rfl rfl rfl rfl ⟨rfl, rfl, rfl, rfl, rfl⟩ rfl rfl rfl rfl rfl (by kernel_rfl) Try.func4 (by kernel_rfl)
    (of_decide_eq_true (by kernel_rfl)) (by unfold Func.isWrapper; first | (rw [if_pos (by decide +kernel)]; kernel_rfl) | (rw [if_neg (by decide +kernel)]; exact ⟨rfl, rfl⟩))
    (fun os started H enc _ => exactPartFor_lifted os started H enc)

end Go.Proofs.Ytekjhcckepkmnaa
