/- FnExactVecOf: for all arguments the call returns true, and they read afterwards as before; no condition. -/
import Derived.Test.YtbpoojibbakpnaaVecOf
import Derived.Test.YtbpoojibbakpnaaImplVec
import Derived.Test.YtbpoojibbakpnaaImplVecOf
import Derived.Test.YtbpoojibbakpnaaRowI
import Derived.Test.YtbpoojibbakpnaaRowE
import Derived.Test.YtbpoojibbakpnaaOpenE
import Derived.Test.YtbpoojibbakpnaaOpen
import Derived.Test.YtbpoojibbakpnaaBig
namespace Go.Proofs.Ytbpoojibbakpnaa
open Go.ChangeShapes Go.WideShapes Go.ChangeAt Go.RowKit

set_option maxHeartbeats 8000000 in
set_option maxRecDepth 100000 in
theorem exactVecOf_any (ao0 : Option Addr) (n0 cap0 : Nat) (es0 : List Ent) (w : World) (hx0 : Ents w.heap.size w ao0 n0 cap0 es0) :
    Calls Try.prog 5 #[.slice ao0 n0 cap0] w (Yes w) := by
  have hp0 := hx0.hcap; have hq0 := hx0.hmax
  have hmax0 : n0 ≤ maxLen := Nat.le_trans hp0 hq0
  unfold maxLen at hq0
  by_cases hbig0 : (1048576 : Int) < n0
  · have hsz : (if (1048576 : Int) < n0 then (-1 : Int) else 1048576 - n0) = -1 := if_pos hbig0
    have hc0 := szEntryS_any ao0 n0 cap0 (1048576) w hmax0 (by omega) (by omega)
    rw [hsz] at hc0
    clear hsz
    go_enter Try.func5, Try.ntmps5
    go_wp2_with fail
    refine hc0.mono ?_
    rintro e wz ⟨rfl, rfl⟩
    go_wp2_with fail
    go_ret
    exact ⟨rfl, Below.refl _ _⟩
  · have hsz : (if (1048576 : Int) < n0 then (-1 : Int) else 1048576 - n0) = 1048576 - n0 := if_neg hbig0
    have hc0 := szEntryS_any ao0 n0 cap0 (1048576) w hmax0 (by omega) (by omega)
    rw [hsz] at hc0
    clear hsz
    have hn0 : n0 ≤ 1048576 := by omega
    have hps0 : (0 : Int) ≤ 1048576 - n0 := by omega
    obtain ⟨rs, hrs⟩ : ∃ rs, vecOf es0 = rs := ⟨_, rfl⟩
    obtain ⟨m, hm⟩ : ∃ m, rs.length = m := ⟨_, rfl⟩
    have hall : AllI64 rs := by rw [← hrs]; exact vecOf_i64 _
    have hml : m ≤ 1048576 := by have := vecOf_len es0; rw [← hm, ← hrs]; omega
    have hspec := fun B0 a0 c0 w (h0 : Ents B0 w a0 n0 c0 es0) (g0 : B0 ≤ w.heap.size) (z0 : a0 = none → c0 = 0) => (show Calls Try.prog 19 #[.slice a0 n0 c0] w (RowI rs m (fun v => v) w) from (specVecOf_any B0 a0 n0 c0 es0 w h0 g0).mono fun _ _ h => newInts_row (by rw [← hrs]; exact h) hall hm)
    have himpl := fun B0 a0 c0 w (h0 : Ents B0 w a0 n0 c0 es0) (g0 : B0 ≤ w.heap.size) (z0 : a0 = none → c0 = 0) => (show Calls Try.prog 18 #[.slice a0 n0 c0] w (RowI rs m (fun v => v) w) from (implVecOf_any B0 a0 n0 c0 es0 w h0 g0).mono fun _ _ h => newInts_row (by rw [← hrs]; exact h) hall hm)
    clear hrs
    go_enter Try.func5, Try.ntmps5
    go_wp2_with fail
    refine hc0.mono ?_
    rintro e wz ⟨rfl, rfl⟩
    have hb0 : Below wz.heap.size wz wz := Below.refl _ _
    go_wp2_with fail
    refine (toEntryS_any _ _ _ _ _ _ (hx0.below hb0 (Nat.le_refl _) (Nat.le_refl _)) hb0.size hn0).mono ?_
    rintro e w1 ⟨p0a, p0c, rfl, p0o, p0h, p0z, k1, s1⟩
    have hb1 := hb0.trans (k1.mono hb0.size)
    have HZp0 := Lib.hid p0z; clear p0z
    clear p0o
    go_wp2_with fail
    refine (hspec _ _ _ _ p0h (by omega) HZp0.out).mono ?_
    rintro e w2 ⟨va, vc, rfl, vo, vh, -, k2, s2⟩
    have hb2 := hb1.trans (k2.mono hb1.size)
    replace p0h := p0h.below k2 (by omega) (Nat.le_refl _)
    clear vo
    clear p0h
    go_wp2_with fail
    refine (toEntryS_any _ _ _ _ _ _ (hx0.below hb2 (Nat.le_refl _) (Nat.le_refl _)) hb2.size hn0).mono ?_
    rintro e w3 ⟨x0a, x0c, rfl, x0o, x0h, x0z, k3, s3⟩
    have hb3 := hb2.trans (k3.mono hb2.size)
    replace vh := vh.below k3 (by omega) (Nat.le_refl _)
    have HZx0 := Lib.hid x0z; clear x0z
    have x0q := x0o
    go_wp2_with fail
    refine (himpl _ _ _ _ x0h (by omega) HZx0.out).mono ?_
    rintro e w4 ⟨ga, gc, rfl, go, gh, -, k4, s4⟩
    have hb4 := hb3.trans (k4.mono hb3.size)
    replace vh := vh.below k4 (by omega) (Nat.le_refl _)
    replace x0h := x0h.below k4 (by omega) (Nat.le_refl _)
    replace x0o := x0o.below k4 (Nat.le_refl _)
    go_wp2_with fail
    refine (eqInt64S_any _ _ _ _ _ _ _ _ _ _ _ gh vh).mono ?_
    rintro e w5 ⟨rfl, kd5⟩
    have k5 := kd5.below w4.heap.size; clear kd5
    rw [decide_eq_true rfl]
    have s5 := k5.size
    have hb5 := hb4.trans (k5.mono hb4.size)
    replace vh := vh.below k5 (by omega) (Nat.le_refl _)
    replace x0h := x0h.below k5 (by omega) (Nat.le_refl _)
    replace x0o := x0o.below k5 (Nat.le_refl _)
    replace gh := gh.below k5 (by omega) (Nat.le_refl _)
    replace go := go.below k5 (Nat.le_refl _)
    go_wp2_with fail
    refine (toEntryS_any _ _ _ _ _ _ (hx0.below hb5 (Nat.le_refl _) (Nat.le_refl _)) hb5.size hn0).mono ?_
    rintro e w6 ⟨y0a, y0c, rfl, y0o, y0h, y0z, k6, s6⟩
    have hb6 := hb5.trans (k6.mono hb5.size)
    replace vh := vh.below k6 (by omega) (Nat.le_refl _)
    replace x0h := x0h.below k6 (by omega) (Nat.le_refl _)
    replace x0o := x0o.below k6 (Nat.le_refl _)
    replace gh := gh.below k6 (by omega) (Nat.le_refl _)
    replace go := go.below k6 (Nat.le_refl _)
    have HZy0 := Lib.hid y0z; clear y0z
    clear y0o
    go_wp2_with fail
    refine (eqEntryS_any _ _ _ _ _ _ _ _ _ _ _ x0h y0h (by omega) (by omega)).mono ?_
    rintro e w7 ⟨rfl, k7⟩
    rw [decide_eq_true rfl]
    have s7 := k7.size
    have hb7 := hb6.trans (k7.mono hb6.size)
    replace vh := vh.below k7 (by omega) (Nat.le_refl _)
    replace x0h := x0h.below k7 (by omega) (Nat.le_refl _)
    replace x0o := x0o.below k7 (Nat.le_refl _)
    replace gh := gh.below k7 (by omega) (Nat.le_refl _)
    replace go := go.below k7 (Nat.le_refl _)
    replace y0h := y0h.below k7 (by omega) (Nat.le_refl _)
    clear y0h
    clear x0h
    clear gh
    have hmk := markEntryS_any w2.heap.size _ es0 (1) n0 w7 x0o hx0.hlen (by omega) (by omega) hn0 (by omega)
    go_wp2_with fail
    refine hmk.mono ?_
    rintro e w8 ⟨rfl, -, hg8, e8, k8⟩
    have s8 : w7.heap.size ≤ w8.heap.size := by omega
    have hb8 := hb7.trans (k8.mono (by omega))
    replace vh := vh.below k8 (by omega) (Nat.le_refl _)
    replace go : Own w3.heap.size w8 _ _ := row_older go x0q (by omega) hg8
    clear hmk x0o x0q hg8
    have kpos : ¬ (1 + 4 * (n0 : Int) : Int) < 0 := by omega
    have gh := go.read hall
    go_wp2_with fail
    refine (eqInt64S_any _ _ _ _ _ _ _ _ _ _ _ gh vh).mono ?_
    rintro e w9 ⟨rfl, kd9⟩
    have k9 := kd9.below w8.heap.size; clear kd9
    rw [decide_eq_true rfl]
    have s9 := k9.size
    have hb9 := hb8.trans (k9.mono hb8.size)
    replace vh := vh.below k9 (by omega) (Nat.le_refl _)
    replace go := go.below k9 (Nat.le_refl _)
    replace gh := gh.below k9 (by omega) (Nat.le_refl _)
    clear gh
    have hmk := markI_row w3.heap.size _ rs 1 m w9 go hm (by decide) (by decide) hml
    go_wp2_with fail
    refine hmk.mono ?_
    rintro e w10 ⟨rfl, goo, hg10, e10, k10⟩
    have s10 : w9.heap.size ≤ w10.heap.size := by omega
    have hb10 := hb9.trans (k10.mono (by omega))
    replace vh := vh.below k10 (by omega) (Nat.le_refl _)
    have hmw : AllI64 (marks 1 m) := marks_i64 (by decide) (by omega)
    have mh := goo.read hmw
    clear hmk go goo hg10
    have mpos : ¬ (1 + (m : Int) : Int) < 0 := by omega
    go_wp2_with fail
    refine (held_any _ _ _ _ 1 _ mh (by decide) (by decide) (by omega)).mono ?_
    rintro e w11 ⟨rfl, hw11⟩
    have k11 : Below w10.heap.size w10 w11 := by rw [hw11]; exact Below.refl _ _
    clear hw11
    have s11 := k11.size
    have hb11 := hb10.trans (k11.mono hb10.size)
    replace vh := vh.below k11 (by omega) (Nat.le_refl _)
    replace mh := mh.below k11 (by omega) (Nat.le_refl _)
    go_wp2_with fail
    refine (toEntryS_any _ _ _ _ _ _ (hx0.below hb11 (Nat.le_refl _) (Nat.le_refl _)) hb11.size hn0).mono ?_
    rintro e w12 ⟨r0a, r0c, rfl, r0o, r0h, r0z, k12, s12⟩
    have hb12 := hb11.trans (k12.mono hb11.size)
    replace vh := vh.below k12 (by omega) (Nat.le_refl _)
    replace mh := mh.below k12 (by omega) (Nat.le_refl _)
    have HZr0 := Lib.hid r0z; clear r0z
    clear r0o
    go_wp2_with fail
    refine (himpl _ _ _ _ r0h (by omega) HZr0.out).mono ?_
    rintro e w13 ⟨ua, uc, rfl, uo, uh, -, k13, s13⟩
    have hb13 := hb12.trans (k13.mono hb12.size)
    replace vh := vh.below k13 (by omega) (Nat.le_refl _)
    replace mh := mh.below k13 (by omega) (Nat.le_refl _)
    replace r0h := r0h.below k13 (by omega) (Nat.le_refl _)
    clear uo
    clear r0h
    go_wp2_with fail
    refine (eqInt64S_any _ _ _ _ _ _ _ _ _ _ _ uh vh).mono ?_
    rintro e w14 ⟨rfl, kd14⟩
    have k14 := kd14.below w13.heap.size; clear kd14
    rw [decide_eq_true rfl]
    have s14 := k14.size
    have hb14 := hb13.trans (k14.mono hb13.size)
    replace vh := vh.below k14 (by omega) (Nat.le_refl _)
    replace mh := mh.below k14 (by omega) (Nat.le_refl _)
    replace uh := uh.below k14 (by omega) (Nat.le_refl _)
    clear uh
    go_wp2_with fail
    refine (held_any _ _ _ _ 1 _ mh (by decide) (by decide) (by omega)).mono ?_
    rintro e w15 ⟨rfl, hw15⟩
    have k15 : Below w14.heap.size w14 w15 := by rw [hw15]; exact Below.refl _ _
    clear hw15
    have s15 := k15.size
    have hb15 := hb14.trans (k15.mono hb14.size)
    replace vh := vh.below k15 (by omega) (Nat.le_refl _)
    replace mh := mh.below k15 (by omega) (Nat.le_refl _)
    go_wp2_with fail
    go_ret
    exact ⟨rfl, hb15⟩

set_option maxRecDepth 100000 in
theorem exactVecOf_lifted (os : Os) (started : os.Started) (H : Type) (enc : TypeId × Value → H) :
    ReturnsInHanded {} Try.checked os 5 .any (Rows.fnExactVecOfSpec.pre6 enc Try.prog Try.f5 Rows.fnExactVecOfRow.domain false) (Rows.fnExactVecOfSpec.post enc Try.prog Try.f5 false true false false) := by
  refine returnsInHanded_of_change (C := Try.checked) Try.own started (by kernel_rfl) Try.func5
    (ChangeSpec.witness6 (enc := enc) (C := Try.checked) false ⟨#[], #[.slice none 0 0], []⟩ 8 (by kernel_rfl) (by kernel_rfl) (by kernel_rfl) (by kernel_rfl)) ?_
  intro W base args ds gs before hval0 hW hcnd _
  have hval : ∀ (j : Nat) t v, Try.f5.params[j]? = some t → args[j]? = some v → Value.okWide Try.prog W .any base t v := hval0
  have hW' := hW
  obtain ⟨p, q, hA0, hV, rfl, hfz, hnd⟩ := hW
  have hA : DataW.TrodAll enc Try.prog W 0 (fun _ => true) true Try.f5.params.toList args.toList ds p := hA0
  rw [Try.params5] at hA hval
  obtain ⟨v0, d0, rfl, rfl, h0⟩ := trodAll_one hA
  obtain ⟨rfl, rfl⟩ := trodVars_none hV
  clear hA0 hval0 hA
  simp only [List.append_nil] at hW' hfz
  have hlt0 : ∀ x ∈ p, x.block < W.heap.size := fun x hx => by simpa using hW'.lt x hx
  have h0k := h0
  obtain ⟨ao0, n0, cap0, es0, rfl, hx0⟩ := open_ents (by exact hval 0 _ v0 rfl rfl) h0 hlt0
  refine (exactVecOf_any ao0 n0 cap0 es0 W hx0).mono fun e W' ⟨he, hb⟩ => ?_
  subst he
  exact ⟨_, rfl, _, _, _, _, _, [], hW', trodAll_mk1 (shut_bool Try.underlying4 _), trodAll_mk1 (Below.trod Try.laidOut (by kernel_rfl) (of_decide_eq_true (by kernel_rfl)) h0k hb hlt0), rfl, hb.frame _, fun h => by cases h⟩

theorem exactVecOf_holds : Rows.FnExactVecOfSaid :=
  OpenClaim.holds_of_wide 5 Try.f5 rfl rfl rfl rfl rfl rfl rfl ⟨rfl, rfl, rfl, rfl, rfl⟩ rfl rfl rfl rfl rfl (by kernel_rfl) Try.func5 (by kernel_rfl)
    (of_decide_eq_true (by kernel_rfl)) (by unfold Func.isWrapper; first | (rw [if_pos (by decide +kernel)]; kernel_rfl) | (rw [if_neg (by decide +kernel)]; exact ⟨rfl, rfl⟩))
    (fun os started H enc _ => exactVecOf_lifted os started H enc)

end Go.Proofs.Ytbpoojibbakpnaa
