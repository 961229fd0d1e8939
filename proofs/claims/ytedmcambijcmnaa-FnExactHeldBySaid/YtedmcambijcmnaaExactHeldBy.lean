/- FnExactHeldBy: for all arguments the call returns true, and they read afterwards as before; no condition. -/
import Derived.Test.YtedmcambijcmnaaHeld
import Derived.Test.YtedmcambijcmnaaImplRight
import Derived.Test.YtedmcambijcmnaaToEntryS
import Derived.Test.YtedmcambijcmnaaEqEntry
import Derived.Test.YtedmcambijcmnaaOpenE
import Derived.Test.YtedmcambijcmnaaBig
namespace Go.Proofs.Ytedmcambijcmnaa
open Go.ChangeShapes Go.WideShapes Go.ChangeAt Go.RowKit

set_option maxHeartbeats 1000000 in
set_option maxRecDepth 100000 in
theorem exactHeldBy_any (ao : Option Addr) (n cap : Nat) (es : List Ent) (i0 : Int) (w : World) (hx : Ents w.heap.size w ao n cap es) (_hi0 : I64 i0) :
    Calls Try.prog 4 #[.slice ao n cap, .int .i64 i0] w (Yes w) := by
  have hmax : n ≤ maxLen := Nat.le_trans hx.hcap hx.hmax
  have hn1 := hx.hcap; have hn2 := hx.hmax
  unfold maxLen at hn2
  by_cases hbig : 1048576 < n
  · have hsz : (if (1048576 : Int) < n then (-1 : Int) else 1048576 - n) = -1 := if_pos (by omega)
    have hc := szEntryS_any ao n cap 1048576 w hmax (by decide) (by decide)
    rw [hsz] at hc
    clear hsz
    go_enter Try.func4, Try.ntmps4
    go_wp2_with fail
    refine hc.mono ?_
    rintro e w1 ⟨rfl, rfl⟩
    go_wp2_with fail
    go_ret
    exact ⟨rfl, Below.refl _ _⟩
  · have hsz : (if (1048576 : Int) < n then (-1 : Int) else 1048576 - n) = 1048576 - n := if_neg (by omega)
    have hc := szEntryS_any ao n cap 1048576 w hmax (by decide) (by decide)
    rw [hsz] at hc
    clear hsz
    have hpos : (0 : Int) ≤ 1048576 - n := by omega
    have hn : n ≤ 1048576 := by omega
    have hspec := fun a c w h1 h2 => specHeldBy_any w.heap.size a n c es i0 w h1 h2
    have himpl := fun B a c w h1 h2 => implHeldBy_any B a n c es i0 w h1 h2
    generalize heldBy es i0 = r at hspec himpl
    go_enter Try.func4, Try.ntmps4
    go_wp2_with fail
    refine hc.mono ?_
    rintro e w1 ⟨rfl, rfl⟩
    go_wp2_with fail
    refine (toEntryS_any _ _ _ _ es _ hx (Nat.le_refl _) hn).mono ?_
    rintro e w2 ⟨a2, c2, rfl, -, hi2, -, hb2, hs2⟩
    go_wp2_with fail
    refine (hspec _ _ _ hi2 (Nat.le_refl _)).mono ?_
    rintro e w3 ⟨rfl, hb3⟩
    have hb13 := hb2.trans (hb3.mono hs2)
    have hs3 := hb13.size
    have hx3 := hx.below hb13 (Nat.le_refl _) (Nat.le_refl _)
    clear hi2 hb2 hb3 hspec
    go_wp2_with fail
    refine (toEntryS_any _ _ _ _ es _ hx3 hs3 hn).mono ?_
    rintro e w4 ⟨a4, c4, rfl, -, hi4, -, hb4, hs4⟩
    have hb14 := hb13.trans (hb4.mono hs3)
    go_wp2_with fail
    refine (himpl _ _ _ _ hi4 (Nat.le_refl _)).mono ?_
    rintro e w5 ⟨rfl, hb5⟩
    have hb15 := hb14.trans (hb5.mono hb14.size)
    have hs5 := hb15.size
    have hi45 := hi4.below hb5 (Nat.le_refl _) hb5.size
    have hx5 := hx.below hb15 (Nat.le_refl _) (Nat.le_refl _)
    clear hx3 hb13 hb14 hb4 hb5 hi4 himpl
    skip
    all_goals
      go_wp2_with fail
      refine (toEntryS_any _ _ _ _ es _ hx5 hs5 hn).mono ?_
      rintro e w6 ⟨a6, c6, rfl, -, hi6, -, hb6, hs6⟩
      have hi46 := hi45.below hb6 (Nat.le_refl _) hs6
      have hb16 := hb15.trans (hb6.mono hs5)
      go_wp2_with fail
      refine (eqEntryS_any _ _ _ _ _ _ _ _ _ _ _ hi46 hi6 (Nat.le_refl _) (Nat.le_refl _)).mono ?_
      rintro e w7 ⟨rfl, hb7⟩
      rw [decide_eq_true rfl]
      have hb17 := hb16.trans (hb7.mono hb16.size)
      go_wp2_with fail
      go_ret
      exact ⟨rfl, hb17⟩

set_option maxRecDepth 100000 in
theorem exactHeldBy_lifted (os : Os) (started : os.Started) (H : Type) (enc : TypeId × Value → H) :
    ReturnsInHanded {} Try.checked os 4 .any (Rows.fnExactHeldBySpec.pre6 enc Try.prog Try.f4 Rows.fnExactHeldByRow.domain false) (Rows.fnExactHeldBySpec.post enc Try.prog Try.f4 false true false false) := by
  refine returnsInHanded_of_change (C := Try.checked) Try.own started (by kernel_rfl) Try.func4
    (ChangeSpec.witness6 (enc := enc) (C := Try.checked) false ⟨#[], #[.slice none 0 0, .int .i64 0], []⟩ 8 (by kernel_rfl) (by kernel_rfl) (by kernel_rfl) (by kernel_rfl)) ?_
  intro W base args ds gs before hval0 hW hcnd _
  have hval : ∀ (j : Nat) t v, Try.f4.params[j]? = some t → args[j]? = some v → Value.okWide Try.prog W .any base t v := hval0
  have hW' := hW
  obtain ⟨p, q, hA0, hV, rfl, hfz, hnd⟩ := hW
  have hA : DataW.TrodAll enc Try.prog W 0 (fun _ => true) true Try.f4.params.toList args.toList ds p := hA0
  rw [Try.params4] at hA hval
  obtain ⟨v0, v1, d0, d1, p0, p1, rfl, rfl, rfl, h0, h1⟩ := trodAll_two hA
  obtain ⟨rfl, rfl⟩ := trodVars_none hV
  clear hA0 hval0 hA
  simp only [List.append_nil] at hW' hfz
  have hlt : ∀ x ∈ p0 ++ p1, x.block < W.heap.size := fun x hx => by simpa using hW'.lt x hx
  have hlt0 : ∀ x ∈ p0, x.block < W.heap.size := fun x hx => hlt x (List.mem_append_left _ hx)
  have hlt1 : ∀ x ∈ p1, x.block < W.heap.size := fun x hx => hlt x (List.mem_append_right _ hx)
  have h0k := h0
  obtain ⟨ao0, n0, cap0, es0, rfl, hx0⟩ := open_ents (by exact hval 0 _ v0 rfl rfl) h0 hlt0
  have h1k := h1
  obtain ⟨m1, rfl, rfl, rfl, wm1⟩ := open_int Try.underlying2 (by exact hval 1 _ v1 rfl rfl) h1
  refine (exactHeldBy_any ao0 n0 cap0 es0 m1 W hx0 (i64_of_wf wm1)).mono fun e W' ⟨he, hb⟩ => ?_
  subst he
  exact ⟨_, rfl, _, _, _, _, _, [], hW', trodAll_mk1 (shut_bool Try.underlying4 _), trodAll_mk2 (Below.trod Try.laidOut (by kernel_rfl) (of_decide_eq_true (by kernel_rfl)) h0k hb hlt0) (Below.trod Try.laidOut (by kernel_rfl) (of_decide_eq_true (by kernel_rfl)) h1k hb hlt1), rfl, hb.frame _, fun h => by cases h⟩

theorem exactHeldBy_holds : Rows.FnExactHeldBySaid :=
  OpenClaim.holds_of_wide 4 Try.f4 rfl rfl rfl rfl rfl rfl rfl ⟨rfl, rfl, rfl, rfl, rfl⟩ rfl rfl rfl rfl rfl (by kernel_rfl) Try.func4 (by kernel_rfl)
    (of_decide_eq_true (by kernel_rfl)) (by unfold Func.isWrapper; first | (rw [if_pos (by decide +kernel)]; kernel_rfl) | (rw [if_neg (by decide +kernel)]; exact ⟨rfl, rfl⟩))
    (fun os started H enc _ => exactHeldBy_lifted os started H enc)

end Go.Proofs.Ytedmcambijcmnaa
