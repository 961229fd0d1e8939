/- FnExactSound: for all arguments the call returns true, and they read afterwards as before; no condition. -/
import Derived.Test.YtdinfpgnfofpbaaSound
import Derived.Test.YtdinfpgnfofpbaaImplSound
import Derived.Test.YtdinfpgnfofpbaaToEntryS
import Derived.Test.YtdinfpgnfofpbaaEqEntry
import Derived.Test.YtdinfpgnfofpbaaOpenE
import Derived.Test.YtdinfpgnfofpbaaBig
namespace Go.Proofs.Ytdinfpgnfofpbaa
open Go.ChangeShapes Go.WideShapes Go.ChangeAt Go.RowKit

set_option maxHeartbeats 1000000 in
set_option maxRecDepth 100000 in
theorem exactSound_any (ao : Option Addr) (n cap : Nat) (es : List Ent) (w : World) (hx : Ents w.heap.size w ao n cap es) :
    Calls Try.prog 3 #[.slice ao n cap] w (Yes w) := by
  have hmax : n ≤ maxLen := Nat.le_trans hx.hcap hx.hmax
  have hn1 := hx.hcap; have hn2 := hx.hmax
  unfold maxLen at hn2
  by_cases hbig : 1048576 < n
  · have hsz : (if (1048576 : Int) < n then (-1 : Int) else 1048576 - n) = -1 := if_pos (by omega)
    have hc := szEntryS_any ao n cap 1048576 w hmax (by decide) (by decide)
    rw [hsz] at hc
    clear hsz
    go_enter Try.func3, Try.ntmps3
    go_wp2_with fail
    refine hc.mono ?_
    rintro e w1 ⟨rfl, rfl⟩
    go_wp2_with fail
    go_ret
    exact ⟨rfl, Below.refl _ _⟩
  · have hsz : (if (1048576 : Int) < n then (-1 : Int) else 1048576 - n) = 1048576 - n := if_neg (by omega)
    have hc := szEntryS_any ao n cap 1048576 w hmax (by decide) (by decide)
    rw [hsz] at hc
    clear hsz
    have hpos : (0 : Int) ≤ 1048576 - n := by omega
    have hn : n ≤ 1048576 := by omega
    have hspec := fun a c w h1 h2 => specSound_any w.heap.size a n c es w h1 h2
    have himpl := fun B a c w h1 h2 => implSound_any B a n c es w h1 h2
    generalize soundE es = r at hspec himpl
    go_enter Try.func3, Try.ntmps3
    go_wp2_with fail
    refine hc.mono ?_
    rintro e w1 ⟨rfl, rfl⟩
    go_wp2_with fail
    refine (toEntryS_any _ _ _ _ es _ hx (Nat.le_refl _) hn).mono ?_
    rintro e w2 ⟨a2, c2, rfl, -, hi2, -, hb2, hs2⟩
    go_wp2_with fail
    refine (hspec _ _ _ hi2 (Nat.le_refl _)).mono ?_
    rintro e w3 ⟨rfl, hb3⟩
    have hb13 := hb2.trans (hb3.mono hs2)
    have hs3 := hb13.size
    have hx3 := hx.below hb13 (Nat.le_refl _) (Nat.le_refl _)
    clear hi2 hb2 hb3 hspec
    go_wp2_with fail
    refine (toEntryS_any _ _ _ _ es _ hx3 hs3 hn).mono ?_
    rintro e w4 ⟨a4, c4, rfl, -, hi4, -, hb4, hs4⟩
    have hb14 := hb13.trans (hb4.mono hs3)
    go_wp2_with fail
    refine (himpl _ _ _ _ hi4 (Nat.le_refl _)).mono ?_
    rintro e w5 ⟨rfl, hb5⟩
    have hb15 := hb14.trans (hb5.mono hb14.size)
    have hs5 := hb15.size
    have hi45 := hi4.below hb5 (Nat.le_refl _) hb5.size
    have hx5 := hx.below hb15 (Nat.le_refl _) (Nat.le_refl _)
    clear hx3 hb13 hb14 hb4 hb5 hi4 himpl
    cases r
    all_goals
      go_wp2_with fail
      refine (toEntryS_any _ _ _ _ es _ hx5 hs5 hn).mono ?_
      rintro e w6 ⟨a6, c6, rfl, -, hi6, -, hb6, hs6⟩
      have hi46 := hi45.below hb6 (Nat.le_refl _) hs6
      have hb16 := hb15.trans (hb6.mono hs5)
      go_wp2_with fail
      refine (eqEntryS_any _ _ _ _ _ _ _ _ _ _ _ hi46 hi6 (Nat.le_refl _) (Nat.le_refl _)).mono ?_
      rintro e w7 ⟨rfl, hb7⟩
      rw [decide_eq_true rfl]
      have hb17 := hb16.trans (hb7.mono hb16.size)
      go_wp2_with fail
      go_ret
      exact ⟨rfl, hb17⟩

set_option maxRecDepth 100000 in
theorem exactSound_lifted (os : Os) (started : os.Started) (H : Type) (enc : TypeId × Value → H) :
    ReturnsInHanded {} Try.checked os 3 .any (Rows.fnExactSoundSpec.pre6 enc Try.prog Try.f3 Rows.fnExactSoundRow.domain false) (Rows.fnExactSoundSpec.post enc Try.prog Try.f3 false true false false) := by
  refine returnsInHanded_of_change (C := Try.checked) Try.own started (by kernel_rfl) Try.func3
    (ChangeSpec.witness6 (enc := enc) (C := Try.checked) false ⟨#[], #[.slice none 0 0], []⟩ 8 (by kernel_rfl) (by kernel_rfl) (by kernel_rfl) (by kernel_rfl)) ?_
  intro W base args ds gs before hval0 hW hcnd _
  have hval : ∀ (j : Nat) t v, Try.f3.params[j]? = some t → args[j]? = some v → Value.okWide Try.prog W .any base t v := hval0
  have hW' := hW
  obtain ⟨p, q, hA0, hV, rfl, hfz, hnd⟩ := hW
  have hA : DataW.TrodAll enc Try.prog W 0 (fun _ => true) true Try.f3.params.toList args.toList ds p := hA0
  rw [Try.params3] at hA hval
  obtain ⟨v0, d0, rfl, rfl, h0⟩ := trodAll_one hA
  obtain ⟨rfl, rfl⟩ := trodVars_none hV
  clear hA0 hval0 hA
  simp only [List.append_nil] at hW' hfz
  have hlt0 : ∀ x ∈ p, x.block < W.heap.size := fun x hx => by simpa using hW'.lt x hx
  have h0k := h0
  obtain ⟨ao0, n0, cap0, es0, rfl, hx0⟩ := open_ents (by exact hval 0 _ v0 rfl rfl) h0 hlt0
  refine (exactSound_any ao0 n0 cap0 es0 W hx0).mono fun e W' ⟨he, hb⟩ => ?_
  subst he
  exact ⟨_, rfl, _, _, _, _, _, [], hW', trodAll_mk1 (shut_bool Try.underlying4 _), trodAll_mk1 (Below.trod Try.laidOut (by kernel_rfl) (of_decide_eq_true (by kernel_rfl)) h0k hb hlt0), rfl, hb.frame _, fun h => by cases h⟩

theorem exactSound_holds : Rows.FnExactSoundSaid :=
  OpenClaim.holds_of_wide 3 Try.f3 rfl rfl rfl rfl rfl rfl rfl ⟨rfl, rfl, rfl, rfl, rfl⟩ rfl rfl rfl rfl rfl (by kernel_rfl) Try.func3 (by kernel_rfl)
    (of_decide_eq_true (by kernel_rfl)) (by unfold Func.isWrapper; first | (rw [if_pos (by decide +kernel)]; kernel_rfl) | (rw [if_neg (by decide +kernel)]; exact ⟨rfl, rfl⟩))
    (fun os started H enc _ => exactSound_lifted os started H enc)

end Go.Proofs.Ytdinfpgnfofpbaa
