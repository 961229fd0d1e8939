/- FnExactDeedOk: for every deed the call returns true; no condition. -/
import Derived.Test.YtccaakgfhclebaaToDeed
import Derived.Test.YtccaakgfhclebaaImplDeedOk
import Derived.Test.YtccaakgfhclebaaBig
namespace Go.Proofs.Ytccaakgfhclebaa
open Go.ChangeShapes Go.WideShapes Go.ChangeAt Go.RowKit

set_option maxHeartbeats 1000000 in
set_option maxRecDepth 100000 in
theorem exactDeedOk_any (o s a d : Int) (w : World) :
    Calls Try.prog 3 #[.agg #[.int .i64 o, .int .i64 s, .int .i64 a, .int .i64 d]] w (Yes w) := by
  have hbx : Below w.heap.size w (w.alloc (.cells #[.int .i64 o, .int .i64 s, .int .i64 a, .int .i64 d] 23)) := (Below.refl _ _).alloc (Nat.le_refl _) _
  have hszE : (w.alloc (.cells #[.int .i64 o, .int .i64 s, .int .i64 a, .int .i64 d] 23)).heap.size = w.heap.size + 1 := by simp
  have hgot0 : ∀ k v, (#[.int .i64 o, .int .i64 s, .int .i64 a, .int .i64 d] : Array Value)[k]? = some v → (w.alloc (.cells #[.int .i64 o, .int .i64 s, .int .i64 a, .int .i64 d] 23)).cell? ⟨w.heap.size, k, none⟩ = some v := fun k v h => by
    rw [cell_of_row _ _ k #[.int .i64 o, .int .i64 s, .int .i64 a, .int .i64 d] 23 (0, 0) (heap_alloc_new w _)]; exact h
  have HG := Lib.hid hgot0; clear hgot0
  generalize hr : deedOk o s a d = r
  have hspec := fun w => specDeedOk_any o s a d w
  have himpl := fun w => implDeedOk_any o s a d w
  rw [hr] at hspec himpl
  clear hr
  go_enter Try.func3, Try.ntmps3
  go_wp2_with fail
  refine (toDeed_any o s a d _).mono ?_
  rintro e w1 ⟨rfl, hb1⟩
  rw [hszE] at hb1
  go_wp2_with fail
  refine (hspec _).mono ?_
  rintro e w2 ⟨rfl, hb2⟩
  have hb02 : Below (w.heap.size + 1) (w.alloc (.cells #[.int .i64 o, .int .i64 s, .int .i64 a, .int .i64 d] 23)) w2 := hb1.trans (hb2.mono (by have := hb1.size; rw [hszE] at this; omega))
  have c0 := (hb02.cell (p := ⟨w.heap.size, 0, none⟩) (by simp)).trans (HG.out 0 _ rfl)
  have c1 := (hb02.cell (p := ⟨w.heap.size, 1, none⟩) (by simp)).trans (HG.out 1 _ rfl)
  have c2 := (hb02.cell (p := ⟨w.heap.size, 2, none⟩) (by simp)).trans (HG.out 2 _ rfl)
  have c3 := (hb02.cell (p := ⟨w.heap.size, 3, none⟩) (by simp)).trans (HG.out 3 _ rfl)
  have hs2 := hb02.size
  rw [hszE] at hs2
  have hB2 := hbx.trans (hb02.mono (Nat.le_succ _))
  clear hb1 hb2 hb02
  go_wp2_with fail
  refine (toDeed_any o s a d _).mono ?_
  rintro e w3 ⟨rfl, hb3⟩
  go_wp2_with fail
  refine (himpl _).mono ?_
  rintro e w4 ⟨rfl, hb4⟩
  have hs3 := hb3.size
  have hB4 := (hB2.trans (hb3.mono (by omega))).trans (hb4.mono (by omega))
  clear hb3 hb4 HG
  cases r
  all_goals
    go_wp2_with fail
    go_ret
    exact ⟨rfl, hB4⟩

set_option maxRecDepth 100000 in
theorem exactDeedOk_lifted (os : Os) (started : os.Started) (H : Type) (enc : TypeId × Value → H) :
    ReturnsInHanded {} Try.checked os 3 .any (Rows.fnExactDeedOkSpec.pre6 enc Try.prog Try.f3 Rows.fnExactDeedOkRow.domain false) (Rows.fnExactDeedOkSpec.post enc Try.prog Try.f3 false true false false) := by
  refine returnsInHanded_of_change (C := Try.checked) Try.own started (by kernel_rfl) Try.func3
    (ChangeSpec.witness6 (enc := enc) (C := Try.checked) false ⟨#[], #[.agg #[.int .i64 0, .int .i64 0, .int .i64 0, .int .i64 0]], []⟩ 8 (by kernel_rfl) (by kernel_rfl) (by kernel_rfl) (by kernel_rfl)) ?_
  intro W base args ds gs before hval0 hW hcnd _
  have hval : ∀ (j : Nat) t v, Try.f3.params[j]? = some t → args[j]? = some v → Value.okWide Try.prog W .any base t v := hval0
  have hW' := hW
  obtain ⟨p, q, hA0, hV, rfl, hfz, hnd⟩ := hW
  have hA : DataW.TrodAll enc Try.prog W 0 (fun _ => true) true Try.f3.params.toList args.toList ds p := hA0
  rw [Try.params3] at hA hval
  obtain ⟨v0, d0, rfl, rfl, h0⟩ := trodAll_one hA
  obtain ⟨rfl, rfl⟩ := trodVars_none hV
  clear hA0 hval0 hA
  simp only [List.append_nil] at hW' hfz
  have hlt : ∀ x ∈ p, x.block < W.heap.size := fun x hx => by simpa using hW'.lt x hx
  obtain ⟨o, s, a, d, rfl⟩ := open_deed (by exact hval 0 _ v0 rfl rfl) h0
  refine (exactDeedOk_any o s a d W).mono fun e W' ⟨he, hb⟩ => ?_
  subst he
  exact ⟨_, rfl, _, _, _, _, _, [], hW', trodAll_mk1 (shut_bool Try.underlying4 _), trodAll_mk1 (Below.trod Try.laidOut (by kernel_rfl) (of_decide_eq_true (by kernel_rfl)) h0 hb hlt), rfl, hb.frame _, fun h => by cases h⟩

theorem exactDeedOk_holds : Rows.FnExactDeedOkSaid :=
  OpenClaim.holds_of_wide 3 Try.f3 rfl rfl rfl rfl rfl rfl rfl ⟨rfl, rfl, rfl, rfl, rfl⟩ rfl rfl rfl rfl rfl (by kernel_rfl) Try.func3 (by kernel_rfl)
    (of_decide_eq_true (by kernel_rfl)) (by unfold Func.isWrapper; first | (rw [if_pos (by decide +kernel)]; kernel_rfl) | (rw [if_neg (by decide +kernel)]; exact ⟨rfl, rfl⟩))
    (fun os started H enc _ => exactDeedOk_lifted os started H enc)

end Go.Proofs.Ytccaakgfhclebaa
