/-
  impl.DeedOk, impl.slotOf.
-/
import Derived.Test.YtccaakgfhclebaaDeed
namespace Go.Proofs.Ytccaakgfhclebaa
open Go.RowKit

set_option maxHeartbeats 2000000 in
set_option maxRecDepth 100000 in
theorem implDeedOk_any (k n t m : Int) (w : World) :
    Calls Try.prog 6 #[.agg #[.int .i64 k, .int .i64 n, .int .i64 t, .int .i64 m]] w (Says (.bool (deedOk k n t m)) w) := by
  have h1 := fun w => isNode_any n w
  have h2 := fun w => isFromOne_any m 1000000 w
  have h3 := fun w => isNode_any t w
  have hb0 : Below w.heap.size w (w.alloc (.cells #[.int .i64 k, .int .i64 n, .int .i64 t, .int .i64 m] 25)) := (Below.refl _ _).alloc (Nat.le_refl _) _
  have e1 : inB n 0 3 = false → deedOk k n t m = false := deedOk_n
  have e2 : inB m 1 1000000 = false → deedOk k n t m = false := deedOk_m
  have e3 : inB n 0 3 = true → inB m 1 1000000 = true → deedOk k n t m = (if k = 1 ∨ k = 3 then t == 0 else if k = 2 then inB t 0 3 && !(t == n) else false) := deedOk_at
  generalize deedOk k n t m = r at e1 e2 e3
  generalize inB n 0 3 = b1 at h1 e1 e3
  generalize inB m 1 1000000 = b2 at h2 e2 e3
  generalize inB t 0 3 = b3 at h3 e3
  rcases b1 with _ | _
  · have hr := e1 rfl
    subst hr
    clear e1 e2 e3
    go_enter Try.func6, Try.ntmps6
    go_wp2_with fail
    refine (h1 _).mono ?_
    rintro e w' ⟨rfl, rfl⟩
    go_wp2_with fail
    go_ret
    exact ⟨rfl, hb0⟩
  rcases b2 with _ | _
  · have hr := e2 rfl
    subst hr
    clear e1 e2 e3
    go_enter Try.func6, Try.ntmps6
    go_wp2_with fail
    refine (h1 _).mono ?_
    rintro e w' ⟨rfl, rfl⟩
    go_wp2_with fail
    refine (h2 _).mono ?_
    rintro e w' ⟨rfl, rfl⟩
    go_wp2_with fail
    go_ret
    exact ⟨rfl, hb0⟩
  have hr := e3 rfl rfl
  clear e1 e2 e3
  by_cases k1 : k = 1
  · subst k1
    rw [if_pos (.inl rfl)] at hr
    have HR := Lib.hid hr; clear hr
    go_enter Try.func6, Try.ntmps6
    go_wp2_with fail
    refine (h1 _).mono ?_
    rintro e w' ⟨rfl, rfl⟩
    go_wp2_with fail
    refine (h2 _).mono ?_
    rintro e w' ⟨rfl, rfl⟩
    go_wp2_with fail
    go_ret
    exact ⟨ret_bool HR.out.symm, hb0⟩
  by_cases k3 : k = 3
  · subst k3
    rw [if_pos (.inr rfl)] at hr
    have HR := Lib.hid hr; clear hr k1
    go_enter Try.func6, Try.ntmps6
    go_wp2_with fail
    refine (h1 _).mono ?_
    rintro e w' ⟨rfl, rfl⟩
    go_wp2_with fail
    refine (h2 _).mono ?_
    rintro e w' ⟨rfl, rfl⟩
    go_wp2_with fail
    go_ret
    exact ⟨ret_bool HR.out.symm, hb0⟩
  rw [if_neg (fun h => h.elim k1 k3)] at hr
  have k1' : (k == 1) = false := by simpa using k1
  have k3' : (k == 3) = false := by simpa using k3
  by_cases k2 : k = 2
  · subst k2
    rw [if_pos rfl] at hr
    have HR := Lib.hid hr; clear hr k1 k3 k1' k3'
    go_enter Try.func6, Try.ntmps6
    go_wp2_with fail
    refine (h1 _).mono ?_
    rintro e w' ⟨rfl, rfl⟩
    go_wp2_with fail
    refine (h2 _).mono ?_
    rintro e w' ⟨rfl, rfl⟩
    go_wp2_with fail
    refine (h3 _).mono ?_
    rintro e w' ⟨rfl, rfl⟩
    rcases b3 with _ | _
    · go_wp2_with fail
      go_ret
      exact ⟨ret_bool HR.out.symm, hb0⟩
    · go_wp2_with fail
      go_ret
      exact ⟨ret_bool (by rw [HR.out]; simp [bne]), hb0⟩
  · rw [if_neg k2] at hr
    have k2' : (k == 2) = false := by simpa using k2
    subst hr
    clear k1 k2 k3
    go_enter Try.func6, Try.ntmps6
    go_wp2_with fail
    refine (h1 _).mono ?_
    rintro e w' ⟨rfl, rfl⟩
    go_wp2_with fail
    refine (h2 _).mono ?_
    rintro e w' ⟨rfl, rfl⟩
    go_wp2_with fail
    go_ret
    exact ⟨rfl, hb0⟩

end Go.Proofs.Ytccaakgfhclebaa
