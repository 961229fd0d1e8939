/- Texts of this claim, put together. -/
import Derived.Test.YtccoljbnddfmpaaGreatDoorQ1
import Derived.Test.YtccoljbnddfmpaaGreatDoorQ4
import Derived.Test.YtccoljbnddfmpaaGreatDoorQ6

namespace Go.Proofs.YtccoljbnddfmpaaGreatDoor
open Go.RowKit Go.Extern.Stop Go.Stop Go.Extern
set_option maxHeartbeats 4000000 in
set_option maxRecDepth 100000 in
theorem is_same (k n t m : Int) (a : Addr) (w : World) :
    Calls Tryz.prog 52 #[.iface 90 (.agg #[.int .i64 k, .int .i64 n, .int .i64 t, .int .i64 m, .iface 195 (.pointer (some a))]), .iface 195 (.pointer (some a))] w fun e w' => e = .returned (.bool true) ∧ w' = w.alloc (.cells #[.int .i64 k, .int .i64 n, .int .i64 t, .int .i64 m, .iface 195 (.pointer (some a))] 90) := by
  obtain ⟨i, hi, hcmp⟩ := Option.map_eq_some_iff.1 Tryz.isComp
  obtain ⟨j, hj, hjs⟩ := Option.map_eq_some_iff.1 Tryz.isSize
  have h8 := @run_callFunc_extern Tryz.prog 88 _ Extern.ReflectliteType.typeOf Tryz.func88 (by kernel_rfl) (by kernel_rfl) (by kernel_rfl) (by kernel_rfl)
  have h32 := @run_callFunc_extern Tryz.prog 160 _ (Extern.ReflectliteType.method fun t => do Rtype.noPackHeld "Comparable" t; pure (.bool (← typeInfo t).comparable)) Tryz.func160 (by kernel_rfl) (by kernel_rfl) (by kernel_rfl) (by kernel_rfl)
  have tT := Tryz.isTypeOf
  have cT := Tryz.isComparable
  have mR := Tryz.isMethodComparable
  have nR := Tryz.noIsR
  have uR := Tryz.hasUnwrapR
  have mU := Tryz.methodUnwrapR
  have heq := run_eql_iface_ptr_same (P := Tryz.prog) (w.alloc (.cells #[.int .i64 k, .int .i64 n, .int .i64 t, .int .i64 m, .iface 195 (.pointer (some a))] 90)) a Tryz.underlying57 Tryz.underlying195 hi hcmp hj
  have hty := fun w => run_eql_iface_types (P := Tryz.prog) 90 195 (.agg #[.int .i64 k, .int .i64 n, .int .i64 t, .int .i64 m, .iface 195 (.pointer (some a))]) (.pointer (some a)) Tryz.underlying57 (by decide) w
  go_enter Tryz.func52, Tryz.ntmps52
  go_wp2
  refine wp_loop_rounds 2 ?_
  rw [rounds_succ]
  go_wp2
  rw [rounds_succ]
  go_wp2
  go_ret
  exact ⟨rfl, rfl⟩
set_option maxHeartbeats 4000000 in
set_option maxRecDepth 100000 in
theorem is_other (k n t m : Int) (a b : Addr) (ca cb : Array Value) (ta tb : TypeId) (w : World) (hne : a ≠ b) (ha : w.heap[a.block]? = some (.cells ca ta (0, 0))) (hb : w.heap[b.block]? = some (.cells cb tb (0, 0))) :
    Calls Tryz.prog 52 #[.iface 90 (.agg #[.int .i64 k, .int .i64 n, .int .i64 t, .int .i64 m, .iface 195 (.pointer (some a))]), .iface 195 (.pointer (some b))] w fun e w' => e = .returned (.bool false) ∧ w' = w.alloc (.cells #[.int .i64 k, .int .i64 n, .int .i64 t, .int .i64 m, .iface 195 (.pointer (some a))] 90) := by
  obtain ⟨i, hi, hcmp⟩ := Option.map_eq_some_iff.1 Tryz.isComp
  obtain ⟨j, hj, hjs⟩ := Option.map_eq_some_iff.1 Tryz.isSize
  have h8 := @run_callFunc_extern Tryz.prog 88 _ Extern.ReflectliteType.typeOf Tryz.func88 (by kernel_rfl) (by kernel_rfl) (by kernel_rfl) (by kernel_rfl)
  have h32 := @run_callFunc_extern Tryz.prog 160 _ (Extern.ReflectliteType.method fun t => do Rtype.noPackHeld "Comparable" t; pure (.bool (← typeInfo t).comparable)) Tryz.func160 (by kernel_rfl) (by kernel_rfl) (by kernel_rfl) (by kernel_rfl)
  have tT := Tryz.isTypeOf
  have cT := Tryz.isComparable
  have mR := Tryz.isMethodComparable
  have nR := Tryz.noIsR
  have uR := Tryz.hasUnwrapR
  have mU := Tryz.methodUnwrapR
  have nE := Tryz.noIsE
  have uE := Tryz.noUnwrapE
  have vE := Tryz.noUnwrapsE
  have la := (Array.getElem?_eq_some_iff.1 ha).1
  have lb := (Array.getElem?_eq_some_iff.1 hb).1
  have heq := run_eql_iface_ptr_other (P := Tryz.prog) (w.alloc (.cells #[.int .i64 k, .int .i64 n, .int .i64 t, .int .i64 m, .iface 195 (.pointer (some a))] 90)) Tryz.underlying57 Tryz.underlying195 hi hcmp hj (by rw [hjs]; decide) hne ((Below.heap_alloc w _ _ la).trans ha) ((Below.heap_alloc w _ _ lb).trans hb)
  have hty := fun w => run_eql_iface_types (P := Tryz.prog) 90 195 (.agg #[.int .i64 k, .int .i64 n, .int .i64 t, .int .i64 m, .iface 195 (.pointer (some a))]) (.pointer (some b)) Tryz.underlying57 (by decide) w
  go_enter Tryz.func52, Tryz.ntmps52
  go_wp2
  refine wp_loop_rounds 2 ?_
  rw [rounds_succ]
  go_wp2
  rw [rounds_succ]
  go_wp2
  go_ret
  exact ⟨rfl, rfl⟩
set_option maxHeartbeats 4000000 in
set_option maxRecDepth 100000 in
theorem is_limit (k n t m p q : Int) (b : Addr) (w : World) :
    Calls Tryz.prog 52 #[.iface 90 (.agg #[.int .i64 k, .int .i64 n, .int .i64 t, .int .i64 m, .iface 97 (.agg #[.int .i64 p, .int .i64 q])]), .iface 195 (.pointer (some b))] w fun e w' => e = .returned (.bool false) ∧ w' = w.alloc (.cells #[.int .i64 k, .int .i64 n, .int .i64 t, .int .i64 m, .iface 97 (.agg #[.int .i64 p, .int .i64 q])] 90) := by
  obtain ⟨i, hi, hcmp⟩ := Option.map_eq_some_iff.1 Tryz.isComp
  obtain ⟨j, hj, hjs⟩ := Option.map_eq_some_iff.1 Tryz.isSize
  have h8 := @run_callFunc_extern Tryz.prog 88 _ Extern.ReflectliteType.typeOf Tryz.func88 (by kernel_rfl) (by kernel_rfl) (by kernel_rfl) (by kernel_rfl)
  have h32 := @run_callFunc_extern Tryz.prog 160 _ (Extern.ReflectliteType.method fun t => do Rtype.noPackHeld "Comparable" t; pure (.bool (← typeInfo t).comparable)) Tryz.func160 (by kernel_rfl) (by kernel_rfl) (by kernel_rfl) (by kernel_rfl)
  have tT := Tryz.isTypeOf
  have cT := Tryz.isComparable
  have mR := Tryz.isMethodComparable
  have nR := Tryz.noIsR
  have uR := Tryz.hasUnwrapR
  have mU := Tryz.methodUnwrapR
  have nL := Tryz.noIsL
  have uL := Tryz.noUnwrapL
  have vL := Tryz.noUnwrapsL
  have hty := fun w => run_eql_iface_types (P := Tryz.prog) 90 195 (.agg #[.int .i64 k, .int .i64 n, .int .i64 t, .int .i64 m, .iface 97 (.agg #[.int .i64 p, .int .i64 q])]) (.pointer (some b)) Tryz.underlying57 (by decide) w
  have hty2 := fun w => run_eql_iface_types (P := Tryz.prog) 97 195 (.agg #[.int .i64 p, .int .i64 q]) (.pointer (some b)) Tryz.underlying57 (by decide) w
  go_enter Tryz.func52, Tryz.ntmps52
  go_wp2
  refine wp_loop_rounds 2 ?_
  rw [rounds_succ]
  go_wp2
  rw [rounds_succ]
  go_wp2
  go_ret
  exact ⟨rfl, rfl⟩
end Go.Proofs.YtccoljbnddfmpaaGreatDoor

namespace Go.Proofs.YtccoljbnddfmpaaGreatDoor
open Go.RowKit
def entryOk (o s a d : Int) : Bool := decide (0 ≤ o ∧ o ≤ 3 ∧ 0 ≤ s ∧ s ≤ 4 ∧ 1 ≤ a ∧ a ≤ 1000000 ∧ 1 ≤ d ∧ d ≤ 100000)
def keyOf (o s a d : Int) : Int := if entryOk o s a d = true then 5 * o + s else -1
def Says (v : Value) (w : World) (e : Ending) (w' : World) : Prop := e = .returned v ∧ Below w.heap.size w w'
set_option maxHeartbeats 400000 in
theorem isNode_any (x : Int) (w : World) :
    Calls Tryz.prog 31 #[.int .i64 x] w fun e w' => e = .returned (.bool (inB x 0 3)) ∧ w' = w := by
  by_cases h1 : 0 ≤ x
  · go_enter Tryz.func31, Tryz.ntmps31
    go_wp2
    go_ret
    exact ⟨ret_bool (by simp only [inB]; congr 1; exact propext (by omega)), rfl⟩
  · go_enter Tryz.func31, Tryz.ntmps31
    go_wp2
    go_ret
    exact ⟨ret_bool (by rw [inB, decide_eq_false (by omega)]), rfl⟩
set_option maxHeartbeats 400000 in
theorem isFromOne_any (x m : Int) (w : World) :
    Calls Tryz.prog 32 #[.int .i64 x, .int .i64 m] w fun e w' => e = .returned (.bool (inB x 1 m)) ∧ w' = w := by
  by_cases h1 : 1 ≤ x
  · go_enter Tryz.func32, Tryz.ntmps32
    go_wp2
    go_ret
    exact ⟨ret_bool (by simp only [inB]; congr 1; exact propext (by omega)), rfl⟩
  · go_enter Tryz.func32, Tryz.ntmps32
    go_wp2
    go_ret
    exact ⟨ret_bool (by rw [inB, decide_eq_false (by omega)]), rfl⟩
def kindOf (o s : Int) : Int := if s = 4 then 2 else if s = o then 0 else 1
set_option maxHeartbeats 400000 in
theorem l3Node_any (x : Int) (w : World) :
    Calls Tryz.prog 33 #[.int .i64 x] w fun e w' => e = .returned (.bool (inB x 0 3)) ∧ w' = w := by
  go_enter Tryz.func33, Tryz.ntmps33
  go_wp2_with (go_at_call 34; refine (l1In_any _ _ _ _).mono ?_; rintro e w' ⟨rfl, rfl⟩)
  go_ret
  exact ⟨rfl, rfl⟩
set_option maxHeartbeats 400000 in
theorem l3Slot_any (x : Int) (w : World) :
    Calls Tryz.prog 94 #[.int .i64 x] w fun e w' => e = .returned (.bool (inB x 0 4)) ∧ w' = w := by
  go_enter Tryz.func94, Tryz.ntmps94
  go_wp2_with (go_at_call 34; refine (l1In_any _ _ _ _).mono ?_; rintro e w' ⟨rfl, rfl⟩)
  go_ret
  exact ⟨rfl, rfl⟩
theorem says_box {v u : Value} {w : World} (cs : Array Value) (t : TypeId) (h : u = v) : Says v w (.returned u) (w.alloc (.cells cs t)) := by
  subst h
  exact ⟨rfl, (Below.refl _ _).alloc (Nat.le_refl _) _⟩
set_option maxHeartbeats 400000 in
theorem kindOf_any (o s a d : Int) (w : World) :
    Calls Tryz.prog 96 #[.agg #[.int .i64 o, .int .i64 s, .int .i64 a, .int .i64 d]] w (Says (.int .i64 (kindOf o s)) w) := by
  by_cases h1 : s = 4
  · go_enter Tryz.func96, Tryz.ntmps96
    go_wp2
    go_ret
    exact says_box _ _ (by rw [kindOf, if_pos h1]; rfl)
  · by_cases h2 : s = o
    · go_enter Tryz.func96, Tryz.ntmps96
      go_wp2
      go_ret
      exact says_box _ _ (by rw [kindOf, if_neg h1, if_pos h2]; rfl)
    · go_enter Tryz.func96, Tryz.ntmps96
      go_wp2
      go_ret
      exact says_box _ _ (by simp [kindOf, h1, h2])
set_option maxHeartbeats 1000000 in
theorem specEntryOk_any (o s a d : Int) (w : World) :
    Calls Tryz.prog 54 #[.agg #[.int .i64 o, .int .i64 s, .int .i64 a, .int .i64 d]] w (Says (.bool (entryOk o s a d)) w) := by
  have he : entryOk o s a d = (inB o 0 3 && inB s 0 4 && inB a 1 1000000 && inB d 1 100000) := by
    simp only [entryOk, inB]
    rw [Bool.eq_iff_iff]
    simp only [Bool.and_eq_true, decide_eq_true_eq]
    omega
  rw [he]
  clear he
  have h1 : ∀ w, Calls Tryz.prog 33 #[.int .i64 o] w fun e w' => e = .returned (.bool (inB o 0 3)) ∧ w' = w := fun w => l3Node_any o w
  have h2 : ∀ w, Calls Tryz.prog 94 #[.int .i64 s] w fun e w' => e = .returned (.bool (inB s 0 4)) ∧ w' = w := fun w => l3Slot_any s w
  have h3 : ∀ w, Calls Tryz.prog 34 #[.int .i64 a, .int .i64 1, .int .i64 1000000] w fun e w' => e = .returned (.bool (inB a 1 1000000)) ∧ w' = w := fun w => l1In_any _ _ _ w
  have h4 : ∀ w, Calls Tryz.prog 34 #[.int .i64 d, .int .i64 1, .int .i64 100000] w fun e w' => e = .returned (.bool (inB d 1 100000)) ∧ w' = w := fun w => l1In_any _ _ _ w
  generalize inB o 0 3 = b1 at h1 ⊢
  generalize inB s 0 4 = b2 at h2 ⊢
  generalize inB a 1 1000000 = b3 at h3 ⊢
  generalize inB d 1 100000 = b4 at h4 ⊢
  go_enter Tryz.func54, Tryz.ntmps54
  go_wp2_with fail
  refine (h1 _).mono ?_
  rintro e w' ⟨rfl, rfl⟩
  rcases b1 with _ | _
  · go_wp2_with fail
    go_ret
    exact says_box _ _ rfl
  · go_wp2_with fail
    refine (h2 _).mono ?_
    rintro e w' ⟨rfl, rfl⟩
    rcases b2 with _ | _
    · go_wp2_with fail
      go_ret
      exact says_box _ _ rfl
    · go_wp2_with fail
      refine (h3 _).mono ?_
      rintro e w' ⟨rfl, rfl⟩
      rcases b3 with _ | _
      · go_wp2_with fail
        go_ret
        exact says_box _ _ rfl
      · go_wp2_with fail
        refine (h4 _).mono ?_
        rintro e w' ⟨rfl, rfl⟩
        rcases b4 with _ | _
        all_goals
          go_wp2_with fail
          go_ret
          exact says_box _ _ rfl
theorem kind_2 {o s : Int} (h : kindOf o s = 2) : s = 4 := by
  unfold kindOf at h
  split at h
  · assumption
  · split at h <;> omega
theorem kind_0 {o s : Int} (h : kindOf o s = 0) : s = o := by
  unfold kindOf at h
  split at h
  · omega
  · split at h
    · assumption
    · omega
theorem kind_1 {o s : Int} (h : kindOf o s = 1) : s ≠ 4 := by
  unfold kindOf at h
  split at h
  · omega
  · assumption
theorem kind_lo (o s : Int) : kindOf o s = 0 ∨ kindOf o s = 1 ∨ kindOf o s = 2 := by
  unfold kindOf
  split
  · omega
  · split <;> omega
theorem entryOk_slot {o s a d : Int} (h : s = 4 ∨ s = o ∨ inB s 0 3 = true) : entryOk o s a d = (inB o 0 3 && inB a 1 1000000 && inB d 1 100000) := by
  simp only [inB, decide_eq_true_eq] at h
  simp only [entryOk, inB]
  rw [Bool.eq_iff_iff]
  simp only [Bool.and_eq_true, decide_eq_true_eq]
  omega
theorem entryOk_noslot {o s a d : Int} (h : s ≠ 4) (h2 : inB s 0 3 = false) : entryOk o s a d = false := by
  simp only [inB, decide_eq_false_iff_not] at h2
  simp only [entryOk, decide_eq_false_iff_not]
  omega
set_option maxHeartbeats 1000000 in
theorem implEntryOk_any (o s a d : Int) (w : World) :
    Calls Tryz.prog 109 #[.agg #[.int .i64 o, .int .i64 s, .int .i64 a, .int .i64 d]] w (Says (.bool (entryOk o s a d)) w) := by
  have h0 := fun w => kindOf_any o s a d w
  have hk := kind_lo o s
  have hs : ∀ w, Calls Tryz.prog 31 #[.int .i64 s] w fun e w' => e = .returned (.bool (inB s 0 3)) ∧ w' = w := fun w => isNode_any s w
  have h1 : ∀ w, Calls Tryz.prog 31 #[.int .i64 o] w fun e w' => e = .returned (.bool (inB o 0 3)) ∧ w' = w := fun w => isNode_any o w
  have h3 : ∀ w, Calls Tryz.prog 32 #[.int .i64 a, .int .i64 1000000] w fun e w' => e = .returned (.bool (inB a 1 1000000)) ∧ w' = w := fun w => isFromOne_any _ _ w
  have h4 : ∀ w, Calls Tryz.prog 32 #[.int .i64 d, .int .i64 100000] w fun e w' => e = .returned (.bool (inB d 1 100000)) ∧ w' = w := fun w => isFromOne_any _ _ w
  have hgood : s = 4 ∨ s = o ∨ inB s 0 3 = true → entryOk o s a d = (inB o 0 3 && inB a 1 1000000 && inB d 1 100000) := fun h => entryOk_slot h
  have hbad : kindOf o s = 1 → inB s 0 3 = false → entryOk o s a d = false := fun h h2 => entryOk_noslot (kind_1 h) h2
  have hk0 : kindOf o s = 0 → s = o := kind_0
  have hk2 : kindOf o s = 2 → s = 4 := kind_2
  have HG := Lib.hid hgood; have HB := Lib.hid hbad; have H0 := Lib.hid hk0; have H2 := Lib.hid hk2
  clear hgood hbad hk0 hk2
  generalize kindOf o s = kk at h0 hk HB H0 H2
  generalize inB s 0 3 = bs at hs HG HB
  generalize inB o 0 3 = b1 at h1 HG
  generalize inB a 1 1000000 = b3 at h3 HG
  generalize inB d 1 100000 = b4 at h4 HG
  generalize entryOk o s a d = r at HG HB ⊢
  rcases hk with rfl | rfl | rfl
  · have e := HG.out (.inr (.inl (H0.out rfl)))
    subst e
    clear HG HB H0 H2
    go_enter Tryz.func109, Tryz.ntmps109
    go_wp2_with fail
    refine (h0 _).mono ?_
    rintro e w1 ⟨rfl, hb1⟩
    have hbb := ((Below.refl w.heap.size w).alloc (Nat.le_refl _) (Obj.cells #[.int .i64 o, .int .i64 s, .int .i64 a, .int .i64 d] 47)).trans (hb1.mono (by simp))
    have hc0 := (hb1.cell (p := ⟨w.heap.size, 0, none⟩) (by simp)).trans (show _ = some (Value.int .i64 o) by go_simp)
    have hc1 := (hb1.cell (p := ⟨w.heap.size, 1, none⟩) (by simp)).trans (show _ = some (Value.int .i64 s) by go_simp)
    have hc2 := (hb1.cell (p := ⟨w.heap.size, 2, none⟩) (by simp)).trans (show _ = some (Value.int .i64 a) by go_simp)
    have hc3 := (hb1.cell (p := ⟨w.heap.size, 3, none⟩) (by simp)).trans (show _ = some (Value.int .i64 d) by go_simp)
    clear hb1
    go_wp2_with fail
    refine (h1 _).mono ?_
    rintro e w' ⟨rfl, rfl⟩
    rcases b1 with _ | _
    · go_wp2_with fail
      go_ret
      exact ⟨rfl, hbb⟩
    · go_wp2_with fail
      refine (h3 _).mono ?_
      rintro e w' ⟨rfl, rfl⟩
      rcases b3 with _ | _
      · go_wp2_with fail
        go_ret
        exact ⟨rfl, hbb⟩
      · go_wp2_with fail
        refine (h4 _).mono ?_
        rintro e w' ⟨rfl, rfl⟩
        rcases b4 with _ | _
        all_goals
          go_wp2_with fail
          go_ret
          exact ⟨rfl, hbb⟩
  · rcases bs with _ | _
    · have e := HB.out rfl rfl
      subst e
      clear HG HB H0 H2
      go_enter Tryz.func109, Tryz.ntmps109
      go_wp2_with fail
      refine (h0 _).mono ?_
      rintro e w1 ⟨rfl, hb1⟩
      have hbb := ((Below.refl w.heap.size w).alloc (Nat.le_refl _) (Obj.cells #[.int .i64 o, .int .i64 s, .int .i64 a, .int .i64 d] 47)).trans (hb1.mono (by simp))
      have hc0 := (hb1.cell (p := ⟨w.heap.size, 0, none⟩) (by simp)).trans (show _ = some (Value.int .i64 o) by go_simp)
      have hc1 := (hb1.cell (p := ⟨w.heap.size, 1, none⟩) (by simp)).trans (show _ = some (Value.int .i64 s) by go_simp)
      have hc2 := (hb1.cell (p := ⟨w.heap.size, 2, none⟩) (by simp)).trans (show _ = some (Value.int .i64 a) by go_simp)
      have hc3 := (hb1.cell (p := ⟨w.heap.size, 3, none⟩) (by simp)).trans (show _ = some (Value.int .i64 d) by go_simp)
      clear hb1
      go_wp2_with fail
      refine (hs _).mono ?_
      rintro e w' ⟨rfl, rfl⟩
      go_wp2_with fail
      go_ret
      exact ⟨rfl, hbb⟩
    · have e := HG.out (.inr (.inr rfl))
      subst e
      clear HG HB H0 H2
      go_enter Tryz.func109, Tryz.ntmps109
      go_wp2_with fail
      refine (h0 _).mono ?_
      rintro e w1 ⟨rfl, hb1⟩
      have hbb := ((Below.refl w.heap.size w).alloc (Nat.le_refl _) (Obj.cells #[.int .i64 o, .int .i64 s, .int .i64 a, .int .i64 d] 47)).trans (hb1.mono (by simp))
      have hc0 := (hb1.cell (p := ⟨w.heap.size, 0, none⟩) (by simp)).trans (show _ = some (Value.int .i64 o) by go_simp)
      have hc1 := (hb1.cell (p := ⟨w.heap.size, 1, none⟩) (by simp)).trans (show _ = some (Value.int .i64 s) by go_simp)
      have hc2 := (hb1.cell (p := ⟨w.heap.size, 2, none⟩) (by simp)).trans (show _ = some (Value.int .i64 a) by go_simp)
      have hc3 := (hb1.cell (p := ⟨w.heap.size, 3, none⟩) (by simp)).trans (show _ = some (Value.int .i64 d) by go_simp)
      clear hb1
      go_wp2_with fail
      refine (hs _).mono ?_
      rintro e w' ⟨rfl, rfl⟩
      go_wp2_with fail
      refine (h1 _).mono ?_
      rintro e w' ⟨rfl, rfl⟩
      rcases b1 with _ | _
      · go_wp2_with fail
        go_ret
        exact ⟨rfl, hbb⟩
      · go_wp2_with fail
        refine (h3 _).mono ?_
        rintro e w' ⟨rfl, rfl⟩
        rcases b3 with _ | _
        · go_wp2_with fail
          go_ret
          exact ⟨rfl, hbb⟩
        · go_wp2_with fail
          refine (h4 _).mono ?_
          rintro e w' ⟨rfl, rfl⟩
          rcases b4 with _ | _
          all_goals
            go_wp2_with fail
            go_ret
            exact ⟨rfl, hbb⟩
  · have e := HG.out (.inl (H2.out rfl))
    subst e
    clear HG HB H0 H2
    go_enter Tryz.func109, Tryz.ntmps109
    go_wp2_with fail
    refine (h0 _).mono ?_
    rintro e w1 ⟨rfl, hb1⟩
    have hbb := ((Below.refl w.heap.size w).alloc (Nat.le_refl _) (Obj.cells #[.int .i64 o, .int .i64 s, .int .i64 a, .int .i64 d] 47)).trans (hb1.mono (by simp))
    have hc0 := (hb1.cell (p := ⟨w.heap.size, 0, none⟩) (by simp)).trans (show _ = some (Value.int .i64 o) by go_simp)
    have hc1 := (hb1.cell (p := ⟨w.heap.size, 1, none⟩) (by simp)).trans (show _ = some (Value.int .i64 s) by go_simp)
    have hc2 := (hb1.cell (p := ⟨w.heap.size, 2, none⟩) (by simp)).trans (show _ = some (Value.int .i64 a) by go_simp)
    have hc3 := (hb1.cell (p := ⟨w.heap.size, 3, none⟩) (by simp)).trans (show _ = some (Value.int .i64 d) by go_simp)
    clear hb1
    go_wp2_with fail
    refine (h1 _).mono ?_
    rintro e w' ⟨rfl, rfl⟩
    rcases b1 with _ | _
    · go_wp2_with fail
      go_ret
      exact ⟨rfl, hbb⟩
    · go_wp2_with fail
      refine (h3 _).mono ?_
      rintro e w' ⟨rfl, rfl⟩
      rcases b3 with _ | _
      · go_wp2_with fail
        go_ret
        exact ⟨rfl, hbb⟩
      · go_wp2_with fail
        refine (h4 _).mono ?_
        rintro e w' ⟨rfl, rfl⟩
        rcases b4 with _ | _
        all_goals
          go_wp2_with fail
          go_ret
          exact ⟨rfl, hbb⟩
def deedOk (k n t m : Int) : Bool := inB n 0 3 && inB m 1 1000000 && (if k = 1 ∨ k = 3 then t == 0 else if k = 2 then inB t 0 3 && !(t == n) else false)
def slotOf (k n t : Int) : Int := if k = 1 then n else if k = 2 then t else 4
theorem deedOk_n {k n t m : Int} (h : inB n 0 3 = false) : deedOk k n t m = false := by simp [deedOk, h]
theorem deedOk_m {k n t m : Int} (h : inB m 1 1000000 = false) : deedOk k n t m = false := by simp [deedOk, h]
theorem deedOk_at {k n t m : Int} (h : inB n 0 3 = true) (h2 : inB m 1 1000000 = true) : deedOk k n t m = (if k = 1 ∨ k = 3 then t == 0 else if k = 2 then inB t 0 3 && !(t == n) else false) := by simp [deedOk, h, h2]
set_option maxHeartbeats 2000000 in
set_option maxRecDepth 100000 in
theorem specDeedOk_any (k n t m : Int) (w : World) :
    Calls Tryz.prog 12 #[.agg #[.int .i64 k, .int .i64 n, .int .i64 t, .int .i64 m]] w (Says (.bool (deedOk k n t m)) w) := by
  have h1 := fun w => l3Node_any n w
  have h2 := fun w => l1In_any m 1 1000000 w
  have h3 := fun w => l3Node_any t w
  have hb0 : Below w.heap.size w (w.alloc (.cells #[.int .i64 k, .int .i64 n, .int .i64 t, .int .i64 m] 26)) := (Below.refl _ _).alloc (Nat.le_refl _) _
  have e1 : inB n 0 3 = false → deedOk k n t m = false := deedOk_n
  have e2 : inB m 1 1000000 = false → deedOk k n t m = false := deedOk_m
  have e3 : inB n 0 3 = true → inB m 1 1000000 = true → deedOk k n t m = (if k = 1 ∨ k = 3 then t == 0 else if k = 2 then inB t 0 3 && !(t == n) else false) := deedOk_at
  generalize deedOk k n t m = r at e1 e2 e3
  generalize inB n 0 3 = b1 at h1 e1 e3
  generalize inB m 1 1000000 = b2 at h2 e2 e3
  generalize inB t 0 3 = b3 at h3 e3
  rcases b1 with _ | _
  · have hr := e1 rfl
    subst hr
    clear e1 e2 e3
    go_enter Tryz.func12, Tryz.ntmps12
    go_wp2_with fail
    refine (h1 _).mono ?_
    rintro e w' ⟨rfl, rfl⟩
    go_wp2_with fail
    go_ret
    exact ⟨rfl, hb0⟩
  rcases b2 with _ | _
  · have hr := e2 rfl
    subst hr
    clear e1 e2 e3
    go_enter Tryz.func12, Tryz.ntmps12
    go_wp2_with fail
    refine (h1 _).mono ?_
    rintro e w' ⟨rfl, rfl⟩
    go_wp2_with fail
    refine (h2 _).mono ?_
    rintro e w' ⟨rfl, rfl⟩
    go_wp2_with fail
    go_ret
    exact ⟨rfl, hb0⟩
  have hr := e3 rfl rfl
  clear e1 e2 e3
  by_cases k1 : k = 1
  · subst k1
    rw [if_pos (.inl rfl)] at hr
    have HR := Lib.hid hr; clear hr
    go_enter Tryz.func12, Tryz.ntmps12
    go_wp2_with fail
    refine (h1 _).mono ?_
    rintro e w' ⟨rfl, rfl⟩
    go_wp2_with fail
    refine (h2 _).mono ?_
    rintro e w' ⟨rfl, rfl⟩
    go_wp2_with fail
    go_ret
    exact ⟨ret_bool HR.out.symm, hb0⟩
  by_cases k3 : k = 3
  · subst k3
    rw [if_pos (.inr rfl)] at hr
    have HR := Lib.hid hr; clear hr k1
    go_enter Tryz.func12, Tryz.ntmps12
    go_wp2_with fail
    refine (h1 _).mono ?_
    rintro e w' ⟨rfl, rfl⟩
    go_wp2_with fail
    refine (h2 _).mono ?_
    rintro e w' ⟨rfl, rfl⟩
    go_wp2_with fail
    go_ret
    exact ⟨ret_bool HR.out.symm, hb0⟩
  rw [if_neg (fun h => h.elim k1 k3)] at hr
  have k1' : (k == 1) = false := by simpa using k1
  have k3' : (k == 3) = false := by simpa using k3
  by_cases k2 : k = 2
  · subst k2
    rw [if_pos rfl] at hr
    have HR := Lib.hid hr; clear hr k1 k3 k1' k3'
    go_enter Tryz.func12, Tryz.ntmps12
    go_wp2_with fail
    refine (h1 _).mono ?_
    rintro e w' ⟨rfl, rfl⟩
    go_wp2_with fail
    refine (h2 _).mono ?_
    rintro e w' ⟨rfl, rfl⟩
    go_wp2_with fail
    refine (h3 _).mono ?_
    rintro e w' ⟨rfl, rfl⟩
    rcases b3 with _ | _
    · go_wp2_with fail
      go_ret
      exact ⟨ret_bool HR.out.symm, hb0⟩
    · go_wp2_with fail
      go_ret
      exact ⟨ret_bool (by rw [HR.out]; simp [bne]), hb0⟩
  · rw [if_neg k2] at hr
    have k2' : (k == 2) = false := by simpa using k2
    subst hr
    clear k1 k2 k3
    go_enter Tryz.func12, Tryz.ntmps12
    go_wp2_with fail
    refine (h1 _).mono ?_
    rintro e w' ⟨rfl, rfl⟩
    go_wp2_with fail
    refine (h2 _).mono ?_
    rintro e w' ⟨rfl, rfl⟩
    go_wp2_with fail
    go_ret
    exact ⟨rfl, hb0⟩
set_option maxHeartbeats 1000000 in
theorem l8Slot_any (k n t m : Int) (w : World) :
    Calls Tryz.prog 57 #[.agg #[.int .i64 k, .int .i64 n, .int .i64 t, .int .i64 m]] w (Says (.int .i64 (slotOf k n t)) w) := by
  have hb0 : Below w.heap.size w (w.alloc (.cells #[.int .i64 k, .int .i64 n, .int .i64 t, .int .i64 m] 26)) := (Below.refl _ _).alloc (Nat.le_refl _) _
  by_cases k1 : k = 1
  · subst k1
    have hv : slotOf 1 n t = n := rfl
    rw [hv]
    go_enter Tryz.func57, Tryz.ntmps57
    go_wp2
    go_ret
    exact ⟨rfl, hb0⟩
  · have k1' : (k == 1) = false := by simpa using k1
    by_cases k2 : k = 2
    · subst k2
      have hv : slotOf 2 n t = t := rfl
      rw [hv]
      clear k1 k1'
      go_enter Tryz.func57, Tryz.ntmps57
      go_wp2
      go_ret
      exact ⟨rfl, hb0⟩
    · have k2' : (k == 2) = false := by simpa using k2
      have hv : slotOf k n t = 4 := by rw [slotOf, if_neg k1, if_neg k2]
      rw [hv]
      clear k1 k2 hv
      go_enter Tryz.func57, Tryz.ntmps57
      go_wp2
      go_ret
      exact ⟨rfl, hb0⟩
end Go.Proofs.YtccoljbnddfmpaaGreatDoor
