/- Texts of this claim, put together. -/
import Derived.Test.YtoniahfdjhhalaaGreatP1
import Derived.Test.YtoniahfdjhhalaaGreatP17
import Derived.Laws.StructEq

namespace Go.Proofs.YtoniahfdjhhalaaGreat
open Go.RowKit
theorem deedFields : (Tryz.prog.fieldsOf 60).toList.map (fun f => (f.name == "_", f.type, f.offset)) = [(false, 2, 0), (false, 2, 1), (false, 2, 2), (false, 2, 3)] := by kernel_rfl
theorem deedUnder : Tryz.prog.underlying 60 = some (.struct (Tryz.prog.fieldsOf 60)) := by kernel_rfl
theorem deedHeld : Tryz.prog.stoodInHeld 60 = false := by kernel_rfl
def noDeed (k n t m : Int) : Bool := decide (k = 0 ∧ n = 0 ∧ t = 0 ∧ m = 0)
structure Stp where
  k : Int
  dk : Int
  dn : Int
  dt : Int
  dm : Int
  a : Int
  b : Int
  c : Int
def small (x : Int) : Bool := inB x 0 4000
def stepKind (s : Stp) : Bool :=
  if s.k = 1 then deedOk s.dk s.dn s.dt s.dm && s.a == 0 && s.b == 0 && s.c == 0
  else if s.k = 2 then noDeed s.dk s.dn s.dt s.dm && s.c == 0
  else if s.k = 3 ∨ s.k = 4 ∨ s.k = 5 ∨ s.k = 7 then noDeed s.dk s.dn s.dt s.dm && s.b == 0 && s.c == 0
  else if s.k = 6 then noDeed s.dk s.dn s.dt s.dm && inB s.c 1 255
  else false
def stepOk (s : Stp) : Bool := small s.a && small s.b && small s.c && stepKind s
theorem deed_eql (k n t m : Int) (w : World) :
    (binOp .eql 60 (.agg #[.int .i64 k, .int .i64 n, .int .i64 t, .int .i64 m]) (.agg #[.int .i64 0, .int .i64 0, .int .i64 0, .int .i64 0])).run Tryz.prog w = .ok (.bool (noDeed k n t m)) w := by
  have hu2 : Tryz.prog.underlying 2 = some (.int .i64) := by kernel_rfl
  rw [run_eql_struct, run_equalIn_struct w 9999 60 _ _ deedUnder deedHeld]
  have hf := deedFields
  generalize (Tryz.prog.fieldsOf 60).toList = fs at hf ⊢
  have hl : fs.length = 4 := by simpa using congrArg List.length hf
  rcases fs with _ | ⟨f0, _ | ⟨f1, _ | ⟨f2, _ | ⟨f3, _ | ⟨f4, fr⟩⟩⟩⟩⟩ <;> simp at hl
  simp only [List.map_cons, List.map_nil, List.cons.injEq, Prod.mk.injEq, beq_eq_false_iff_ne, and_true] at hf
  obtain ⟨⟨a1, a2, a3⟩, ⟨b1, b2, b3⟩, ⟨c1, c2, c3⟩, ⟨d1, d2, d3⟩⟩ := hf
  unfold noDeed
  simp [Op.eqFields, a1, a2, a3, b1, b2, b3, c1, c2, c3, d1, d2, d3, part, run_equalIn_int _ _ _ _ _ _ _ hu2]
  by_cases h1 : k = 0 <;> by_cases h2 : n = 0 <;> by_cases h3 : t = 0 <;> by_cases h4 : m = 0 <;> simp [h1, h2, h3, h4]
set_option maxHeartbeats 400000 in
theorem l16Small_any (x : Int) (w : World) :
    Calls Tryz.prog 75 #[.int .i64 x] w fun e w' => e = .returned (.bool (small x)) ∧ w' = w := by
  have h := l1In_any x 0 4000 w
  unfold small
  go_enter Tryz.func75, Tryz.ntmps75
  go_wp2_with fail
  refine h.mono ?_
  rintro e w' ⟨rfl, rfl⟩
  go_wp2_with fail
  go_ret
  exact ⟨rfl, rfl⟩
set_option linter.unusedSimpArgs false in
set_option linter.unusedVariables false in
set_option maxHeartbeats 2000000 in
set_option maxRecDepth 100000 in
theorem stepOk_s0 (s : Stp) (w : World) (h1 : small s.a = false)  :
    Calls Tryz.prog 52 #[.agg #[.int .i64 s.k, .int .i64 s.dk, .int .i64 s.dn, .int .i64 s.dt, .int .i64 s.dm, .int .i64 s.a, .int .i64 s.b, .int .i64 s.c]] w (Says (.bool (stepOk s)) w) := by
  obtain ⟨k, dk, dn, dt, dm, a, b, c⟩ := s
  have hs1 := fun w => l16Small_any a w
  have hs2 := fun w => l16Small_any b w
  have hs3 := fun w => l16Small_any c w
  have hde := fun w => deed_eql dk dn dt dm w
  have hdo := fun w => specDeedOk_any dk dn dt dm w
  have hin := fun w => l1In_any c 1 255 w
  obtain ⟨wb, hwb⟩ : ∃ wb, wb = w.alloc (.cells #[.int .i64 k, .int .i64 dk, .int .i64 dn, .int .i64 dt, .int .i64 dm, .int .i64 a, .int .i64 b, .int .i64 c] 62) := ⟨_, rfl⟩
  obtain ⟨g, hg⟩ : ∃ g, g = w.heap.size := ⟨_, rfl⟩
  have hbox : Blk wb g 62 #[.int .i64 k, .int .i64 dk, .int .i64 dn, .int .i64 dt, .int .i64 dm, .int .i64 a, .int .i64 b, .int .i64 c] := by rw [hwb, hg]; exact Blk.new _ _ _
  have hb0 : Below w.heap.size w wb := by rw [hwb]; exact (Below.refl _ _).alloc (Nat.le_refl _) _
  have HB0 := Lib.hid hb0
  have d0 := hbox.cell 0; have d1 := hbox.cell 1; have d2 := hbox.cell 2; have d3 := hbox.cell 3; have d4 := hbox.cell 4; have d5 := hbox.cell 5; have d6 := hbox.cell 6; have d7 := hbox.cell 7
  simp only at *
  obtain ⟨r, hr⟩ : ∃ r, stepOk ⟨k, dk, dn, dt, dm, a, b, c⟩ = r := ⟨_, rfl⟩
  rw [hr]
  unfold stepOk stepKind at hr
  simp only at hr
  generalize noDeed dk dn dt dm = nb at hde hr
  rw [h1] at hs1 hr
  have hr0 : r = false := by rw [← hr]; simp
  subst hr0
  clear hr
  go_enter Tryz.func52, Tryz.ntmps52
  go_upto_region 1 with fail
  rw [← hwb, ← hg]
  clear hwb hg
  go_wp2_with fail
  refine (hs1 _).mono ?_
  rintro e w' ⟨rfl, rfl⟩
  go_wp2_with fail
  go_ret
  exact ⟨rfl, HB0.out⟩
set_option linter.unusedSimpArgs false in
set_option linter.unusedVariables false in
set_option maxHeartbeats 2000000 in
set_option maxRecDepth 100000 in
theorem stepOk_s1 (s : Stp) (w : World) (h1 : small s.a = true) (h2 : small s.b = false)  :
    Calls Tryz.prog 52 #[.agg #[.int .i64 s.k, .int .i64 s.dk, .int .i64 s.dn, .int .i64 s.dt, .int .i64 s.dm, .int .i64 s.a, .int .i64 s.b, .int .i64 s.c]] w (Says (.bool (stepOk s)) w) := by
  obtain ⟨k, dk, dn, dt, dm, a, b, c⟩ := s
  have hs1 := fun w => l16Small_any a w
  have hs2 := fun w => l16Small_any b w
  have hs3 := fun w => l16Small_any c w
  have hde := fun w => deed_eql dk dn dt dm w
  have hdo := fun w => specDeedOk_any dk dn dt dm w
  have hin := fun w => l1In_any c 1 255 w
  obtain ⟨wb, hwb⟩ : ∃ wb, wb = w.alloc (.cells #[.int .i64 k, .int .i64 dk, .int .i64 dn, .int .i64 dt, .int .i64 dm, .int .i64 a, .int .i64 b, .int .i64 c] 62) := ⟨_, rfl⟩
  obtain ⟨g, hg⟩ : ∃ g, g = w.heap.size := ⟨_, rfl⟩
  have hbox : Blk wb g 62 #[.int .i64 k, .int .i64 dk, .int .i64 dn, .int .i64 dt, .int .i64 dm, .int .i64 a, .int .i64 b, .int .i64 c] := by rw [hwb, hg]; exact Blk.new _ _ _
  have hb0 : Below w.heap.size w wb := by rw [hwb]; exact (Below.refl _ _).alloc (Nat.le_refl _) _
  have HB0 := Lib.hid hb0
  have d0 := hbox.cell 0; have d1 := hbox.cell 1; have d2 := hbox.cell 2; have d3 := hbox.cell 3; have d4 := hbox.cell 4; have d5 := hbox.cell 5; have d6 := hbox.cell 6; have d7 := hbox.cell 7
  simp only at *
  obtain ⟨r, hr⟩ : ∃ r, stepOk ⟨k, dk, dn, dt, dm, a, b, c⟩ = r := ⟨_, rfl⟩
  rw [hr]
  unfold stepOk stepKind at hr
  simp only at hr
  generalize noDeed dk dn dt dm = nb at hde hr
  rw [h1] at hs1 hr
  rw [h2] at hs2 hr
  have hr0 : r = false := by rw [← hr]; simp
  subst hr0
  clear hr
  go_enter Tryz.func52, Tryz.ntmps52
  go_upto_region 1 with fail
  rw [← hwb, ← hg]
  clear hwb hg
  go_wp2_with fail
  refine (hs1 _).mono ?_
  rintro e w' ⟨rfl, rfl⟩
  go_wp2_with fail
  refine (hs2 _).mono ?_
  rintro e w' ⟨rfl, rfl⟩
  go_wp2_with fail
  go_ret
  exact ⟨rfl, HB0.out⟩
set_option linter.unusedSimpArgs false in
set_option linter.unusedVariables false in
set_option maxHeartbeats 2000000 in
set_option maxRecDepth 100000 in
theorem stepOk_s2 (s : Stp) (w : World) (h1 : small s.a = true) (h2 : small s.b = true) (h3 : small s.c = false)  :
    Calls Tryz.prog 52 #[.agg #[.int .i64 s.k, .int .i64 s.dk, .int .i64 s.dn, .int .i64 s.dt, .int .i64 s.dm, .int .i64 s.a, .int .i64 s.b, .int .i64 s.c]] w (Says (.bool (stepOk s)) w) := by
  obtain ⟨k, dk, dn, dt, dm, a, b, c⟩ := s
  have hs1 := fun w => l16Small_any a w
  have hs2 := fun w => l16Small_any b w
  have hs3 := fun w => l16Small_any c w
  have hde := fun w => deed_eql dk dn dt dm w
  have hdo := fun w => specDeedOk_any dk dn dt dm w
  have hin := fun w => l1In_any c 1 255 w
  obtain ⟨wb, hwb⟩ : ∃ wb, wb = w.alloc (.cells #[.int .i64 k, .int .i64 dk, .int .i64 dn, .int .i64 dt, .int .i64 dm, .int .i64 a, .int .i64 b, .int .i64 c] 62) := ⟨_, rfl⟩
  obtain ⟨g, hg⟩ : ∃ g, g = w.heap.size := ⟨_, rfl⟩
  have hbox : Blk wb g 62 #[.int .i64 k, .int .i64 dk, .int .i64 dn, .int .i64 dt, .int .i64 dm, .int .i64 a, .int .i64 b, .int .i64 c] := by rw [hwb, hg]; exact Blk.new _ _ _
  have hb0 : Below w.heap.size w wb := by rw [hwb]; exact (Below.refl _ _).alloc (Nat.le_refl _) _
  have HB0 := Lib.hid hb0
  have d0 := hbox.cell 0; have d1 := hbox.cell 1; have d2 := hbox.cell 2; have d3 := hbox.cell 3; have d4 := hbox.cell 4; have d5 := hbox.cell 5; have d6 := hbox.cell 6; have d7 := hbox.cell 7
  simp only at *
  obtain ⟨r, hr⟩ : ∃ r, stepOk ⟨k, dk, dn, dt, dm, a, b, c⟩ = r := ⟨_, rfl⟩
  rw [hr]
  unfold stepOk stepKind at hr
  simp only at hr
  generalize noDeed dk dn dt dm = nb at hde hr
  rw [h1] at hs1 hr
  rw [h2] at hs2 hr
  rw [h3] at hs3 hr
  have hr0 : r = false := by rw [← hr]; simp
  subst hr0
  clear hr
  go_enter Tryz.func52, Tryz.ntmps52
  go_upto_region 1 with fail
  rw [← hwb, ← hg]
  clear hwb hg
  go_wp2_with fail
  refine (hs1 _).mono ?_
  rintro e w' ⟨rfl, rfl⟩
  go_wp2_with fail
  refine (hs2 _).mono ?_
  rintro e w' ⟨rfl, rfl⟩
  go_wp2_with fail
  refine (hs3 _).mono ?_
  rintro e w' ⟨rfl, rfl⟩
  go_wp2_with fail
  go_ret
  exact ⟨rfl, HB0.out⟩
set_option linter.unusedSimpArgs false in
set_option linter.unusedVariables false in
set_option maxHeartbeats 2000000 in
set_option maxRecDepth 100000 in
theorem stepOk_k1 (s : Stp) (w : World) (h1 : small s.a = true) (h2 : small s.b = true) (h3 : small s.c = true) (hk : s.k = 1) :
    Calls Tryz.prog 52 #[.agg #[.int .i64 s.k, .int .i64 s.dk, .int .i64 s.dn, .int .i64 s.dt, .int .i64 s.dm, .int .i64 s.a, .int .i64 s.b, .int .i64 s.c]] w (Says (.bool (stepOk s)) w) := by
  obtain ⟨k, dk, dn, dt, dm, a, b, c⟩ := s
  have hs1 := fun w => l16Small_any a w
  have hs2 := fun w => l16Small_any b w
  have hs3 := fun w => l16Small_any c w
  have hde := fun w => deed_eql dk dn dt dm w
  have hdo := fun w => specDeedOk_any dk dn dt dm w
  have hin := fun w => l1In_any c 1 255 w
  obtain ⟨wb, hwb⟩ : ∃ wb, wb = w.alloc (.cells #[.int .i64 k, .int .i64 dk, .int .i64 dn, .int .i64 dt, .int .i64 dm, .int .i64 a, .int .i64 b, .int .i64 c] 62) := ⟨_, rfl⟩
  obtain ⟨g, hg⟩ : ∃ g, g = w.heap.size := ⟨_, rfl⟩
  have hbox : Blk wb g 62 #[.int .i64 k, .int .i64 dk, .int .i64 dn, .int .i64 dt, .int .i64 dm, .int .i64 a, .int .i64 b, .int .i64 c] := by rw [hwb, hg]; exact Blk.new _ _ _
  have hb0 : Below w.heap.size w wb := by rw [hwb]; exact (Below.refl _ _).alloc (Nat.le_refl _) _
  have HB0 := Lib.hid hb0
  have d0 := hbox.cell 0; have d1 := hbox.cell 1; have d2 := hbox.cell 2; have d3 := hbox.cell 3; have d4 := hbox.cell 4; have d5 := hbox.cell 5; have d6 := hbox.cell 6; have d7 := hbox.cell 7
  simp only at *
  obtain ⟨r, hr⟩ : ∃ r, stepOk ⟨k, dk, dn, dt, dm, a, b, c⟩ = r := ⟨_, rfl⟩
  rw [hr]
  unfold stepOk stepKind at hr
  simp only at hr
  rw [h1] at hs1 hr
  rw [h2] at hs2 hr
  rw [h3] at hs3 hr
  simp only [Bool.true_and] at hr
  subst hk
  rw [if_pos rfl] at hr
  generalize noDeed dk dn dt dm = nb at hde
  generalize deedOk dk dn dt dm = db at hdo hr
  have HR := Lib.hid hr; clear hr h1 h2 h3
  go_enter Tryz.func52, Tryz.ntmps52
  go_upto_region 1 with fail
  rw [← hwb, ← hg]
  clear hwb hg
  go_wp2_with fail
  refine (hs1 _).mono ?_
  rintro e w' ⟨rfl, rfl⟩
  go_wp2_with fail
  refine (hs2 _).mono ?_
  rintro e w' ⟨rfl, rfl⟩
  go_wp2_with fail
  refine (hs3 _).mono ?_
  rintro e w' ⟨rfl, rfl⟩
  go_wp2_with fail
  refine (hdo _).mono ?_
  rintro e w2 ⟨rfl, hb2⟩
  have hbb := Lib.hid (HB0.out.trans (hb2.mono HB0.out.size))
  have hbox2 := hbox.below hb2 hbox.lt
  clear d0 d1 d2 d3 d4 d5 d6 d7
  have d5 := hbox2.cell 5; have d6 := hbox2.cell 6; have d7 := hbox2.cell 7
  rcases db with _ | _
  · go_wp2_with fail
    go_ret
    exact ⟨ret_bool (by rw [← HR.out]; simp), hbb.out⟩
  · by_cases ha : a = 0
    · have ha' : (a == 0) = true := by simpa using ha
      rw [ha'] at HR
      clear ha
      by_cases hb : b = 0
      · have hb' : (b == 0) = true := by simpa using hb
        rw [hb'] at HR
        clear hb
        go_wp2_with fail
        go_ret
        exact ⟨ret_bool (by rw [← HR.out]; simp), hbb.out⟩
      · have hb' : (b == 0) = false := by simpa using hb
        rw [hb'] at HR
        clear hb
        go_wp2_with fail
        go_ret
        exact ⟨ret_bool (by rw [← HR.out]; simp), hbb.out⟩
    · have ha' : (a == 0) = false := by simpa using ha
      rw [ha'] at HR
      clear ha
      go_wp2_with fail
      go_ret
      exact ⟨ret_bool (by rw [← HR.out]; simp), hbb.out⟩
set_option linter.unusedSimpArgs false in
set_option linter.unusedVariables false in
set_option maxHeartbeats 2000000 in
set_option maxRecDepth 100000 in
theorem stepOk_k2 (s : Stp) (w : World) (h1 : small s.a = true) (h2 : small s.b = true) (h3 : small s.c = true) (hk : s.k = 2) :
    Calls Tryz.prog 52 #[.agg #[.int .i64 s.k, .int .i64 s.dk, .int .i64 s.dn, .int .i64 s.dt, .int .i64 s.dm, .int .i64 s.a, .int .i64 s.b, .int .i64 s.c]] w (Says (.bool (stepOk s)) w) := by
  obtain ⟨k, dk, dn, dt, dm, a, b, c⟩ := s
  have hs1 := fun w => l16Small_any a w
  have hs2 := fun w => l16Small_any b w
  have hs3 := fun w => l16Small_any c w
  have hde := fun w => deed_eql dk dn dt dm w
  have hdo := fun w => specDeedOk_any dk dn dt dm w
  have hin := fun w => l1In_any c 1 255 w
  obtain ⟨wb, hwb⟩ : ∃ wb, wb = w.alloc (.cells #[.int .i64 k, .int .i64 dk, .int .i64 dn, .int .i64 dt, .int .i64 dm, .int .i64 a, .int .i64 b, .int .i64 c] 62) := ⟨_, rfl⟩
  obtain ⟨g, hg⟩ : ∃ g, g = w.heap.size := ⟨_, rfl⟩
  have hbox : Blk wb g 62 #[.int .i64 k, .int .i64 dk, .int .i64 dn, .int .i64 dt, .int .i64 dm, .int .i64 a, .int .i64 b, .int .i64 c] := by rw [hwb, hg]; exact Blk.new _ _ _
  have hb0 : Below w.heap.size w wb := by rw [hwb]; exact (Below.refl _ _).alloc (Nat.le_refl _) _
  have HB0 := Lib.hid hb0
  have d0 := hbox.cell 0; have d1 := hbox.cell 1; have d2 := hbox.cell 2; have d3 := hbox.cell 3; have d4 := hbox.cell 4; have d5 := hbox.cell 5; have d6 := hbox.cell 6; have d7 := hbox.cell 7
  simp only at *
  obtain ⟨r, hr⟩ : ∃ r, stepOk ⟨k, dk, dn, dt, dm, a, b, c⟩ = r := ⟨_, rfl⟩
  rw [hr]
  unfold stepOk stepKind at hr
  simp only at hr
  rw [h1] at hs1 hr
  rw [h2] at hs2 hr
  rw [h3] at hs3 hr
  simp only [Bool.true_and] at hr
  subst hk
  rw [if_neg (by decide), if_pos rfl] at hr
  generalize noDeed dk dn dt dm = nb at hde hr
  have HR := Lib.hid hr; clear hr h1 h2 h3
  rcases nb with _ | _
  ·
    go_enter Tryz.func52, Tryz.ntmps52
    go_upto_region 1 with fail
    rw [← hwb, ← hg]
    clear hwb hg
    go_wp2_with fail
    refine (hs1 _).mono ?_
    rintro e w' ⟨rfl, rfl⟩
    go_wp2_with fail
    refine (hs2 _).mono ?_
    rintro e w' ⟨rfl, rfl⟩
    go_wp2_with fail
    refine (hs3 _).mono ?_
    rintro e w' ⟨rfl, rfl⟩
    go_wp2_with fail
    go_ret
    exact ⟨ret_bool (by rw [← HR.out]; simp), HB0.out⟩
  ·
    go_enter Tryz.func52, Tryz.ntmps52
    go_upto_region 1 with fail
    rw [← hwb, ← hg]
    clear hwb hg
    go_wp2_with fail
    refine (hs1 _).mono ?_
    rintro e w' ⟨rfl, rfl⟩
    go_wp2_with fail
    refine (hs2 _).mono ?_
    rintro e w' ⟨rfl, rfl⟩
    go_wp2_with fail
    refine (hs3 _).mono ?_
    rintro e w' ⟨rfl, rfl⟩
    go_wp2_with fail
    go_ret
    exact ⟨ret_bool (by rw [← HR.out]; simp), HB0.out⟩
set_option linter.unusedSimpArgs false in
set_option linter.unusedVariables false in
set_option maxHeartbeats 2000000 in
set_option maxRecDepth 100000 in
theorem stepOk_k3 (s : Stp) (w : World) (h1 : small s.a = true) (h2 : small s.b = true) (h3 : small s.c = true) (hk : s.k = 3) :
    Calls Tryz.prog 52 #[.agg #[.int .i64 s.k, .int .i64 s.dk, .int .i64 s.dn, .int .i64 s.dt, .int .i64 s.dm, .int .i64 s.a, .int .i64 s.b, .int .i64 s.c]] w (Says (.bool (stepOk s)) w) := by
  obtain ⟨k, dk, dn, dt, dm, a, b, c⟩ := s
  have hs1 := fun w => l16Small_any a w
  have hs2 := fun w => l16Small_any b w
  have hs3 := fun w => l16Small_any c w
  have hde := fun w => deed_eql dk dn dt dm w
  have hdo := fun w => specDeedOk_any dk dn dt dm w
  have hin := fun w => l1In_any c 1 255 w
  obtain ⟨wb, hwb⟩ : ∃ wb, wb = w.alloc (.cells #[.int .i64 k, .int .i64 dk, .int .i64 dn, .int .i64 dt, .int .i64 dm, .int .i64 a, .int .i64 b, .int .i64 c] 62) := ⟨_, rfl⟩
  obtain ⟨g, hg⟩ : ∃ g, g = w.heap.size := ⟨_, rfl⟩
  have hbox : Blk wb g 62 #[.int .i64 k, .int .i64 dk, .int .i64 dn, .int .i64 dt, .int .i64 dm, .int .i64 a, .int .i64 b, .int .i64 c] := by rw [hwb, hg]; exact Blk.new _ _ _
  have hb0 : Below w.heap.size w wb := by rw [hwb]; exact (Below.refl _ _).alloc (Nat.le_refl _) _
  have HB0 := Lib.hid hb0
  have d0 := hbox.cell 0; have d1 := hbox.cell 1; have d2 := hbox.cell 2; have d3 := hbox.cell 3; have d4 := hbox.cell 4; have d5 := hbox.cell 5; have d6 := hbox.cell 6; have d7 := hbox.cell 7
  simp only at *
  obtain ⟨r, hr⟩ : ∃ r, stepOk ⟨k, dk, dn, dt, dm, a, b, c⟩ = r := ⟨_, rfl⟩
  rw [hr]
  unfold stepOk stepKind at hr
  simp only at hr
  rw [h1] at hs1 hr
  rw [h2] at hs2 hr
  rw [h3] at hs3 hr
  simp only [Bool.true_and] at hr
  subst hk
  rw [if_neg (by decide), if_neg (by decide), if_pos (by decide)] at hr
  generalize noDeed dk dn dt dm = nb at hde hr
  have HR := Lib.hid hr; clear hr h1 h2 h3
  rcases nb with _ | _
  ·
    go_enter Tryz.func52, Tryz.ntmps52
    go_upto_region 1 with fail
    rw [← hwb, ← hg]
    clear hwb hg
    go_wp2_with fail
    refine (hs1 _).mono ?_
    rintro e w' ⟨rfl, rfl⟩
    go_wp2_with fail
    refine (hs2 _).mono ?_
    rintro e w' ⟨rfl, rfl⟩
    go_wp2_with fail
    refine (hs3 _).mono ?_
    rintro e w' ⟨rfl, rfl⟩
    go_wp2_with fail
    go_ret
    exact ⟨ret_bool (by rw [← HR.out]; simp), HB0.out⟩
  · by_cases hb : b = 0
    · have hb' : (b == 0) = true := by simpa using hb
      rw [hb'] at HR
      clear hb
      go_enter Tryz.func52, Tryz.ntmps52
      go_upto_region 1 with fail
      rw [← hwb, ← hg]
      clear hwb hg
      go_wp2_with fail
      refine (hs1 _).mono ?_
      rintro e w' ⟨rfl, rfl⟩
      go_wp2_with fail
      refine (hs2 _).mono ?_
      rintro e w' ⟨rfl, rfl⟩
      go_wp2_with fail
      refine (hs3 _).mono ?_
      rintro e w' ⟨rfl, rfl⟩
      go_wp2_with fail
      go_ret
      exact ⟨ret_bool (by rw [← HR.out]; simp), HB0.out⟩
    · have hb' : (b == 0) = false := by simpa using hb
      rw [hb'] at HR
      clear hb
      go_enter Tryz.func52, Tryz.ntmps52
      go_upto_region 1 with fail
      rw [← hwb, ← hg]
      clear hwb hg
      go_wp2_with fail
      refine (hs1 _).mono ?_
      rintro e w' ⟨rfl, rfl⟩
      go_wp2_with fail
      refine (hs2 _).mono ?_
      rintro e w' ⟨rfl, rfl⟩
      go_wp2_with fail
      refine (hs3 _).mono ?_
      rintro e w' ⟨rfl, rfl⟩
      go_wp2_with fail
      go_ret
      exact ⟨ret_bool (by rw [← HR.out]; simp), HB0.out⟩
set_option linter.unusedSimpArgs false in
set_option linter.unusedVariables false in
set_option maxHeartbeats 2000000 in
set_option maxRecDepth 100000 in
theorem stepOk_k4 (s : Stp) (w : World) (h1 : small s.a = true) (h2 : small s.b = true) (h3 : small s.c = true) (hk : s.k = 4) :
    Calls Tryz.prog 52 #[.agg #[.int .i64 s.k, .int .i64 s.dk, .int .i64 s.dn, .int .i64 s.dt, .int .i64 s.dm, .int .i64 s.a, .int .i64 s.b, .int .i64 s.c]] w (Says (.bool (stepOk s)) w) := by
  obtain ⟨k, dk, dn, dt, dm, a, b, c⟩ := s
  have hs1 := fun w => l16Small_any a w
  have hs2 := fun w => l16Small_any b w
  have hs3 := fun w => l16Small_any c w
  have hde := fun w => deed_eql dk dn dt dm w
  have hdo := fun w => specDeedOk_any dk dn dt dm w
  have hin := fun w => l1In_any c 1 255 w
  obtain ⟨wb, hwb⟩ : ∃ wb, wb = w.alloc (.cells #[.int .i64 k, .int .i64 dk, .int .i64 dn, .int .i64 dt, .int .i64 dm, .int .i64 a, .int .i64 b, .int .i64 c] 62) := ⟨_, rfl⟩
  obtain ⟨g, hg⟩ : ∃ g, g = w.heap.size := ⟨_, rfl⟩
  have hbox : Blk wb g 62 #[.int .i64 k, .int .i64 dk, .int .i64 dn, .int .i64 dt, .int .i64 dm, .int .i64 a, .int .i64 b, .int .i64 c] := by rw [hwb, hg]; exact Blk.new _ _ _
  have hb0 : Below w.heap.size w wb := by rw [hwb]; exact (Below.refl _ _).alloc (Nat.le_refl _) _
  have HB0 := Lib.hid hb0
  have d0 := hbox.cell 0; have d1 := hbox.cell 1; have d2 := hbox.cell 2; have d3 := hbox.cell 3; have d4 := hbox.cell 4; have d5 := hbox.cell 5; have d6 := hbox.cell 6; have d7 := hbox.cell 7
  simp only at *
  obtain ⟨r, hr⟩ : ∃ r, stepOk ⟨k, dk, dn, dt, dm, a, b, c⟩ = r := ⟨_, rfl⟩
  rw [hr]
  unfold stepOk stepKind at hr
  simp only at hr
  rw [h1] at hs1 hr
  rw [h2] at hs2 hr
  rw [h3] at hs3 hr
  simp only [Bool.true_and] at hr
  subst hk
  rw [if_neg (by decide), if_neg (by decide), if_pos (by decide)] at hr
  generalize noDeed dk dn dt dm = nb at hde hr
  have HR := Lib.hid hr; clear hr h1 h2 h3
  rcases nb with _ | _
  ·
    go_enter Tryz.func52, Tryz.ntmps52
    go_upto_region 1 with fail
    rw [← hwb, ← hg]
    clear hwb hg
    go_wp2_with fail
    refine (hs1 _).mono ?_
    rintro e w' ⟨rfl, rfl⟩
    go_wp2_with fail
    refine (hs2 _).mono ?_
    rintro e w' ⟨rfl, rfl⟩
    go_wp2_with fail
    refine (hs3 _).mono ?_
    rintro e w' ⟨rfl, rfl⟩
    go_wp2_with fail
    go_ret
    exact ⟨ret_bool (by rw [← HR.out]; simp), HB0.out⟩
  · by_cases hb : b = 0
    · have hb' : (b == 0) = true := by simpa using hb
      rw [hb'] at HR
      clear hb
      go_enter Tryz.func52, Tryz.ntmps52
      go_upto_region 1 with fail
      rw [← hwb, ← hg]
      clear hwb hg
      go_wp2_with fail
      refine (hs1 _).mono ?_
      rintro e w' ⟨rfl, rfl⟩
      go_wp2_with fail
      refine (hs2 _).mono ?_
      rintro e w' ⟨rfl, rfl⟩
      go_wp2_with fail
      refine (hs3 _).mono ?_
      rintro e w' ⟨rfl, rfl⟩
      go_wp2_with fail
      go_ret
      exact ⟨ret_bool (by rw [← HR.out]; simp), HB0.out⟩
    · have hb' : (b == 0) = false := by simpa using hb
      rw [hb'] at HR
      clear hb
      go_enter Tryz.func52, Tryz.ntmps52
      go_upto_region 1 with fail
      rw [← hwb, ← hg]
      clear hwb hg
      go_wp2_with fail
      refine (hs1 _).mono ?_
      rintro e w' ⟨rfl, rfl⟩
      go_wp2_with fail
      refine (hs2 _).mono ?_
      rintro e w' ⟨rfl, rfl⟩
      go_wp2_with fail
      refine (hs3 _).mono ?_
      rintro e w' ⟨rfl, rfl⟩
      go_wp2_with fail
      go_ret
      exact ⟨ret_bool (by rw [← HR.out]; simp), HB0.out⟩
set_option linter.unusedSimpArgs false in
set_option linter.unusedVariables false in
set_option maxHeartbeats 2000000 in
set_option maxRecDepth 100000 in
theorem stepOk_k5 (s : Stp) (w : World) (h1 : small s.a = true) (h2 : small s.b = true) (h3 : small s.c = true) (hk : s.k = 5) :
    Calls Tryz.prog 52 #[.agg #[.int .i64 s.k, .int .i64 s.dk, .int .i64 s.dn, .int .i64 s.dt, .int .i64 s.dm, .int .i64 s.a, .int .i64 s.b, .int .i64 s.c]] w (Says (.bool (stepOk s)) w) := by
  obtain ⟨k, dk, dn, dt, dm, a, b, c⟩ := s
  have hs1 := fun w => l16Small_any a w
  have hs2 := fun w => l16Small_any b w
  have hs3 := fun w => l16Small_any c w
  have hde := fun w => deed_eql dk dn dt dm w
  have hdo := fun w => specDeedOk_any dk dn dt dm w
  have hin := fun w => l1In_any c 1 255 w
  obtain ⟨wb, hwb⟩ : ∃ wb, wb = w.alloc (.cells #[.int .i64 k, .int .i64 dk, .int .i64 dn, .int .i64 dt, .int .i64 dm, .int .i64 a, .int .i64 b, .int .i64 c] 62) := ⟨_, rfl⟩
  obtain ⟨g, hg⟩ : ∃ g, g = w.heap.size := ⟨_, rfl⟩
  have hbox : Blk wb g 62 #[.int .i64 k, .int .i64 dk, .int .i64 dn, .int .i64 dt, .int .i64 dm, .int .i64 a, .int .i64 b, .int .i64 c] := by rw [hwb, hg]; exact Blk.new _ _ _
  have hb0 : Below w.heap.size w wb := by rw [hwb]; exact (Below.refl _ _).alloc (Nat.le_refl _) _
  have HB0 := Lib.hid hb0
  have d0 := hbox.cell 0; have d1 := hbox.cell 1; have d2 := hbox.cell 2; have d3 := hbox.cell 3; have d4 := hbox.cell 4; have d5 := hbox.cell 5; have d6 := hbox.cell 6; have d7 := hbox.cell 7
  simp only at *
  obtain ⟨r, hr⟩ : ∃ r, stepOk ⟨k, dk, dn, dt, dm, a, b, c⟩ = r := ⟨_, rfl⟩
  rw [hr]
  unfold stepOk stepKind at hr
  simp only at hr
  rw [h1] at hs1 hr
  rw [h2] at hs2 hr
  rw [h3] at hs3 hr
  simp only [Bool.true_and] at hr
  subst hk
  rw [if_neg (by decide), if_neg (by decide), if_pos (by decide)] at hr
  generalize noDeed dk dn dt dm = nb at hde hr
  have HR := Lib.hid hr; clear hr h1 h2 h3
  rcases nb with _ | _
  ·
    go_enter Tryz.func52, Tryz.ntmps52
    go_upto_region 1 with fail
    rw [← hwb, ← hg]
    clear hwb hg
    go_wp2_with fail
    refine (hs1 _).mono ?_
    rintro e w' ⟨rfl, rfl⟩
    go_wp2_with fail
    refine (hs2 _).mono ?_
    rintro e w' ⟨rfl, rfl⟩
    go_wp2_with fail
    refine (hs3 _).mono ?_
    rintro e w' ⟨rfl, rfl⟩
    go_wp2_with fail
    go_ret
    exact ⟨ret_bool (by rw [← HR.out]; simp), HB0.out⟩
  · by_cases hb : b = 0
    · have hb' : (b == 0) = true := by simpa using hb
      rw [hb'] at HR
      clear hb
      go_enter Tryz.func52, Tryz.ntmps52
      go_upto_region 1 with fail
      rw [← hwb, ← hg]
      clear hwb hg
      go_wp2_with fail
      refine (hs1 _).mono ?_
      rintro e w' ⟨rfl, rfl⟩
      go_wp2_with fail
      refine (hs2 _).mono ?_
      rintro e w' ⟨rfl, rfl⟩
      go_wp2_with fail
      refine (hs3 _).mono ?_
      rintro e w' ⟨rfl, rfl⟩
      go_wp2_with fail
      go_ret
      exact ⟨ret_bool (by rw [← HR.out]; simp), HB0.out⟩
    · have hb' : (b == 0) = false := by simpa using hb
      rw [hb'] at HR
      clear hb
      go_enter Tryz.func52, Tryz.ntmps52
      go_upto_region 1 with fail
      rw [← hwb, ← hg]
      clear hwb hg
      go_wp2_with fail
      refine (hs1 _).mono ?_
      rintro e w' ⟨rfl, rfl⟩
      go_wp2_with fail
      refine (hs2 _).mono ?_
      rintro e w' ⟨rfl, rfl⟩
      go_wp2_with fail
      refine (hs3 _).mono ?_
      rintro e w' ⟨rfl, rfl⟩
      go_wp2_with fail
      go_ret
      exact ⟨ret_bool (by rw [← HR.out]; simp), HB0.out⟩
set_option linter.unusedSimpArgs false in
set_option linter.unusedVariables false in
set_option maxHeartbeats 2000000 in
set_option maxRecDepth 100000 in
theorem stepOk_k7 (s : Stp) (w : World) (h1 : small s.a = true) (h2 : small s.b = true) (h3 : small s.c = true) (hk : s.k = 7) :
    Calls Tryz.prog 52 #[.agg #[.int .i64 s.k, .int .i64 s.dk, .int .i64 s.dn, .int .i64 s.dt, .int .i64 s.dm, .int .i64 s.a, .int .i64 s.b, .int .i64 s.c]] w (Says (.bool (stepOk s)) w) := by
  obtain ⟨k, dk, dn, dt, dm, a, b, c⟩ := s
  have hs1 := fun w => l16Small_any a w
  have hs2 := fun w => l16Small_any b w
  have hs3 := fun w => l16Small_any c w
  have hde := fun w => deed_eql dk dn dt dm w
  have hdo := fun w => specDeedOk_any dk dn dt dm w
  have hin := fun w => l1In_any c 1 255 w
  obtain ⟨wb, hwb⟩ : ∃ wb, wb = w.alloc (.cells #[.int .i64 k, .int .i64 dk, .int .i64 dn, .int .i64 dt, .int .i64 dm, .int .i64 a, .int .i64 b, .int .i64 c] 62) := ⟨_, rfl⟩
  obtain ⟨g, hg⟩ : ∃ g, g = w.heap.size := ⟨_, rfl⟩
  have hbox : Blk wb g 62 #[.int .i64 k, .int .i64 dk, .int .i64 dn, .int .i64 dt, .int .i64 dm, .int .i64 a, .int .i64 b, .int .i64 c] := by rw [hwb, hg]; exact Blk.new _ _ _
  have hb0 : Below w.heap.size w wb := by rw [hwb]; exact (Below.refl _ _).alloc (Nat.le_refl _) _
  have HB0 := Lib.hid hb0
  have d0 := hbox.cell 0; have d1 := hbox.cell 1; have d2 := hbox.cell 2; have d3 := hbox.cell 3; have d4 := hbox.cell 4; have d5 := hbox.cell 5; have d6 := hbox.cell 6; have d7 := hbox.cell 7
  simp only at *
  obtain ⟨r, hr⟩ : ∃ r, stepOk ⟨k, dk, dn, dt, dm, a, b, c⟩ = r := ⟨_, rfl⟩
  rw [hr]
  unfold stepOk stepKind at hr
  simp only at hr
  rw [h1] at hs1 hr
  rw [h2] at hs2 hr
  rw [h3] at hs3 hr
  simp only [Bool.true_and] at hr
  subst hk
  rw [if_neg (by decide), if_neg (by decide), if_pos (by decide)] at hr
  generalize noDeed dk dn dt dm = nb at hde hr
  have HR := Lib.hid hr; clear hr h1 h2 h3
  rcases nb with _ | _
  ·
    go_enter Tryz.func52, Tryz.ntmps52
    go_upto_region 1 with fail
    rw [← hwb, ← hg]
    clear hwb hg
    go_wp2_with fail
    refine (hs1 _).mono ?_
    rintro e w' ⟨rfl, rfl⟩
    go_wp2_with fail
    refine (hs2 _).mono ?_
    rintro e w' ⟨rfl, rfl⟩
    go_wp2_with fail
    refine (hs3 _).mono ?_
    rintro e w' ⟨rfl, rfl⟩
    go_wp2_with fail
    go_ret
    exact ⟨ret_bool (by rw [← HR.out]; simp), HB0.out⟩
  · by_cases hb : b = 0
    · have hb' : (b == 0) = true := by simpa using hb
      rw [hb'] at HR
      clear hb
      go_enter Tryz.func52, Tryz.ntmps52
      go_upto_region 1 with fail
      rw [← hwb, ← hg]
      clear hwb hg
      go_wp2_with fail
      refine (hs1 _).mono ?_
      rintro e w' ⟨rfl, rfl⟩
      go_wp2_with fail
      refine (hs2 _).mono ?_
      rintro e w' ⟨rfl, rfl⟩
      go_wp2_with fail
      refine (hs3 _).mono ?_
      rintro e w' ⟨rfl, rfl⟩
      go_wp2_with fail
      go_ret
      exact ⟨ret_bool (by rw [← HR.out]; simp), HB0.out⟩
    · have hb' : (b == 0) = false := by simpa using hb
      rw [hb'] at HR
      clear hb
      go_enter Tryz.func52, Tryz.ntmps52
      go_upto_region 1 with fail
      rw [← hwb, ← hg]
      clear hwb hg
      go_wp2_with fail
      refine (hs1 _).mono ?_
      rintro e w' ⟨rfl, rfl⟩
      go_wp2_with fail
      refine (hs2 _).mono ?_
      rintro e w' ⟨rfl, rfl⟩
      go_wp2_with fail
      refine (hs3 _).mono ?_
      rintro e w' ⟨rfl, rfl⟩
      go_wp2_with fail
      go_ret
      exact ⟨ret_bool (by rw [← HR.out]; simp), HB0.out⟩
set_option linter.unusedSimpArgs false in
set_option linter.unusedVariables false in
set_option maxHeartbeats 2000000 in
set_option maxRecDepth 100000 in
theorem stepOk_k6 (s : Stp) (w : World) (h1 : small s.a = true) (h2 : small s.b = true) (h3 : small s.c = true) (hk : s.k = 6) :
    Calls Tryz.prog 52 #[.agg #[.int .i64 s.k, .int .i64 s.dk, .int .i64 s.dn, .int .i64 s.dt, .int .i64 s.dm, .int .i64 s.a, .int .i64 s.b, .int .i64 s.c]] w (Says (.bool (stepOk s)) w) := by
  obtain ⟨k, dk, dn, dt, dm, a, b, c⟩ := s
  have hs1 := fun w => l16Small_any a w
  have hs2 := fun w => l16Small_any b w
  have hs3 := fun w => l16Small_any c w
  have hde := fun w => deed_eql dk dn dt dm w
  have hdo := fun w => specDeedOk_any dk dn dt dm w
  have hin := fun w => l1In_any c 1 255 w
  obtain ⟨wb, hwb⟩ : ∃ wb, wb = w.alloc (.cells #[.int .i64 k, .int .i64 dk, .int .i64 dn, .int .i64 dt, .int .i64 dm, .int .i64 a, .int .i64 b, .int .i64 c] 62) := ⟨_, rfl⟩
  obtain ⟨g, hg⟩ : ∃ g, g = w.heap.size := ⟨_, rfl⟩
  have hbox : Blk wb g 62 #[.int .i64 k, .int .i64 dk, .int .i64 dn, .int .i64 dt, .int .i64 dm, .int .i64 a, .int .i64 b, .int .i64 c] := by rw [hwb, hg]; exact Blk.new _ _ _
  have hb0 : Below w.heap.size w wb := by rw [hwb]; exact (Below.refl _ _).alloc (Nat.le_refl _) _
  have HB0 := Lib.hid hb0
  have d0 := hbox.cell 0; have d1 := hbox.cell 1; have d2 := hbox.cell 2; have d3 := hbox.cell 3; have d4 := hbox.cell 4; have d5 := hbox.cell 5; have d6 := hbox.cell 6; have d7 := hbox.cell 7
  simp only at *
  obtain ⟨r, hr⟩ : ∃ r, stepOk ⟨k, dk, dn, dt, dm, a, b, c⟩ = r := ⟨_, rfl⟩
  rw [hr]
  unfold stepOk stepKind at hr
  simp only at hr
  rw [h1] at hs1 hr
  rw [h2] at hs2 hr
  rw [h3] at hs3 hr
  simp only [Bool.true_and] at hr
  subst hk
  rw [if_neg (by decide), if_neg (by decide), if_neg (by decide), if_pos rfl] at hr
  generalize noDeed dk dn dt dm = nb at hde hr
  generalize inB c 1 255 = cb at hin hr
  have HR := Lib.hid hr; clear hr h1 h2 h3
  rcases nb with _ | _
  ·
    go_enter Tryz.func52, Tryz.ntmps52
    go_upto_region 1 with fail
    rw [← hwb, ← hg]
    clear hwb hg
    go_wp2_with fail
    refine (hs1 _).mono ?_
    rintro e w' ⟨rfl, rfl⟩
    go_wp2_with fail
    refine (hs2 _).mono ?_
    rintro e w' ⟨rfl, rfl⟩
    go_wp2_with fail
    refine (hs3 _).mono ?_
    rintro e w' ⟨rfl, rfl⟩
    go_wp2_with fail
    go_ret
    exact ⟨ret_bool (by rw [← HR.out]; simp), HB0.out⟩
  ·
    go_enter Tryz.func52, Tryz.ntmps52
    go_upto_region 1 with fail
    rw [← hwb, ← hg]
    clear hwb hg
    go_wp2_with fail
    refine (hs1 _).mono ?_
    rintro e w' ⟨rfl, rfl⟩
    go_wp2_with fail
    refine (hs2 _).mono ?_
    rintro e w' ⟨rfl, rfl⟩
    go_wp2_with fail
    refine (hs3 _).mono ?_
    rintro e w' ⟨rfl, rfl⟩
    go_wp2_with fail
    refine (hin _).mono ?_
    rintro e w' ⟨rfl, rfl⟩
    go_wp2_with fail
    go_ret
    exact ⟨ret_bool (by rw [← HR.out]; simp), HB0.out⟩
set_option linter.unusedSimpArgs false in
set_option linter.unusedVariables false in
set_option maxHeartbeats 2000000 in
set_option maxRecDepth 100000 in
theorem stepOk_ko (s : Stp) (w : World) (h1 : small s.a = true) (h2 : small s.b = true) (h3 : small s.c = true) (hk : ¬ s.k = 1 ∧ ¬ s.k = 2 ∧ ¬ s.k = 3 ∧ ¬ s.k = 4 ∧ ¬ s.k = 5 ∧ ¬ s.k = 6 ∧ ¬ s.k = 7) :
    Calls Tryz.prog 52 #[.agg #[.int .i64 s.k, .int .i64 s.dk, .int .i64 s.dn, .int .i64 s.dt, .int .i64 s.dm, .int .i64 s.a, .int .i64 s.b, .int .i64 s.c]] w (Says (.bool (stepOk s)) w) := by
  obtain ⟨k, dk, dn, dt, dm, a, b, c⟩ := s
  have hs1 := fun w => l16Small_any a w
  have hs2 := fun w => l16Small_any b w
  have hs3 := fun w => l16Small_any c w
  have hde := fun w => deed_eql dk dn dt dm w
  have hdo := fun w => specDeedOk_any dk dn dt dm w
  have hin := fun w => l1In_any c 1 255 w
  obtain ⟨wb, hwb⟩ : ∃ wb, wb = w.alloc (.cells #[.int .i64 k, .int .i64 dk, .int .i64 dn, .int .i64 dt, .int .i64 dm, .int .i64 a, .int .i64 b, .int .i64 c] 62) := ⟨_, rfl⟩
  obtain ⟨g, hg⟩ : ∃ g, g = w.heap.size := ⟨_, rfl⟩
  have hbox : Blk wb g 62 #[.int .i64 k, .int .i64 dk, .int .i64 dn, .int .i64 dt, .int .i64 dm, .int .i64 a, .int .i64 b, .int .i64 c] := by rw [hwb, hg]; exact Blk.new _ _ _
  have hb0 : Below w.heap.size w wb := by rw [hwb]; exact (Below.refl _ _).alloc (Nat.le_refl _) _
  have HB0 := Lib.hid hb0
  have d0 := hbox.cell 0; have d1 := hbox.cell 1; have d2 := hbox.cell 2; have d3 := hbox.cell 3; have d4 := hbox.cell 4; have d5 := hbox.cell 5; have d6 := hbox.cell 6; have d7 := hbox.cell 7
  simp only at *
  obtain ⟨r, hr⟩ : ∃ r, stepOk ⟨k, dk, dn, dt, dm, a, b, c⟩ = r := ⟨_, rfl⟩
  rw [hr]
  unfold stepOk stepKind at hr
  simp only at hr
  rw [h1] at hs1 hr
  rw [h2] at hs2 hr
  rw [h3] at hs3 hr
  simp only [Bool.true_and] at hr
  obtain ⟨n1, n2, n3, n4, n5, n6, n7⟩ := hk
  rw [if_neg n1, if_neg n2, if_neg (by omega), if_neg n6] at hr
  generalize noDeed dk dn dt dm = nb at hde
  have q1 : (k == 1) = false := by simpa using n1
  have q2 : (k == 2) = false := by simpa using n2
  have q3 : (k == 3) = false := by simpa using n3
  have q4 : (k == 4) = false := by simpa using n4
  have q5 : (k == 5) = false := by simpa using n5
  have q6 : (k == 6) = false := by simpa using n6
  have q7 : (k == 7) = false := by simpa using n7
  subst hr
  clear n1 n2 n3 n4 n5 n6 n7 h1 h2 h3
  go_enter Tryz.func52, Tryz.ntmps52
  go_upto_region 1 with fail
  rw [← hwb, ← hg]
  clear hwb hg
  go_wp2_with fail
  refine (hs1 _).mono ?_
  rintro e w' ⟨rfl, rfl⟩
  go_wp2_with fail
  refine (hs2 _).mono ?_
  rintro e w' ⟨rfl, rfl⟩
  go_wp2_with fail
  refine (hs3 _).mono ?_
  rintro e w' ⟨rfl, rfl⟩
  go_wp2_with fail
  go_ret
  exact ⟨rfl, HB0.out⟩
theorem specStepOk_any (s : Stp) (w : World) :
    Calls Tryz.prog 52 #[.agg #[.int .i64 s.k, .int .i64 s.dk, .int .i64 s.dn, .int .i64 s.dt, .int .i64 s.dm, .int .i64 s.a, .int .i64 s.b, .int .i64 s.c]] w (Says (.bool (stepOk s)) w) := by
  cases h1 : small s.a with
  | false => exact stepOk_s0 s w h1
  | true =>
    cases h2 : small s.b with
    | false => exact stepOk_s1 s w h1 h2
    | true =>
      cases h3 : small s.c with
      | false => exact stepOk_s2 s w h1 h2 h3
      | true =>
        by_cases k1 : s.k = 1
        · exact stepOk_k1 s w h1 h2 h3 k1
        by_cases k2 : s.k = 2
        · exact stepOk_k2 s w h1 h2 h3 k2
        by_cases k3 : s.k = 3
        · exact stepOk_k3 s w h1 h2 h3 k3
        by_cases k4 : s.k = 4
        · exact stepOk_k4 s w h1 h2 h3 k4
        by_cases k5 : s.k = 5
        · exact stepOk_k5 s w h1 h2 h3 k5
        by_cases k6 : s.k = 6
        · exact stepOk_k6 s w h1 h2 h3 k6
        by_cases k7 : s.k = 7
        · exact stepOk_k7 s w h1 h2 h3 k7
        exact stepOk_ko s w h1 h2 h3 ⟨k1, k2, k3, k4, k5, k6, k7⟩
end Go.Proofs.YtoniahfdjhhalaaGreat
