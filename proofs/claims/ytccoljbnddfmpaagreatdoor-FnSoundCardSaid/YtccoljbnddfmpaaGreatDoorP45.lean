/- Texts of this claim, put together. -/
import Derived.Test.YtccoljbnddfmpaaGreatDoorP1
import Derived.Test.YtccoljbnddfmpaaGreatDoorP5
import Derived.Test.YtccoljbnddfmpaaGreatDoorP41
import Derived.Test.YtccoljbnddfmpaaGreatDoorP43
import Derived.Test.YtccoljbnddfmpaaGreatDoorP44
import Derived.Deep.RegionHeld3
import Derived.BigRegion

namespace Go.Proofs.YtccoljbnddfmpaaGreatDoor
open Go.RowKit
def TriedR (a0 a1 : Addr) (c : Int) (k nd t m : Int) (out : List Ent) (w : World) (e : Ending) (w' : World) : Prop :=
  ∃ (v err : Value), e = .returned (.tuple #[v, err]) ∧ Below w.heap.size w w' ∧
    ((c = 0 ∧ err = .nilIface ∧ OwnE w.heap.size w' v out) ∨ (v = .slice none 0 0 ∧ ∃ why, Why a0 a1 c why ∧ err = .iface 90 (.agg #[.int .i64 k, .int .i64 nd, .int .i64 t, .int .i64 m, why])))
theorem wf_of_ok {x : Ent} (h : x.ok = true) : x.wf := by
  have := Ent.ok_all h
  refine ⟨?_, ?_, ?_, ?_⟩ <;> (unfold I64; omega)
theorem code_zero {es : List Ent} {k nd t m : Int} (h : doneCode es k nd t m = 0) : bookOk es = true ∧ (deedEnt es k nd t m).ok = true ∧ deedOk k nd t m = true ∧ doneR es k nd t m = (putE es (deedEnt es k nd t m), 0) := by
  unfold doneCode at h
  split at h
  · rename_i hh
    unfold doneR at h ⊢
    split at h
    · cases h
    · rename_i h1
      rw [if_neg h1]
      split at h
      · rename_i h2
        rw [if_pos h2]
        exact ⟨hh.1, h2, hh.2, rfl⟩
      · cases h
  · cases h
set_option maxHeartbeats 4000000 in
set_option maxRecDepth 100000 in
theorem tried_any (B : Nat) (ao : Option Addr) (n cap : Nat) (es : List Ent) (k nd t m : Int) (a0 a1 : Addr) (w : World) (hx : Ents B w ao n cap es) (hz : ao = none → cap = 0) (hB : B ≤ w.heap.size) (hE : Errs w a0 a1) :
    Calls Tryz.prog 26 #[.slice ao n cap, .agg #[.int .i64 k, .int .i64 nd, .int .i64 t, .int .i64 m]] w (TriedR a0 a1 (doneCode es k nd t m) k nd t m (putE es (deedEnt es k nd t m)) w) := by
  obtain ⟨wb, hwb⟩ : ∃ wb, wb = w.alloc (.cells #[.int .i64 k, .int .i64 nd, .int .i64 t, .int .i64 m] 26) := ⟨_, rfl⟩
  have hb0 : Below w.heap.size w wb := by rw [hwb]; exact (Below.refl _ _).alloc (Nat.le_refl _) _
  have hs0 := hb0.size
  have hk0 : Blk wb w.heap.size 26 #[.int .i64 k, .int .i64 nd, .int .i64 t, .int .i64 m] := by rw [hwb]; exact Blk.new _ _ _
  have h1 := changedBy_any B ao n cap es k nd t m a0 a1 wb (hx.below hb0 hB (Nat.le_refl B)) (by omega) (hE.below hb0 (Nat.le_refl _))
  have hcz : doneCode es k nd t m = 0 → bookOk es = true ∧ (deedEnt es k nd t m).ok = true := fun h => ⟨(code_zero h).1, (code_zero h).2.1⟩
  generalize deedEnt es k nd t m = x at h1 hcz
  generalize doneCode es k nd t m = c at h1 hcz
  have hxm : ∀ w', Below w.heap.size w w' → Ents B w' ao n cap es ∧ B ≤ w'.heap.size := fun w' hb => ⟨hx.below hb hB (Nat.le_refl B), by have := hb.size; omega⟩
  have HX := Lib.hid hxm; clear hxm hx hE
  have d0 := hk0.cell 0; have d1 := hk0.cell 1; have d2 := hk0.cell 2; have d3 := hk0.cell 3
  go_enter Tryz.func26, Tryz.ntmps26
  go_upto_region 1 with fail
  rw [← hwb]
  clear hwb
  go_wp2_with fail
  refine h1.mono ?_
  rintro e w1 ⟨y, why, rfl, hb1, hcase⟩
  have hk1 := hk0.below hb1 hk0.lt
  have hB1 := hb0.trans (hb1.mono hs0)
  have hs1 := hB1.size
  clear d0 d1 d2 d3 h1
  rcases hcase with ⟨hc, rfl, rfl⟩ | hwhy
  · obtain ⟨hbk, hyk⟩ := hcz hc
    have hxw := wf_of_ok hyk
    have hpw := put_wf (book_wf hbk) hxw
    clear hcz hk0 hk1
    obtain ⟨wy, hwy⟩ : ∃ wy, wy = w1.alloc (.cells #[.int .i64 y.o, .int .i64 y.s, .int .i64 y.a, .int .i64 y.d] 47) := ⟨_, rfl⟩
    have hky : Blk wy w1.heap.size 47 #[.int .i64 y.o, .int .i64 y.s, .int .i64 y.a, .int .i64 y.d] := by
      rw [hwy]
      exact Blk.new _ _ _
    have hby : Below w1.heap.size w1 wy := by
      rw [hwy]
      exact (Below.refl _ _).alloc (Nat.le_refl _) _
    have hlt := hky.lt
    have hBy := hB1.trans (hby.mono hs1)
    have hsy := hBy.size
    have HD : Hid (∀ w', Below wy.heap.size wy w' → Blk w' w1.heap.size 47 #[.int .i64 y.o, .int .i64 y.s, .int .i64 y.a, .int .i64 y.d]) := Lib.hid (fun w' h => hky.below h hlt)
    have hkw := fun wA (h : Below wy.heap.size wy wA) => keyedWith_any B ao n cap es y wA (HX.out _ (hBy.trans (h.mono hsy))).1 hz (HX.out _ (hBy.trans (h.mono hsy))).2 hbk hxw
    obtain ⟨pe, hpe⟩ : ∃ pe, putE es y = pe := ⟨_, rfl⟩
    rw [hpe] at hkw hpw
    have HW := Lib.hid hkw; clear hkw
    have HPE := Lib.hid hpe; clear hpe
    go_upto_region 2 with fail
    rw [← hwy]
    clear hwy
    have p0 := hky.cell 0; have p1 := hky.cell 1; have p2 := hky.cell 2; have p3 := hky.cell 3
    go_wp2_with fail
    go_region_held3 (fun w' => w'.cell? ⟨w1.heap.size, 0, none⟩ = some (.int .i64 y.o) ∧ w'.cell? ⟨w1.heap.size, 1, none⟩ = some (.int .i64 y.s) ∧ w'.cell? ⟨w1.heap.size, 2, none⟩ = some (.int .i64 y.a) ∧ w'.cell? ⟨w1.heap.size, 3, none⟩ = some (.int .i64 y.d))
      (first | exact ⟨(HD.out _ HBB).cell 0, (HD.out _ HBB).cell 1, (HD.out _ HBB).cell 2, (HD.out _ HBB).cell 3⟩ | exact ⟨(HD.out _ HBA).cell 0, (HD.out _ HBA).cell 1, (HD.out _ HBA).cell 2, (HD.out _ HBA).cell 3⟩ | exact ⟨p0, p1, p2, p3⟩)
      (first
        | (go_at_call 50; refine (entriesByKey_any _ _ _ _).mono ?_; rintro e wA ⟨rfl, hbA⟩; have HBA := (Below.refl wy.heap.size wy).drew.trans hbA)
        | (go_at_call 51; refine (HW.out _ HBA).mono ?_; rintro e wC ⟨v, rfl, hown, hbC⟩; have HBB := HBA.trans (hbC.mono HBA.size); have hownS := hown))
    have hsA := HBA.size
    clear p0 p1 p2 p3
    go_wp2_with fail
    go_ret2
    exact ⟨_, _, rfl, hBy.trans (HBB.mono hsy), .inl ⟨hc, rfl, by rw [HPE.out]; exact hownS.mono (by omega)⟩⟩
  · obtain ⟨wy, hwy⟩ : ∃ wy, wy = w1.alloc (.cells #[.int .i64 y.o, .int .i64 y.s, .int .i64 y.a, .int .i64 y.d] 47) := ⟨_, rfl⟩
    have hby : Below w1.heap.size w1 wy := by
      rw [hwy]
      exact (Below.refl _ _).alloc (Nat.le_refl _) _
    have hky := hk1.below hby hk1.lt
    have hBy := hB1.trans (hby.mono hs1)
    have p0 := hky.cell 0; have p1 := hky.cell 1; have p2 := hky.cell 2; have p3 := hky.cell 3
    clear hcz hk0 hk1
    obtain ⟨why0, hwe⟩ : ∃ x, x = why := ⟨_, rfl⟩
    have hwhy0 : Why a0 a1 c why0 := by rw [hwe]; exact hwhy
    have HWE := Lib.hid hwe; clear hwe
    rcases hwhy with ⟨-, rfl⟩ | ⟨-, p, q, rfl⟩ | ⟨-, rfl⟩
    all_goals
      go_upto_region 2 with fail
      rw [← hwy]
      clear hwy
      go_wp2_with fail
      go_region
      go_wp2_with fail
      go_ret2
      exact ⟨_, _, rfl, hBy.drew, .inr ⟨rfl, why0, hwhy0, by rw [HWE.out]; rfl⟩⟩
end Go.Proofs.YtccoljbnddfmpaaGreatDoor

namespace Go.Proofs.YtccoljbnddfmpaaGreatDoor
open Go.RowKit Go.Extern.Stop Go.Stop Go.Extern
set_option maxHeartbeats 4000000 in
set_option maxRecDepth 100000 in
theorem is_same (k n t m : Int) (a : Addr) (w : World) :
    Calls Tryz.prog 52 #[.iface 90 (.agg #[.int .i64 k, .int .i64 n, .int .i64 t, .int .i64 m, .iface 195 (.pointer (some a))]), .iface 195 (.pointer (some a))] w fun e w' => e = .returned (.bool true) ∧ w' = w.alloc (.cells #[.int .i64 k, .int .i64 n, .int .i64 t, .int .i64 m, .iface 195 (.pointer (some a))] 90) := by
  obtain ⟨i, hi, hcmp⟩ := Option.map_eq_some_iff.1 Tryz.isComp
  obtain ⟨j, hj, hjs⟩ := Option.map_eq_some_iff.1 Tryz.isSize
  have h8 := @run_callFunc_extern Tryz.prog 88 _ Extern.ReflectliteType.typeOf Tryz.func88 (by kernel_rfl) (by kernel_rfl) (by kernel_rfl) (by kernel_rfl)
  have h32 := @run_callFunc_extern Tryz.prog 160 _ (Extern.ReflectliteType.method fun t => do Rtype.noPackHeld "Comparable" t; pure (.bool (← typeInfo t).comparable)) Tryz.func160 (by kernel_rfl) (by kernel_rfl) (by kernel_rfl) (by kernel_rfl)
  have tT := Tryz.isTypeOf
  have cT := Tryz.isComparable
  have mR := Tryz.isMethodComparable
  have nR := Tryz.noIsR
  have uR := Tryz.hasUnwrapR
  have mU := Tryz.methodUnwrapR
  have heq := run_eql_iface_ptr_same (P := Tryz.prog) (w.alloc (.cells #[.int .i64 k, .int .i64 n, .int .i64 t, .int .i64 m, .iface 195 (.pointer (some a))] 90)) a Tryz.underlying57 Tryz.underlying195 hi hcmp hj
  have hty := fun w => run_eql_iface_types (P := Tryz.prog) 90 195 (.agg #[.int .i64 k, .int .i64 n, .int .i64 t, .int .i64 m, .iface 195 (.pointer (some a))]) (.pointer (some a)) Tryz.underlying57 (by decide) w
  go_enter Tryz.func52, Tryz.ntmps52
  go_wp2
  refine wp_loop_rounds 2 ?_
  rw [rounds_succ]
  go_wp2
  rw [rounds_succ]
  go_wp2
  go_ret
  exact ⟨rfl, rfl⟩
set_option maxHeartbeats 4000000 in
set_option maxRecDepth 100000 in
theorem is_other (k n t m : Int) (a b : Addr) (ca cb : Array Value) (ta tb : TypeId) (w : World) (hne : a ≠ b) (ha : w.heap[a.block]? = some (.cells ca ta (0, 0))) (hb : w.heap[b.block]? = some (.cells cb tb (0, 0))) :
    Calls Tryz.prog 52 #[.iface 90 (.agg #[.int .i64 k, .int .i64 n, .int .i64 t, .int .i64 m, .iface 195 (.pointer (some a))]), .iface 195 (.pointer (some b))] w fun e w' => e = .returned (.bool false) ∧ w' = w.alloc (.cells #[.int .i64 k, .int .i64 n, .int .i64 t, .int .i64 m, .iface 195 (.pointer (some a))] 90) := by
  obtain ⟨i, hi, hcmp⟩ := Option.map_eq_some_iff.1 Tryz.isComp
  obtain ⟨j, hj, hjs⟩ := Option.map_eq_some_iff.1 Tryz.isSize
  have h8 := @run_callFunc_extern Tryz.prog 88 _ Extern.ReflectliteType.typeOf Tryz.func88 (by kernel_rfl) (by kernel_rfl) (by kernel_rfl) (by kernel_rfl)
  have h32 := @run_callFunc_extern Tryz.prog 160 _ (Extern.ReflectliteType.method fun t => do Rtype.noPackHeld "Comparable" t; pure (.bool (← typeInfo t).comparable)) Tryz.func160 (by kernel_rfl) (by kernel_rfl) (by kernel_rfl) (by kernel_rfl)
  have tT := Tryz.isTypeOf
  have cT := Tryz.isComparable
  have mR := Tryz.isMethodComparable
  have nR := Tryz.noIsR
  have uR := Tryz.hasUnwrapR
  have mU := Tryz.methodUnwrapR
  have nE := Tryz.noIsE
  have uE := Tryz.noUnwrapE
  have vE := Tryz.noUnwrapsE
  have la := (Array.getElem?_eq_some_iff.1 ha).1
  have lb := (Array.getElem?_eq_some_iff.1 hb).1
  have heq := run_eql_iface_ptr_other (P := Tryz.prog) (w.alloc (.cells #[.int .i64 k, .int .i64 n, .int .i64 t, .int .i64 m, .iface 195 (.pointer (some a))] 90)) Tryz.underlying57 Tryz.underlying195 hi hcmp hj (by rw [hjs]; decide) hne ((Below.heap_alloc w _ _ la).trans ha) ((Below.heap_alloc w _ _ lb).trans hb)
  have hty := fun w => run_eql_iface_types (P := Tryz.prog) 90 195 (.agg #[.int .i64 k, .int .i64 n, .int .i64 t, .int .i64 m, .iface 195 (.pointer (some a))]) (.pointer (some b)) Tryz.underlying57 (by decide) w
  go_enter Tryz.func52, Tryz.ntmps52
  go_wp2
  refine wp_loop_rounds 2 ?_
  rw [rounds_succ]
  go_wp2
  rw [rounds_succ]
  go_wp2
  go_ret
  exact ⟨rfl, rfl⟩
set_option maxHeartbeats 4000000 in
set_option maxRecDepth 100000 in
theorem is_limit (k n t m p q : Int) (b : Addr) (w : World) :
    Calls Tryz.prog 52 #[.iface 90 (.agg #[.int .i64 k, .int .i64 n, .int .i64 t, .int .i64 m, .iface 97 (.agg #[.int .i64 p, .int .i64 q])]), .iface 195 (.pointer (some b))] w fun e w' => e = .returned (.bool false) ∧ w' = w.alloc (.cells #[.int .i64 k, .int .i64 n, .int .i64 t, .int .i64 m, .iface 97 (.agg #[.int .i64 p, .int .i64 q])] 90) := by
  obtain ⟨i, hi, hcmp⟩ := Option.map_eq_some_iff.1 Tryz.isComp
  obtain ⟨j, hj, hjs⟩ := Option.map_eq_some_iff.1 Tryz.isSize
  have h8 := @run_callFunc_extern Tryz.prog 88 _ Extern.ReflectliteType.typeOf Tryz.func88 (by kernel_rfl) (by kernel_rfl) (by kernel_rfl) (by kernel_rfl)
  have h32 := @run_callFunc_extern Tryz.prog 160 _ (Extern.ReflectliteType.method fun t => do Rtype.noPackHeld "Comparable" t; pure (.bool (← typeInfo t).comparable)) Tryz.func160 (by kernel_rfl) (by kernel_rfl) (by kernel_rfl) (by kernel_rfl)
  have tT := Tryz.isTypeOf
  have cT := Tryz.isComparable
  have mR := Tryz.isMethodComparable
  have nR := Tryz.noIsR
  have uR := Tryz.hasUnwrapR
  have mU := Tryz.methodUnwrapR
  have nL := Tryz.noIsL
  have uL := Tryz.noUnwrapL
  have vL := Tryz.noUnwrapsL
  have hty := fun w => run_eql_iface_types (P := Tryz.prog) 90 195 (.agg #[.int .i64 k, .int .i64 n, .int .i64 t, .int .i64 m, .iface 97 (.agg #[.int .i64 p, .int .i64 q])]) (.pointer (some b)) Tryz.underlying57 (by decide) w
  have hty2 := fun w => run_eql_iface_types (P := Tryz.prog) 97 195 (.agg #[.int .i64 p, .int .i64 q]) (.pointer (some b)) Tryz.underlying57 (by decide) w
  go_enter Tryz.func52, Tryz.ntmps52
  go_wp2
  refine wp_loop_rounds 2 ?_
  rw [rounds_succ]
  go_wp2
  rw [rounds_succ]
  go_wp2
  go_ret
  exact ⟨rfl, rfl⟩
end Go.Proofs.YtccoljbnddfmpaaGreatDoor

namespace Go.Proofs.YtccoljbnddfmpaaGreatDoor
open Go.RowKit Go.Extern.Stop Go.Stop Go.Extern
set_option maxRecDepth 100000 in
theorem Tryz.setL (g b : Nat) (p q : Int) (u0 u1 : Value) (W : World) (hb : Blk W b 97 #[.int .i64 p, .int .i64 q]) (hg : Blk W g 97 #[u0, u1]) :
    (ReflectliteValue.set #[.agg #[.pointer (some ⟨3, 97, none⟩), .pointer (some ⟨g, 0, none⟩), .int .u64 409], .agg #[.pointer (some ⟨3, 97, none⟩), .pointer (some ⟨b, 0, none⟩), .int .u64 153]]).run Tryz.prog W
      = .ok (.tuple #[]) ((W.setCell ⟨g, 0, none⟩ (.int .i64 p)).setCell ⟨g, 1, none⟩ (.int .i64 q)) := by
  have b0 := hb.cell 0
  have b1 := hb.cell 1
  have g0 := hg.cell 0
  have f0 := hg.frozen 0
  have h2 := hg.set_ 0 (.int .i64 p)
  have g1 := h2.cell 1
  have f1 := h2.frozen 1
  simp at b0 b1 g0 g1
  rw [show ∀ v x, ReflectliteValue.set #[v, x] = Bind.bind (ReflectliteValue.parts v) _ from fun _ _ => rfl]
  have el : ∀ (a b : Value) (h1 : (#[a, b] : Array Value).size = 2) (h2 : 1 < 2), (#[a, b] : Array Value).getLit (n := 2) 1 h1 h2 = b := fun _ _ _ _ => rfl
  simp only [el, Sem.run_bind, Tryz.partsLa, Tryz.partsL, Result.andThen]
  have hl : (loadVar 97 ⟨b, 0, none⟩).run Tryz.prog W = .ok (.agg #[.int .i64 p, .int .i64 q]) W := by
    simp [loadVar, isAgg, underlying, Tryz.underlying97, Result.andThen, loadCells, loadCellsFrom, Addr.add, b0, b1]
  simp [ReflectliteValue.flagAddr, hl, Result.andThen, Tryz.directL, storeVar, Value.cells, storeCells, Addr.add]
  rw [run_store Tryz.prog W _ _ _ (by rfl)]
  simp [g0, f0]
  rw [run_store Tryz.prog _ _ _ _ (by rfl)]
  simp [g1, f1]
end Go.Proofs.YtccoljbnddfmpaaGreatDoor

namespace Go.Proofs.YtccoljbnddfmpaaGreatDoor
open Go.RowKit Go.Extern.Stop Go.Stop Go.Extern
set_option maxHeartbeats 4000000 in
set_option maxRecDepth 100000 in
theorem as_other (B g : Nat) (u0 u1 : Value) (k n t m : Int) (b : Addr) (w : World) (hgl : w.cell? ⟨2, 0, none⟩ = some (.iface 160 (.agg #[.pointer (some ⟨3, 57, none⟩)]))) (ht : Blk w g 97 #[u0, u1]) (hgB : B ≤ g) :
    Calls Tryz.prog 53 #[.iface 90 (.agg #[.int .i64 k, .int .i64 n, .int .i64 t, .int .i64 m, .iface 195 (.pointer (some b))]), .iface 100 (.pointer (some ⟨g, 0, none⟩))] w fun e w' => e = .returned (.bool false) ∧ Below B w w' := by
  have hlt := cell_lt hgl
  have htl := ht.lt
  have h6 := @run_callFunc_extern Tryz.prog 90 _ (fun args => ReflectliteValue.unpack (args.getD 0 (.tuple #[]))) Tryz.func90 (by kernel_rfl) (by kernel_rfl) (by kernel_rfl) (by kernel_rfl)
  have h7 := @run_callFunc_extern Tryz.prog 91 _ (ReflectliteValue.methodAny (ReflectliteValue.valueError "reflectlite.Value.Type" 0) (fun t _ _ _ => ReflectliteType.toType t)) Tryz.func91 (by kernel_rfl) (by kernel_rfl) (by kernel_rfl) (by kernel_rfl)
  have h8 := @run_callFunc_extern Tryz.prog 92 _ (ReflectliteValue.method (ReflectliteValue.valueError "reflectlite.Value.IsNil" 0) ReflectliteValue.isNil) Tryz.func92 (by kernel_rfl) (by kernel_rfl) (by kernel_rfl) (by kernel_rfl)
  have h27 := @run_callFunc_extern Tryz.prog 149 _ (ReflectliteType.abiMethod fun t => do pure (.int .u8 (← Rtype.kind t))) Tryz.func149 (by kernel_rfl) (by kernel_rfl) (by kernel_rfl) (by kernel_rfl)
  have h37 := @run_callFunc_extern Tryz.prog 161 _ (ReflectliteType.method ReflectliteType.elem) Tryz.func161 (by kernel_rfl) (by kernel_rfl) (by kernel_rfl) (by kernel_rfl)
  have h38 := @run_callFunc_extern Tryz.prog 162 _ (ReflectliteType.relation "Implements" ReflectliteType.implements_) Tryz.func162 (by kernel_rfl) (by kernel_rfl) (by kernel_rfl) (by kernel_rfl)
  have h10 := @run_callFunc_extern Tryz.prog 88 _ ReflectliteType.typeOf Tryz.func88 (by kernel_rfl) (by kernel_rfl) (by kernel_rfl) (by kernel_rfl)
  have h35 := @run_callFunc_extern Tryz.prog 159 _ (ReflectliteType.relation "AssignableTo" ReflectliteType.assignableTo) Tryz.func159 (by kernel_rfl) (by kernel_rfl) (by kernel_rfl) (by kernel_rfl)
  have h11 := @run_callFunc_extern Tryz.prog 114 _ (ReflectliteValue.method (ReflectliteValue.valueError "reflectlite.Value.Elem" 0) ReflectliteValue.elem) Tryz.func114 (by kernel_rfl) (by kernel_rfl) (by kernel_rfl) (by kernel_rfl)
  have h12 := @run_callFunc_extern Tryz.prog 115 _ ReflectliteValue.set Tryz.func115 (by kernel_rfl) (by kernel_rfl) (by kernel_rfl) (by kernel_rfl)
  have x0 := Tryz.valueOfT
  have x1 := Tryz.typeT
  have x2 := Tryz.methodKind
  have x3 := Tryz.kindT
  have x4 := Tryz.kindL
  have x5 := Tryz.methodElem
  have x6 := Tryz.methodImplements
  have x7 := Tryz.methodAssignableTo
  have x8 := Tryz.elemT
  have x9 := Tryz.implementsL
  have x10 := Tryz.typeOfR
  have x11 := Tryz.assignR
  have x12 := Tryz.noAsR
  have x13 := Tryz.hasUnwrapR
  have x14 := Tryz.methodUnwrapR
  have n8 := Tryz.isNilT ⟨w.heap.size, 0, none⟩ ⟨g, 0, none⟩ ((w.alloc (.cells #[.pointer (some ⟨g, 0, none⟩)] 100)).alloc (.cells #[.pointer (some ⟨3, 100, none⟩), .pointer (some ⟨w.heap.size, 0, none⟩), .int .u64 150] 134)) (by simp)
  have hg2 : ((w.alloc (.cells #[.pointer (some ⟨g, 0, none⟩)] 100)).alloc (.cells #[.pointer (some ⟨3, 100, none⟩), .pointer (some ⟨w.heap.size, 0, none⟩), .int .u64 150] 134)).cell? ⟨2, 0, none⟩ = some (.iface 160 (.agg #[.pointer (some ⟨3, 57, none⟩)])) := by
    rw [World.cell?_alloc_lt _ _ _ (by simp; simp at hlt; omega), World.cell?_alloc_lt _ _ _ hlt]; exact hgl
  have y0 := Tryz.noAsE
  have y1 := Tryz.noUnwrapE
  have y2 := Tryz.noUnwrapsE
  have y3 := Tryz.isTypeOf
  have y4 := Tryz.assignE
  go_enter Tryz.func53, Tryz.ntmps53
  go_wp2
  refine wp_loop_rounds 2 ?_
  rw [rounds_succ]
  go_wp2
  rw [rounds_succ]
  go_wp2
  go_ret
  exact ⟨rfl, (((((Below.refl _ _).alloc (by omega) _).alloc (by simp; omega) _).alloc (by simp; omega) _).alloc (by simp; omega) _)⟩
set_option maxHeartbeats 4000000 in
set_option maxRecDepth 100000 in
theorem as_limit (B g : Nat) (u0 u1 : Value) (k n t m p q : Int) (w : World) (hgl : w.cell? ⟨2, 0, none⟩ = some (.iface 160 (.agg #[.pointer (some ⟨3, 57, none⟩)]))) (ht : Blk w g 97 #[u0, u1]) (hgB : B ≤ g) :
    Calls Tryz.prog 53 #[.iface 90 (.agg #[.int .i64 k, .int .i64 n, .int .i64 t, .int .i64 m, .iface 97 (.agg #[.int .i64 p, .int .i64 q])]), .iface 100 (.pointer (some ⟨g, 0, none⟩))] w fun e w' => e = .returned (.bool true) ∧ Below B w w' := by
  have hlt := cell_lt hgl
  have htl := ht.lt
  have h6 := @run_callFunc_extern Tryz.prog 90 _ (fun args => ReflectliteValue.unpack (args.getD 0 (.tuple #[]))) Tryz.func90 (by kernel_rfl) (by kernel_rfl) (by kernel_rfl) (by kernel_rfl)
  have h7 := @run_callFunc_extern Tryz.prog 91 _ (ReflectliteValue.methodAny (ReflectliteValue.valueError "reflectlite.Value.Type" 0) (fun t _ _ _ => ReflectliteType.toType t)) Tryz.func91 (by kernel_rfl) (by kernel_rfl) (by kernel_rfl) (by kernel_rfl)
  have h8 := @run_callFunc_extern Tryz.prog 92 _ (ReflectliteValue.method (ReflectliteValue.valueError "reflectlite.Value.IsNil" 0) ReflectliteValue.isNil) Tryz.func92 (by kernel_rfl) (by kernel_rfl) (by kernel_rfl) (by kernel_rfl)
  have h27 := @run_callFunc_extern Tryz.prog 149 _ (ReflectliteType.abiMethod fun t => do pure (.int .u8 (← Rtype.kind t))) Tryz.func149 (by kernel_rfl) (by kernel_rfl) (by kernel_rfl) (by kernel_rfl)
  have h37 := @run_callFunc_extern Tryz.prog 161 _ (ReflectliteType.method ReflectliteType.elem) Tryz.func161 (by kernel_rfl) (by kernel_rfl) (by kernel_rfl) (by kernel_rfl)
  have h38 := @run_callFunc_extern Tryz.prog 162 _ (ReflectliteType.relation "Implements" ReflectliteType.implements_) Tryz.func162 (by kernel_rfl) (by kernel_rfl) (by kernel_rfl) (by kernel_rfl)
  have h10 := @run_callFunc_extern Tryz.prog 88 _ ReflectliteType.typeOf Tryz.func88 (by kernel_rfl) (by kernel_rfl) (by kernel_rfl) (by kernel_rfl)
  have h35 := @run_callFunc_extern Tryz.prog 159 _ (ReflectliteType.relation "AssignableTo" ReflectliteType.assignableTo) Tryz.func159 (by kernel_rfl) (by kernel_rfl) (by kernel_rfl) (by kernel_rfl)
  have h11 := @run_callFunc_extern Tryz.prog 114 _ (ReflectliteValue.method (ReflectliteValue.valueError "reflectlite.Value.Elem" 0) ReflectliteValue.elem) Tryz.func114 (by kernel_rfl) (by kernel_rfl) (by kernel_rfl) (by kernel_rfl)
  have h12 := @run_callFunc_extern Tryz.prog 115 _ ReflectliteValue.set Tryz.func115 (by kernel_rfl) (by kernel_rfl) (by kernel_rfl) (by kernel_rfl)
  have x0 := Tryz.valueOfT
  have x1 := Tryz.typeT
  have x2 := Tryz.methodKind
  have x3 := Tryz.kindT
  have x4 := Tryz.kindL
  have x5 := Tryz.methodElem
  have x6 := Tryz.methodImplements
  have x7 := Tryz.methodAssignableTo
  have x8 := Tryz.elemT
  have x9 := Tryz.implementsL
  have x10 := Tryz.typeOfR
  have x11 := Tryz.assignR
  have x12 := Tryz.noAsR
  have x13 := Tryz.hasUnwrapR
  have x14 := Tryz.methodUnwrapR
  have n8 := Tryz.isNilT ⟨w.heap.size, 0, none⟩ ⟨g, 0, none⟩ ((w.alloc (.cells #[.pointer (some ⟨g, 0, none⟩)] 100)).alloc (.cells #[.pointer (some ⟨3, 100, none⟩), .pointer (some ⟨w.heap.size, 0, none⟩), .int .u64 150] 134)) (by simp)
  have hg2 : ((w.alloc (.cells #[.pointer (some ⟨g, 0, none⟩)] 100)).alloc (.cells #[.pointer (some ⟨3, 100, none⟩), .pointer (some ⟨w.heap.size, 0, none⟩), .int .u64 150] 134)).cell? ⟨2, 0, none⟩ = some (.iface 160 (.agg #[.pointer (some ⟨3, 57, none⟩)])) := by
    rw [World.cell?_alloc_lt _ _ _ (by simp; simp at hlt; omega), World.cell?_alloc_lt _ _ _ hlt]; exact hgl
  have y3 := Tryz.typeOfL
  have y4 := Tryz.assignL
  have y5 := Tryz.valueOfL
  have htW : Blk (((((w.alloc (.cells #[.pointer (some ⟨g, 0, none⟩)] 100)).alloc (.cells #[.pointer (some ⟨3, 100, none⟩), .pointer (some ⟨w.heap.size, 0, none⟩), .int .u64 150] 134)).alloc (.cells #[.pointer (some ⟨3, 100, none⟩), .pointer (some ⟨w.heap.size, 0, none⟩), .int .u64 150] 134)).alloc (.cells #[.int .i64 k, .int .i64 n, .int .i64 t, .int .i64 m, .iface 97 (.agg #[.int .i64 p, .int .i64 q])] 90)).alloc (.cells #[.int .i64 p, .int .i64 q] 97)) g 97 #[u0, u1] := ((((ht.alloc _).alloc _).alloc _).alloc _).alloc _
  have hbW : Blk (((((w.alloc (.cells #[.pointer (some ⟨g, 0, none⟩)] 100)).alloc (.cells #[.pointer (some ⟨3, 100, none⟩), .pointer (some ⟨w.heap.size, 0, none⟩), .int .u64 150] 134)).alloc (.cells #[.pointer (some ⟨3, 100, none⟩), .pointer (some ⟨w.heap.size, 0, none⟩), .int .u64 150] 134)).alloc (.cells #[.int .i64 k, .int .i64 n, .int .i64 t, .int .i64 m, .iface 97 (.agg #[.int .i64 p, .int .i64 q])] 90)).alloc (.cells #[.int .i64 p, .int .i64 q] 97)) (w.heap.size + 4) 97 #[.int .i64 p, .int .i64 q] := by
    have h := Blk.new ((((w.alloc (.cells #[.pointer (some ⟨g, 0, none⟩)] 100)).alloc (.cells #[.pointer (some ⟨3, 100, none⟩), .pointer (some ⟨w.heap.size, 0, none⟩), .int .u64 150] 134)).alloc (.cells #[.pointer (some ⟨3, 100, none⟩), .pointer (some ⟨w.heap.size, 0, none⟩), .int .u64 150] 134)).alloc (.cells #[.int .i64 k, .int .i64 n, .int .i64 t, .int .i64 m, .iface 97 (.agg #[.int .i64 p, .int .i64 q])] 90)) 97 #[.int .i64 p, .int .i64 q]
    simpa using h
  have st := Tryz.setL g (w.heap.size + 4) p q u0 u1 (((((w.alloc (.cells #[.pointer (some ⟨g, 0, none⟩)] 100)).alloc (.cells #[.pointer (some ⟨3, 100, none⟩), .pointer (some ⟨w.heap.size, 0, none⟩), .int .u64 150] 134)).alloc (.cells #[.pointer (some ⟨3, 100, none⟩), .pointer (some ⟨w.heap.size, 0, none⟩), .int .u64 150] 134)).alloc (.cells #[.int .i64 k, .int .i64 n, .int .i64 t, .int .i64 m, .iface 97 (.agg #[.int .i64 p, .int .i64 q])] 90)).alloc (.cells #[.int .i64 p, .int .i64 q] 97)) hbW htW
  have el := Tryz.elemVT ⟨w.heap.size, 0, none⟩ ⟨g, 0, none⟩ ((((w.alloc (.cells #[.pointer (some ⟨g, 0, none⟩)] 100)).alloc (.cells #[.pointer (some ⟨3, 100, none⟩), .pointer (some ⟨w.heap.size, 0, none⟩), .int .u64 150] 134)).alloc (.cells #[.pointer (some ⟨3, 100, none⟩), .pointer (some ⟨w.heap.size, 0, none⟩), .int .u64 150] 134)).alloc (.cells #[.int .i64 k, .int .i64 n, .int .i64 t, .int .i64 m, .iface 97 (.agg #[.int .i64 p, .int .i64 q])] 90)) (by
    rw [World.cell?_alloc_lt _ _ _ (by simp; omega), World.cell?_alloc_lt _ _ _ (by simp; omega), World.cell?_alloc_lt _ _ _ (by simp)]; simp)
  go_enter Tryz.func53, Tryz.ntmps53
  go_wp2
  refine wp_loop_rounds 2 ?_
  rw [rounds_succ]
  go_wp2
  rw [rounds_succ]
  go_wp2
  go_ret
  exact ⟨rfl, (((((((Below.refl _ _).alloc (by omega) _).alloc (by simp; omega) _).alloc (by simp; omega) _).alloc (by simp; omega) _).alloc (by simp; omega) _).setCell (p := ⟨g, 0, none⟩) hgB _).setCell (p := ⟨g, 1, none⟩) hgB _⟩
end Go.Proofs.YtccoljbnddfmpaaGreatDoor

namespace Go.Proofs.YtccoljbnddfmpaaGreatDoor
open Go.RowKit
set_option maxHeartbeats 1000000 in
set_option maxRecDepth 100000 in
theorem codeOf_nil (w : World) : Calls Tryz.prog 27 #[.nilIface] w (Says (.int .i64 0) w) := by
  go_enter Tryz.func27, Tryz.ntmps27
  go_wp2_with fail
  go_ret
  exact ⟨rfl, (Below.refl _ _).alloc (Nat.le_refl _) _⟩
set_option maxHeartbeats 2000000 in
set_option maxRecDepth 100000 in
theorem codeOf_why (a0 a1 : Addr) (k nd t m : Int) (c : Int) (why : Value) (w : World) (hE : Errs w a0 a1) (hw : Why a0 a1 c why) :
    Calls Tryz.prog 27 #[.iface 90 (.agg #[.int .i64 k, .int .i64 nd, .int .i64 t, .int .i64 m, why])] w (Says (.int .i64 c) w) := by
  obtain ⟨wb, hwb⟩ : ∃ wb, wb = w.alloc (.cells #[.int .i64 0, .int .i64 0] 97) := ⟨_, rfl⟩
  have hb0 : Below w.heap.size w wb := by rw [hwb]; exact (Below.refl _ _).alloc (Nat.le_refl _) _
  have hs0 : wb.heap.size = w.heap.size + 1 := by rw [hwb]; simp
  have hk0 : Blk wb w.heap.size 97 #[.int .i64 0, .int .i64 0] := by rw [hwb]; exact Blk.new _ _ _
  have hE0 := hE.below hb0 (Nat.le_refl _)
  have g0 := hE0.short
  have hp0 : ¬ w.heap.size = 0 := by have := cell_lt hE.short; omega
  clear hE
  rcases hw with ⟨rfl, rfl⟩ | ⟨rfl, p, q, rfl⟩ | ⟨rfl, rfl⟩
  · have h1 := fun w => is_same k nd t m a0 w
    go_enter Tryz.func27, Tryz.ntmps27
    go_upto_region 2 with fail
    rw [← hwb]
    clear hwb
    go_wp2_with fail
    refine (h1 _).mono ?_
    rintro e w1 ⟨rfl, rfl⟩
    go_wp2_with fail
    go_ret
    exact ⟨rfl, hb0.alloc (by omega) _⟩
  · have h1 := fun w => is_limit k nd t m p q a0 w
    obtain ⟨w1, hw1⟩ : ∃ w1, w1 = wb.alloc (.cells #[.int .i64 k, .int .i64 nd, .int .i64 t, .int .i64 m, .iface 97 (.agg #[.int .i64 p, .int .i64 q])] 90) := ⟨_, rfl⟩
    have hbw : Below wb.heap.size wb w1 := by rw [hw1]; exact (Below.refl _ _).alloc (Nat.le_refl _) _
    have hk1 := hk0.below hbw hk0.lt
    have hE1 := hE0.below hbw (Nat.le_refl _)
    have hs1 := hbw.size
    have h2 := as_limit w.heap.size w.heap.size _ _ k nd t m p q w1 hE1.type hk1 (Nat.le_refl _)
    go_enter Tryz.func27, Tryz.ntmps27
    go_upto_region 2 with fail
    rw [← hwb]
    clear hwb
    go_wp2_with fail
    refine (h1 _).mono ?_
    rintro e w' ⟨rfl, rfl⟩
    rw [← hw1]
    clear hw1
    go_wp2_with fail
    refine h2.mono ?_
    rintro e w2 ⟨rfl, hb2⟩
    go_wp2_with fail
    go_ret
    exact ⟨rfl, (hb0.trans (hbw.mono (by omega))).trans hb2⟩
  · obtain ⟨c0, t0, r0⟩ := hE0.row0
    obtain ⟨c1, t1, r1⟩ := hE0.row1
    have h1 := is_other k nd t m a1 a0 c1 c0 t1 t0 wb (fun e => hE0.ne e.symm) r1 r0
    obtain ⟨w1, hw1⟩ : ∃ w1, w1 = wb.alloc (.cells #[.int .i64 k, .int .i64 nd, .int .i64 t, .int .i64 m, .iface 195 (.pointer (some a1))] 90) := ⟨_, rfl⟩
    have hbw : Below wb.heap.size wb w1 := by rw [hw1]; exact (Below.refl _ _).alloc (Nat.le_refl _) _
    have hk1 := hk0.below hbw hk0.lt
    have hE1 := hE0.below hbw (Nat.le_refl _)
    have hs1 := hbw.size
    have h2 := as_other w.heap.size w.heap.size _ _ k nd t m a1 w1 hE1.type hk1 (Nat.le_refl _)
    clear r0 r1
    go_enter Tryz.func27, Tryz.ntmps27
    go_upto_region 2 with fail
    rw [← hwb]
    clear hwb
    go_wp2_with fail
    refine h1.mono ?_
    rintro e w' ⟨rfl, rfl⟩
    rw [← hw1]
    clear hw1
    go_wp2_with fail
    refine h2.mono ?_
    rintro e w2 ⟨rfl, hb2⟩
    go_wp2_with fail
    go_ret
    exact ⟨rfl, (hb0.trans (hbw.mono (by omega))).trans hb2⟩
end Go.Proofs.YtccoljbnddfmpaaGreatDoor

namespace Go.Proofs.YtccoljbnddfmpaaGreatDoor
open Go.RowKit
set_option maxHeartbeats 1000000 in
set_option maxRecDepth 100000 in
theorem cloneE_any (B : Nat) (ao : Option Addr) (n cap : Nat) (es : List Ent) (w : World) (hx : Ents B w ao n cap es) (hz : ao = none → cap = 0) (hB : B ≤ w.heap.size) (hn : n ≤ 1099511627776) :
    Calls Tryz.prog 28 #[.slice ao n cap] w (NewEs es w) := by
  rcases ao with _ | a
  · have hc := hz rfl
    have h1 := hx.hcap
    have h2 := hx.hlen
    subst hc
    have hn0 : n = 0 := by omega
    subst hn0
    have he : es = [] := List.eq_nil_of_length_eq_zero h2
    subst he
    have hN : ∀ w : World, (binOp .eql 24 (.slice none 0 0) (.slice none 0 0)).run Tryz.prog w = .ok (.bool true) w := fun _ => by kernel_rfl
    go_enter Tryz.func28, Tryz.ntmps28
    go_wp2_with fail
    go_ret
    exact ⟨_, rfl, ownE_nil _ _, Below.refl _ _⟩
  · have hN : ∀ w : World, (binOp .eql 24 (.slice (some a) n cap) (.slice none 0 0)).run Tryz.prog w = .ok (.bool false) w := fun _ => by kernel_rfl
    have hb0 : Below w.heap.size w (w.alloc (.cells #[] 47)) := (Below.refl _ _).alloc (Nat.le_refl _) _
    have hx1 := hx.below hb0 hB (Nat.le_refl B)
    have hs0 := hb0.size
    have ho0 := ownE_empty w
    go_enter Tryz.func28, Tryz.ntmps28
    go_wp2_with (at_builtin; refine appendE_all rfl _ _ rfl w.heap.size B _ [] es (some a) n cap rfl rfl hx1 hz ho0 hs0 (by simpa using hn) ?_; intro v1 w1 hown1 hb1)
    go_ret
    exact ⟨_, rfl, by simpa using hown1, hb0.trans hb1⟩
end Go.Proofs.YtccoljbnddfmpaaGreatDoor
