/- Texts of this claim, put together. -/
import Derived.Test.YtccoljbnddfmpaaGreatDoorQ1
import Derived.Test.YtccoljbnddfmpaaGreatDoorQ2
import Derived.LaidEql
import Derived.Stop.Asserts
import Derived.RowKitTokens
import Derived.ProofKit
import Derived.Test.YtccoljbnddfmpaaGreatDoorTie
import Derived.LaidLaws
import Derived.LaidHandle
import Derived.LaidMore
import Derived.Stop.LaidTwo
import Derived.Stop.Joined

namespace Go.Proofs.YtccoljbnddfmpaaGreatDoor
open Go.RowKit Go.Extern.Stop Go.Stop Go.Extern
theorem Tryz.isTypeOf (v : Value) (w : World) : (Extern.ReflectliteType.typeOf #[.iface 195 v]).run Tryz.prog w = .ok (.iface 160 (.agg #[.pointer (some ⟨3, 195, none⟩)])) w := by kernel_rfl
theorem Tryz.isComparable (w : World) : ((Extern.ReflectliteType.method fun t => do Rtype.noPackHeld "Comparable" t; (fun a => Value.bool a.comparable) <$> typeInfo t) #[.agg #[.pointer (some ⟨3, 195, none⟩)]]).run Tryz.prog w = .ok (.bool true) w := by kernel_rfl
theorem Tryz.isMethodComparable (v : Value) (w : World) : (Go.method 329 160 v "Comparable").run Tryz.prog w = .ok (160, v) w := by kernel_rfl
theorem Tryz.isComp : (Tryz.prog.info? 195).map (·.comparable) = some true := by kernel_rfl
theorem Tryz.isSize : (Tryz.prog.info? 217).map (·.size) = some 1 := by kernel_rfl
theorem Tryz.noIsE (v : Value) (xT : TypeId) (w : World) : (Instr.typeAssert (.iface 195 v) xT 162 true).run Tryz.prog w = .ok (.tuple #[.nilIface, .bool false]) w := run_typeAssert_lacksB Tryz.underlying162 (by kernel_rfl) (by kernel_rfl) v xT w
theorem Tryz.noUnwrapE (v : Value) (xT : TypeId) (w : World) : (Instr.typeAssert (.iface 195 v) xT 165 true).run Tryz.prog w = .ok (.tuple #[.nilIface, .bool false]) w := run_typeAssert_lacksB Tryz.underlying165 (by kernel_rfl) (by kernel_rfl) v xT w
theorem Tryz.noUnwrapsE (v : Value) (xT : TypeId) (w : World) : (Instr.typeAssert (.iface 195 v) xT 167 true).run Tryz.prog w = .ok (.tuple #[.nilIface, .bool false]) w := run_typeAssert_lacksB Tryz.underlying167 (by kernel_rfl) (by kernel_rfl) v xT w
theorem Tryz.noAsE (v : Value) (xT : TypeId) (w : World) : (Instr.typeAssert (.iface 195 v) xT 172 true).run Tryz.prog w = .ok (.tuple #[.nilIface, .bool false]) w := run_typeAssert_lacksB Tryz.underlying172 (by kernel_rfl) (by kernel_rfl) v xT w
theorem Tryz.noIsL (v : Value) (xT : TypeId) (w : World) : (Instr.typeAssert (.iface 97 v) xT 162 true).run Tryz.prog w = .ok (.tuple #[.nilIface, .bool false]) w := run_typeAssert_lacksB Tryz.underlying162 (by kernel_rfl) (by kernel_rfl) v xT w
theorem Tryz.noUnwrapL (v : Value) (xT : TypeId) (w : World) : (Instr.typeAssert (.iface 97 v) xT 165 true).run Tryz.prog w = .ok (.tuple #[.nilIface, .bool false]) w := run_typeAssert_lacksB Tryz.underlying165 (by kernel_rfl) (by kernel_rfl) v xT w
theorem Tryz.noUnwrapsL (v : Value) (xT : TypeId) (w : World) : (Instr.typeAssert (.iface 97 v) xT 167 true).run Tryz.prog w = .ok (.tuple #[.nilIface, .bool false]) w := run_typeAssert_lacksB Tryz.underlying167 (by kernel_rfl) (by kernel_rfl) v xT w
theorem Tryz.noIsR (v : Value) (xT : TypeId) (w : World) : (Instr.typeAssert (.iface 90 v) xT 162 true).run Tryz.prog w = .ok (.tuple #[.nilIface, .bool false]) w := run_typeAssert_lacksB Tryz.underlying162 (by kernel_rfl) (by kernel_rfl) v xT w
theorem Tryz.noAsR (v : Value) (xT : TypeId) (w : World) : (Instr.typeAssert (.iface 90 v) xT 172 true).run Tryz.prog w = .ok (.tuple #[.nilIface, .bool false]) w := run_typeAssert_lacksB Tryz.underlying172 (by kernel_rfl) (by kernel_rfl) v xT w
theorem Tryz.hasUnwrapR (v : Value) (xT : TypeId) (w : World) : (Instr.typeAssert (.iface 90 v) xT 165 true).run Tryz.prog w = .ok (.tuple #[.iface 90 v, .bool true]) w := run_typeAssert_hasB Tryz.underlying165 (by kernel_rfl) v xT w
theorem Tryz.methodUnwrapR (v : Value) (w : World) : (Go.method 329 90 v "Unwrap").run Tryz.prog w = .ok (153, v) w := by kernel_rfl
theorem Tryz.valueOfT (t : Addr) (w : World) : (ReflectliteValue.unpack (.iface 100 (.pointer (some t)))).run Tryz.prog w
    = .ok (.agg #[.pointer (some ⟨3, 100, none⟩), .pointer (some ⟨w.heap.size, 0, none⟩), .int .u64 150]) (w.alloc (.cells #[.pointer (some t)] 100)) := by kernel_rfl
theorem Tryz.typeT (a : Addr) (w : World) : (ReflectliteValue.methodAny (ReflectliteValue.valueError "reflectlite.Value.Type" 0) (fun t _ _ _ => ReflectliteType.toType t) #[.agg #[.pointer (some ⟨3, 100, none⟩), .pointer (some a), .int .u64 150]]).run Tryz.prog w
    = .ok (.iface 160 (.agg #[.pointer (some ⟨3, 100, none⟩)])) w := by kernel_rfl
theorem Tryz.methodKind (h : Value) (w : World) : (Go.method 329 160 (.agg #[h]) "Kind").run Tryz.prog w = .ok (149, h) w := by kernel_rfl
theorem Tryz.kindT (w : World) : ((ReflectliteType.abiMethod fun t => (fun a : Nat => Value.int IntKind.u8 (a : Int)) <$> Rtype.kind t) #[.pointer (some ⟨3, 100, none⟩)]).run Tryz.prog w = .ok (.int .u8 22) w := by kernel_rfl
theorem Tryz.kindL (w : World) : ((ReflectliteType.abiMethod fun t => (fun a : Nat => Value.int IntKind.u8 (a : Int)) <$> Rtype.kind t) #[.pointer (some ⟨3, 97, none⟩)]).run Tryz.prog w = .ok (.int .u8 25) w := by kernel_rfl
theorem Tryz.partsT (a : Addr) (w : World) : (ReflectliteValue.parts (.agg #[.pointer (some ⟨3, 100, none⟩), .pointer (some a), .int .u64 150])).run Tryz.prog w = .ok (some (100, a, 150)) w := by kernel_rfl
theorem Tryz.isNilT (a p : Addr) (W : World) (ha : W.cell? a = some (.pointer (some p))) :
    (ReflectliteValue.method (ReflectliteValue.valueError "reflectlite.Value.IsNil" 0) ReflectliteValue.isNil #[.agg #[.pointer (some ⟨3, 100, none⟩), .pointer (some a), .int .u64 150]]).run Tryz.prog W = .ok (.bool false) W := by
  rw [show ∀ z f v, ReflectliteValue.method z f #[v] = Bind.bind (ReflectliteValue.parts v) _ from fun _ _ _ => rfl]
  simp only [Sem.run_bind, Tryz.partsT, Result.andThen]
  simp [ReflectliteValue.isNil, loadVar, isAgg, underlying, Tryz.underlying100, ha, Result.andThen]
theorem Tryz.methodElem (h : Value) (w : World) : (Go.method 329 160 (.agg #[h]) "Elem").run Tryz.prog w = .ok (161, .agg #[h]) w := by kernel_rfl
theorem Tryz.methodImplements (h : Value) (w : World) : (Go.method 329 160 (.agg #[h]) "Implements").run Tryz.prog w = .ok (162, .agg #[h]) w := by kernel_rfl
theorem Tryz.methodAssignableTo (h : Value) (w : World) : (Go.method 329 160 (.agg #[h]) "AssignableTo").run Tryz.prog w = .ok (159, .agg #[h]) w := by kernel_rfl
theorem Tryz.elemT (w : World) : (ReflectliteType.method ReflectliteType.elem #[.agg #[.pointer (some ⟨3, 100, none⟩)]]).run Tryz.prog w = .ok (.iface 160 (.agg #[.pointer (some ⟨3, 97, none⟩)])) w := by kernel_rfl
theorem Tryz.implementsL (w : World) : (ReflectliteType.relation "Implements" ReflectliteType.implements_ #[.agg #[.pointer (some ⟨3, 97, none⟩)], .iface 160 (.agg #[.pointer (some ⟨3, 57, none⟩)])]).run Tryz.prog w = .ok (.bool true) w := by kernel_rfl
theorem Tryz.typeOfL (v : Value) (w : World) : (ReflectliteType.typeOf #[.iface 97 v]).run Tryz.prog w = .ok (.iface 160 (.agg #[.pointer (some ⟨3, 97, none⟩)])) w := by kernel_rfl
theorem Tryz.typeOfR (v : Value) (w : World) : (ReflectliteType.typeOf #[.iface 90 v]).run Tryz.prog w = .ok (.iface 160 (.agg #[.pointer (some ⟨3, 90, none⟩)])) w := by kernel_rfl
theorem Tryz.assignL (w : World) : (ReflectliteType.relation "AssignableTo" ReflectliteType.assignableTo #[.agg #[.pointer (some ⟨3, 97, none⟩)], .iface 160 (.agg #[.pointer (some ⟨3, 97, none⟩)])]).run Tryz.prog w = .ok (.bool true) w := by kernel_rfl
theorem Tryz.assignR (w : World) : (ReflectliteType.relation "AssignableTo" ReflectliteType.assignableTo #[.agg #[.pointer (some ⟨3, 90, none⟩)], .iface 160 (.agg #[.pointer (some ⟨3, 97, none⟩)])]).run Tryz.prog w = .ok (.bool false) w := by kernel_rfl
theorem Tryz.assignE (w : World) : (ReflectliteType.relation "AssignableTo" ReflectliteType.assignableTo #[.agg #[.pointer (some ⟨3, 195, none⟩)], .iface 160 (.agg #[.pointer (some ⟨3, 97, none⟩)])]).run Tryz.prog w = .ok (.bool false) w := by kernel_rfl
theorem Tryz.valueOfL (x y : Value) (w : World) : (ReflectliteValue.unpack (.iface 97 (.agg #[x, y]))).run Tryz.prog w
    = .ok (.agg #[.pointer (some ⟨3, 97, none⟩), .pointer (some ⟨w.heap.size, 0, none⟩), .int .u64 153]) (w.alloc (.cells #[x, y] 97)) := by kernel_rfl
theorem Tryz.elemOfT (w : World) : (Rtype.elem? 100).run Tryz.prog w = .ok (some 97) w := by kernel_rfl
theorem Tryz.mkL (p : Addr) (w : World) : (ReflectliteValue.mk 97 p ReflectliteValue.flagAddr).run Tryz.prog w = .ok (.agg #[.pointer (some ⟨3, 97, none⟩), .pointer (some p), .int .u64 409]) w := by kernel_rfl
theorem Tryz.elemVT (a p : Addr) (W : World) (ha : W.cell? a = some (.pointer (some p))) :
    (ReflectliteValue.method (ReflectliteValue.valueError "reflectlite.Value.Elem" 0) ReflectliteValue.elem #[.agg #[.pointer (some ⟨3, 100, none⟩), .pointer (some a), .int .u64 150]]).run Tryz.prog W
      = .ok (.agg #[.pointer (some ⟨3, 97, none⟩), .pointer (some p), .int .u64 409]) W := by
  rw [show ∀ z f v, ReflectliteValue.method z f #[v] = Bind.bind (ReflectliteValue.parts v) _ from fun _ _ _ => rfl]
  simp only [Sem.run_bind, Tryz.partsT, Result.andThen]
  simp [ReflectliteValue.elem, loadVar, isAgg, underlying, Tryz.underlying100, ha, Result.andThen, Tryz.elemOfT, Tryz.mkL]
theorem Tryz.partsLa (a : Addr) (w : World) : (ReflectliteValue.parts (.agg #[.pointer (some ⟨3, 97, none⟩), .pointer (some a), .int .u64 409])).run Tryz.prog w = .ok (some (97, a, 409)) w := by kernel_rfl
theorem Tryz.partsL (a : Addr) (w : World) : (ReflectliteValue.parts (.agg #[.pointer (some ⟨3, 97, none⟩), .pointer (some a), .int .u64 153])).run Tryz.prog w = .ok (some (97, a, 153)) w := by kernel_rfl
theorem Tryz.directL (w : World) : (Rtype.directlyAssignable 97 97).run Tryz.prog w = .ok true w := by kernel_rfl
structure Errs (w : World) (a0 a1 : Addr) : Prop where
  short : w.cell? ⟨0, 0, none⟩ = some (.iface 195 (.pointer (some a0)))
  bad : w.cell? ⟨1, 0, none⟩ = some (.iface 195 (.pointer (some a1)))
  type : w.cell? ⟨2, 0, none⟩ = some (.iface 160 (.agg #[.pointer (some ⟨3, 57, none⟩)]))
  ne : a0 ≠ a1
  row0 : ∃ c t, w.heap[a0.block]? = some (.cells c t (0, 0))
  row1 : ∃ c t, w.heap[a1.block]? = some (.cells c t (0, 0))
theorem cell_lt {w : World} {a : Addr} {v : Value} (h : w.cell? a = some v) : a.block < w.heap.size := by
  rcases Nat.lt_or_ge a.block w.heap.size with h1 | h1
  · exact h1
  · simp [World.cell?, Array.getElem?_eq_none h1] at h
theorem Errs.below {w w' : World} {a0 a1 : Addr} {B : Nat} (h : Errs w a0 a1) (hb : Below B w w') (hB : w.heap.size ≤ B) : Errs w' a0 a1 := by
  obtain ⟨h1, h2, h3, h4, ⟨c0, t0, h5⟩, ⟨c1, t1, h6⟩⟩ := h
  have l1 := cell_lt h1
  have l2 := cell_lt h2
  have l3 := cell_lt h3
  have l5 := (Array.getElem?_eq_some_iff.1 h5).1
  have l6 := (Array.getElem?_eq_some_iff.1 h6).1
  exact ⟨(hb.cell (by exact Nat.lt_of_lt_of_le l1 hB)).trans h1, (hb.cell (by exact Nat.lt_of_lt_of_le l2 hB)).trans h2, (hb.cell (by exact Nat.lt_of_lt_of_le l3 hB)).trans h3, h4,
    ⟨c0, t0, (hb.block _ (by omega)).trans h5⟩, ⟨c1, t1, (hb.block _ (by omega)).trans h6⟩⟩
end Go.Proofs.YtccoljbnddfmpaaGreatDoor

namespace Go.Proofs.YtccoljbnddfmpaaGreatDoor
open Go.ChangeShapes Go.WideShapes Go.ChangeAt Go.RowKit
theorem Tryz.own : ownKnob Tryz.prog.godebug = none := by kernel_rfl
theorem Tryz.laidOut : laidOutB Tryz.prog = true := by kernel_rfl
end Go.Proofs.YtccoljbnddfmpaaGreatDoor

namespace Go.Proofs.YtccoljbnddfmpaaGreatDoor
open Go.ChangeShapes Go.WideShapes Go.RowKit
theorem Tryz.gShort : Tryz.prog.globalNamed "loop.example/g00824/impl.errShort" = some 0 := by kernel_rfl
theorem Tryz.gBad : Tryz.prog.globalNamed "loop.example/g00824/impl.errNotRight" = some 1 := by kernel_rfl
theorem Tryz.gType : Tryz.prog.globalNamed "errors.errorType" = some 2 := by kernel_rfl
theorem Tryz.gShortType : (Tryz.prog.globals[0]?).map (·.type) = some 57 := by kernel_rfl
theorem Tryz.gBadType : (Tryz.prog.globals[1]?).map (·.type) = some 57 := by kernel_rfl
theorem Tryz.cellsES : Tryz.prog.cellsOf 217 = 1 := by kernel_rfl
theorem Tryz.cellsS : Tryz.prog.cellsOf 9 = 1 := by kernel_rfl
theorem Tryz.star : "*" ++ "errors.errorString" = "*errors.errorString" := by decide
theorem Tryz.rowES (u : TypeId) (h : Tryz.prog.typeName? 3 u = some "*errors.errorString") : u = 195 :=
  typeName_ptr_named (nm := "errors.errorString") (by rw [Tryz.star]; kernel_rfl) (by kernel_rfl) (by decide) u (by rw [Tryz.star]; exact h)
theorem Tryz.rt : (Tryz.prog.cutTypes.find? (·.1 == "internal/reflectlite.rtype")).map (·.2) = some 160 := by kernel_rfl
theorem Tryz.oneRow : ((List.range 229).filter fun t => Tryz.prog.rowNamed t [101, 114, 114, 111, 114]) = [57] := by kernel_rfl
theorem Tryz.size : Tryz.prog.types.size = 229 := by kernel_rfl
def laid3 : List (String × DataW Unit) := [("errors.errorType", Rows.laid_errors_errorType), ("loop.example/g00824/impl.errNotRight", Rows.laid_loop_example_g00824_impl_errNotRight), ("loop.example/g00824/impl.errShort", Rows.laid_loop_example_g00824_impl_errShort)]
theorem errs_of_laid {W : World} (h : laidMetH Tryz.prog laid3 W) :
    ∃ a0 a1 : Addr, Errs W a0 a1 ∧ W.var? Tryz.prog "loop.example/g00824/impl.errNotRight" = some #[.iface 195 (.pointer (some a1))] ∧ W.var? Tryz.prog "loop.example/g00824/impl.errShort" = some #[.iface 195 (.pointer (some a0))] := by
  have h' : laidMet Tryz.prog [("loop.example/g00824/impl.errNotRight", Rows.laid_loop_example_g00824_impl_errNotRight), ("loop.example/g00824/impl.errShort", Rows.laid_loop_example_g00824_impl_errShort)] W ∧ handlesMet Tryz.prog [("errors.errorType", Rows.laid_errors_errorType)] W := h
  obtain ⟨hl, hh⟩ := h'
  obtain ⟨name, u, ty, e1, e2, e3, e4, e5⟩ := hh _ (List.mem_singleton.2 rfl)
  have en : name = [101, 114, 114, 111, 114] := (Option.some.inj e1).symm
  subst en
  obtain rfl := Option.some.inj (Tryz.rt.symm.trans e2)
  have hm : ty ∈ (List.range 229).filter fun t => Tryz.prog.rowNamed t [101, 114, 114, 111, 114] := List.mem_filter.2 ⟨List.mem_range.2 (by rw [← Tryz.size]; exact e3), e4⟩
  rw [Tryz.oneRow] at hm
  obtain rfl := List.mem_singleton.1 hm
  have hth : typeHandle Tryz.prog 57 = .pointer (some ⟨3, 57, none⟩) := by kernel_rfl
  rw [hth] at e5
  obtain ⟨a0, a1, s0, s1, c0, c1, t0, t1, hv0, hv1, -, -, -, -, -, -, hne, hb0, hb1⟩ := laid_sentinels2 hl Tryz.gBad Tryz.gBadType Tryz.gShort Tryz.gShortType Tryz.underlying57 Tryz.rowES Tryz.underlying195 Tryz.underlying217 rfl rfl Tryz.underlying9 Tryz.cellsES Tryz.cellsS
  exact ⟨a1, a0, ⟨by simpa using World.var?_cell Tryz.gShort hv1 0, by simpa using World.var?_cell Tryz.gBad hv0 0, by simpa using World.var?_cell Tryz.gType e5 0, fun e => hne e.symm, ⟨c1, t1, hb1⟩, ⟨c0, t0, hb0⟩⟩, hv0, hv1⟩
theorem door_met (os : Os) (args : Array Value) : laidMetH Tryz.prog laid3 ((World.doorLaid Tryz.prog 54 os).forCall (fun _ _ => 0) ⟨#[], args, []⟩).memory :=
  laidMetH_of_parts3 (fuel := 8) (laidMet_of_run' 8 (by kernel_rfl) (by kernel_rfl)) (by kernel_rfl) (by kernel_rfl)
theorem var_below {W W' : World} {n : String} {g : Nat} {x : Value} (hg : Tryz.prog.globalNamed n = some g) (h : W.var? Tryz.prog n = some #[x]) (hb : Below W.heap.size W W') : W'.var? Tryz.prog n = some #[x] := by
  have hc : W.cell? ⟨g, 0, none⟩ = some x := by simpa using World.var?_cell hg h 0
  have hlt := cell_lt hc
  have he : W'.heap[g]? = W.heap[g]? := hb.block g hlt
  unfold World.var? at h ⊢
  rw [hg] at h ⊢
  simp only [Option.bind_some] at h ⊢
  rw [he]
  exact h
end Go.Proofs.YtccoljbnddfmpaaGreatDoor

namespace Go.Proofs.YtccoljbnddfmpaaGreatDoor
open Go.RowKit Go.Extern.Stop Go.Stop Go.Extern
set_option maxRecDepth 100000 in
theorem Tryz.setL (g b : Nat) (p q : Int) (u0 u1 : Value) (W : World) (hb : Blk W b 97 #[.int .i64 p, .int .i64 q]) (hg : Blk W g 97 #[u0, u1]) :
    (ReflectliteValue.set #[.agg #[.pointer (some ⟨3, 97, none⟩), .pointer (some ⟨g, 0, none⟩), .int .u64 409], .agg #[.pointer (some ⟨3, 97, none⟩), .pointer (some ⟨b, 0, none⟩), .int .u64 153]]).run Tryz.prog W
      = .ok (.tuple #[]) ((W.setCell ⟨g, 0, none⟩ (.int .i64 p)).setCell ⟨g, 1, none⟩ (.int .i64 q)) := by
  have b0 := hb.cell 0
  have b1 := hb.cell 1
  have g0 := hg.cell 0
  have f0 := hg.frozen 0
  have h2 := hg.set_ 0 (.int .i64 p)
  have g1 := h2.cell 1
  have f1 := h2.frozen 1
  simp at b0 b1 g0 g1
  rw [show ∀ v x, ReflectliteValue.set #[v, x] = Bind.bind (ReflectliteValue.parts v) _ from fun _ _ => rfl]
  have el : ∀ (a b : Value) (h1 : (#[a, b] : Array Value).size = 2) (h2 : 1 < 2), (#[a, b] : Array Value).getLit (n := 2) 1 h1 h2 = b := fun _ _ _ _ => rfl
  simp only [el, Sem.run_bind, Tryz.partsLa, Tryz.partsL, Result.andThen]
  have hl : (loadVar 97 ⟨b, 0, none⟩).run Tryz.prog W = .ok (.agg #[.int .i64 p, .int .i64 q]) W := by
    simp [loadVar, isAgg, underlying, Tryz.underlying97, Result.andThen, loadCells, loadCellsFrom, Addr.add, b0, b1]
  simp [ReflectliteValue.flagAddr, hl, Result.andThen, Tryz.directL, storeVar, Value.cells, storeCells, Addr.add]
  rw [run_store Tryz.prog W _ _ _ (by rfl)]
  simp [g0, f0]
  rw [run_store Tryz.prog _ _ _ _ (by rfl)]
  simp [g1, f1]
set_option maxHeartbeats 4000000 in
set_option maxRecDepth 100000 in
theorem as_other (B g : Nat) (u0 u1 : Value) (k n t m : Int) (b : Addr) (w : World) (hgl : w.cell? ⟨2, 0, none⟩ = some (.iface 160 (.agg #[.pointer (some ⟨3, 57, none⟩)]))) (ht : Blk w g 97 #[u0, u1]) (hgB : B ≤ g) :
    Calls Tryz.prog 53 #[.iface 90 (.agg #[.int .i64 k, .int .i64 n, .int .i64 t, .int .i64 m, .iface 195 (.pointer (some b))]), .iface 100 (.pointer (some ⟨g, 0, none⟩))] w fun e w' => e = .returned (.bool false) ∧ Below B w w' := by
  have hlt := cell_lt hgl
  have htl := ht.lt
  have h6 := @run_callFunc_extern Tryz.prog 90 _ (fun args => ReflectliteValue.unpack (args.getD 0 (.tuple #[]))) Tryz.func90 (by kernel_rfl) (by kernel_rfl) (by kernel_rfl) (by kernel_rfl)
  have h7 := @run_callFunc_extern Tryz.prog 91 _ (ReflectliteValue.methodAny (ReflectliteValue.valueError "reflectlite.Value.Type" 0) (fun t _ _ _ => ReflectliteType.toType t)) Tryz.func91 (by kernel_rfl) (by kernel_rfl) (by kernel_rfl) (by kernel_rfl)
  have h8 := @run_callFunc_extern Tryz.prog 92 _ (ReflectliteValue.method (ReflectliteValue.valueError "reflectlite.Value.IsNil" 0) ReflectliteValue.isNil) Tryz.func92 (by kernel_rfl) (by kernel_rfl) (by kernel_rfl) (by kernel_rfl)
  have h27 := @run_callFunc_extern Tryz.prog 149 _ (ReflectliteType.abiMethod fun t => do pure (.int .u8 (← Rtype.kind t))) Tryz.func149 (by kernel_rfl) (by kernel_rfl) (by kernel_rfl) (by kernel_rfl)
  have h37 := @run_callFunc_extern Tryz.prog 161 _ (ReflectliteType.method ReflectliteType.elem) Tryz.func161 (by kernel_rfl) (by kernel_rfl) (by kernel_rfl) (by kernel_rfl)
  have h38 := @run_callFunc_extern Tryz.prog 162 _ (ReflectliteType.relation "Implements" ReflectliteType.implements_) Tryz.func162 (by kernel_rfl) (by kernel_rfl) (by kernel_rfl) (by kernel_rfl)
  have h10 := @run_callFunc_extern Tryz.prog 88 _ ReflectliteType.typeOf Tryz.func88 (by kernel_rfl) (by kernel_rfl) (by kernel_rfl) (by kernel_rfl)
  have h35 := @run_callFunc_extern Tryz.prog 159 _ (ReflectliteType.relation "AssignableTo" ReflectliteType.assignableTo) Tryz.func159 (by kernel_rfl) (by kernel_rfl) (by kernel_rfl) (by kernel_rfl)
  have h11 := @run_callFunc_extern Tryz.prog 114 _ (ReflectliteValue.method (ReflectliteValue.valueError "reflectlite.Value.Elem" 0) ReflectliteValue.elem) Tryz.func114 (by kernel_rfl) (by kernel_rfl) (by kernel_rfl) (by kernel_rfl)
  have h12 := @run_callFunc_extern Tryz.prog 115 _ ReflectliteValue.set Tryz.func115 (by kernel_rfl) (by kernel_rfl) (by kernel_rfl) (by kernel_rfl)
  have x0 := Tryz.valueOfT
  have x1 := Tryz.typeT
  have x2 := Tryz.methodKind
  have x3 := Tryz.kindT
  have x4 := Tryz.kindL
  have x5 := Tryz.methodElem
  have x6 := Tryz.methodImplements
  have x7 := Tryz.methodAssignableTo
  have x8 := Tryz.elemT
  have x9 := Tryz.implementsL
  have x10 := Tryz.typeOfR
  have x11 := Tryz.assignR
  have x12 := Tryz.noAsR
  have x13 := Tryz.hasUnwrapR
  have x14 := Tryz.methodUnwrapR
  have n8 := Tryz.isNilT ⟨w.heap.size, 0, none⟩ ⟨g, 0, none⟩ ((w.alloc (.cells #[.pointer (some ⟨g, 0, none⟩)] 100)).alloc (.cells #[.pointer (some ⟨3, 100, none⟩), .pointer (some ⟨w.heap.size, 0, none⟩), .int .u64 150] 134)) (by simp)
  have hg2 : ((w.alloc (.cells #[.pointer (some ⟨g, 0, none⟩)] 100)).alloc (.cells #[.pointer (some ⟨3, 100, none⟩), .pointer (some ⟨w.heap.size, 0, none⟩), .int .u64 150] 134)).cell? ⟨2, 0, none⟩ = some (.iface 160 (.agg #[.pointer (some ⟨3, 57, none⟩)])) := by
    rw [World.cell?_alloc_lt _ _ _ (by simp; simp at hlt; omega), World.cell?_alloc_lt _ _ _ hlt]; exact hgl
  have y0 := Tryz.noAsE
  have y1 := Tryz.noUnwrapE
  have y2 := Tryz.noUnwrapsE
  have y3 := Tryz.isTypeOf
  have y4 := Tryz.assignE
  go_enter Tryz.func53, Tryz.ntmps53
  go_wp2
  refine wp_loop_rounds 2 ?_
  rw [rounds_succ]
  go_wp2
  rw [rounds_succ]
  go_wp2
  go_ret
  exact ⟨rfl, (((((Below.refl _ _).alloc (by omega) _).alloc (by simp; omega) _).alloc (by simp; omega) _).alloc (by simp; omega) _)⟩
set_option maxHeartbeats 4000000 in
set_option maxRecDepth 100000 in
theorem as_limit (B g : Nat) (u0 u1 : Value) (k n t m p q : Int) (w : World) (hgl : w.cell? ⟨2, 0, none⟩ = some (.iface 160 (.agg #[.pointer (some ⟨3, 57, none⟩)]))) (ht : Blk w g 97 #[u0, u1]) (hgB : B ≤ g) :
    Calls Tryz.prog 53 #[.iface 90 (.agg #[.int .i64 k, .int .i64 n, .int .i64 t, .int .i64 m, .iface 97 (.agg #[.int .i64 p, .int .i64 q])]), .iface 100 (.pointer (some ⟨g, 0, none⟩))] w fun e w' => e = .returned (.bool true) ∧ Below B w w' := by
  have hlt := cell_lt hgl
  have htl := ht.lt
  have h6 := @run_callFunc_extern Tryz.prog 90 _ (fun args => ReflectliteValue.unpack (args.getD 0 (.tuple #[]))) Tryz.func90 (by kernel_rfl) (by kernel_rfl) (by kernel_rfl) (by kernel_rfl)
  have h7 := @run_callFunc_extern Tryz.prog 91 _ (ReflectliteValue.methodAny (ReflectliteValue.valueError "reflectlite.Value.Type" 0) (fun t _ _ _ => ReflectliteType.toType t)) Tryz.func91 (by kernel_rfl) (by kernel_rfl) (by kernel_rfl) (by kernel_rfl)
  have h8 := @run_callFunc_extern Tryz.prog 92 _ (ReflectliteValue.method (ReflectliteValue.valueError "reflectlite.Value.IsNil" 0) ReflectliteValue.isNil) Tryz.func92 (by kernel_rfl) (by kernel_rfl) (by kernel_rfl) (by kernel_rfl)
  have h27 := @run_callFunc_extern Tryz.prog 149 _ (ReflectliteType.abiMethod fun t => do pure (.int .u8 (← Rtype.kind t))) Tryz.func149 (by kernel_rfl) (by kernel_rfl) (by kernel_rfl) (by kernel_rfl)
  have h37 := @run_callFunc_extern Tryz.prog 161 _ (ReflectliteType.method ReflectliteType.elem) Tryz.func161 (by kernel_rfl) (by kernel_rfl) (by kernel_rfl) (by kernel_rfl)
  have h38 := @run_callFunc_extern Tryz.prog 162 _ (ReflectliteType.relation "Implements" ReflectliteType.implements_) Tryz.func162 (by kernel_rfl) (by kernel_rfl) (by kernel_rfl) (by kernel_rfl)
  have h10 := @run_callFunc_extern Tryz.prog 88 _ ReflectliteType.typeOf Tryz.func88 (by kernel_rfl) (by kernel_rfl) (by kernel_rfl) (by kernel_rfl)
  have h35 := @run_callFunc_extern Tryz.prog 159 _ (ReflectliteType.relation "AssignableTo" ReflectliteType.assignableTo) Tryz.func159 (by kernel_rfl) (by kernel_rfl) (by kernel_rfl) (by kernel_rfl)
  have h11 := @run_callFunc_extern Tryz.prog 114 _ (ReflectliteValue.method (ReflectliteValue.valueError "reflectlite.Value.Elem" 0) ReflectliteValue.elem) Tryz.func114 (by kernel_rfl) (by kernel_rfl) (by kernel_rfl) (by kernel_rfl)
  have h12 := @run_callFunc_extern Tryz.prog 115 _ ReflectliteValue.set Tryz.func115 (by kernel_rfl) (by kernel_rfl) (by kernel_rfl) (by kernel_rfl)
  have x0 := Tryz.valueOfT
  have x1 := Tryz.typeT
  have x2 := Tryz.methodKind
  have x3 := Tryz.kindT
  have x4 := Tryz.kindL
  have x5 := Tryz.methodElem
  have x6 := Tryz.methodImplements
  have x7 := Tryz.methodAssignableTo
  have x8 := Tryz.elemT
  have x9 := Tryz.implementsL
  have x10 := Tryz.typeOfR
  have x11 := Tryz.assignR
  have x12 := Tryz.noAsR
  have x13 := Tryz.hasUnwrapR
  have x14 := Tryz.methodUnwrapR
  have n8 := Tryz.isNilT ⟨w.heap.size, 0, none⟩ ⟨g, 0, none⟩ ((w.alloc (.cells #[.pointer (some ⟨g, 0, none⟩)] 100)).alloc (.cells #[.pointer (some ⟨3, 100, none⟩), .pointer (some ⟨w.heap.size, 0, none⟩), .int .u64 150] 134)) (by simp)
  have hg2 : ((w.alloc (.cells #[.pointer (some ⟨g, 0, none⟩)] 100)).alloc (.cells #[.pointer (some ⟨3, 100, none⟩), .pointer (some ⟨w.heap.size, 0, none⟩), .int .u64 150] 134)).cell? ⟨2, 0, none⟩ = some (.iface 160 (.agg #[.pointer (some ⟨3, 57, none⟩)])) := by
    rw [World.cell?_alloc_lt _ _ _ (by simp; simp at hlt; omega), World.cell?_alloc_lt _ _ _ hlt]; exact hgl
  have y3 := Tryz.typeOfL
  have y4 := Tryz.assignL
  have y5 := Tryz.valueOfL
  have htW : Blk (((((w.alloc (.cells #[.pointer (some ⟨g, 0, none⟩)] 100)).alloc (.cells #[.pointer (some ⟨3, 100, none⟩), .pointer (some ⟨w.heap.size, 0, none⟩), .int .u64 150] 134)).alloc (.cells #[.pointer (some ⟨3, 100, none⟩), .pointer (some ⟨w.heap.size, 0, none⟩), .int .u64 150] 134)).alloc (.cells #[.int .i64 k, .int .i64 n, .int .i64 t, .int .i64 m, .iface 97 (.agg #[.int .i64 p, .int .i64 q])] 90)).alloc (.cells #[.int .i64 p, .int .i64 q] 97)) g 97 #[u0, u1] := ((((ht.alloc _).alloc _).alloc _).alloc _).alloc _
  have hbW : Blk (((((w.alloc (.cells #[.pointer (some ⟨g, 0, none⟩)] 100)).alloc (.cells #[.pointer (some ⟨3, 100, none⟩), .pointer (some ⟨w.heap.size, 0, none⟩), .int .u64 150] 134)).alloc (.cells #[.pointer (some ⟨3, 100, none⟩), .pointer (some ⟨w.heap.size, 0, none⟩), .int .u64 150] 134)).alloc (.cells #[.int .i64 k, .int .i64 n, .int .i64 t, .int .i64 m, .iface 97 (.agg #[.int .i64 p, .int .i64 q])] 90)).alloc (.cells #[.int .i64 p, .int .i64 q] 97)) (w.heap.size + 4) 97 #[.int .i64 p, .int .i64 q] := by
    have h := Blk.new ((((w.alloc (.cells #[.pointer (some ⟨g, 0, none⟩)] 100)).alloc (.cells #[.pointer (some ⟨3, 100, none⟩), .pointer (some ⟨w.heap.size, 0, none⟩), .int .u64 150] 134)).alloc (.cells #[.pointer (some ⟨3, 100, none⟩), .pointer (some ⟨w.heap.size, 0, none⟩), .int .u64 150] 134)).alloc (.cells #[.int .i64 k, .int .i64 n, .int .i64 t, .int .i64 m, .iface 97 (.agg #[.int .i64 p, .int .i64 q])] 90)) 97 #[.int .i64 p, .int .i64 q]
    simpa using h
  have st := Tryz.setL g (w.heap.size + 4) p q u0 u1 (((((w.alloc (.cells #[.pointer (some ⟨g, 0, none⟩)] 100)).alloc (.cells #[.pointer (some ⟨3, 100, none⟩), .pointer (some ⟨w.heap.size, 0, none⟩), .int .u64 150] 134)).alloc (.cells #[.pointer (some ⟨3, 100, none⟩), .pointer (some ⟨w.heap.size, 0, none⟩), .int .u64 150] 134)).alloc (.cells #[.int .i64 k, .int .i64 n, .int .i64 t, .int .i64 m, .iface 97 (.agg #[.int .i64 p, .int .i64 q])] 90)).alloc (.cells #[.int .i64 p, .int .i64 q] 97)) hbW htW
  have el := Tryz.elemVT ⟨w.heap.size, 0, none⟩ ⟨g, 0, none⟩ ((((w.alloc (.cells #[.pointer (some ⟨g, 0, none⟩)] 100)).alloc (.cells #[.pointer (some ⟨3, 100, none⟩), .pointer (some ⟨w.heap.size, 0, none⟩), .int .u64 150] 134)).alloc (.cells #[.pointer (some ⟨3, 100, none⟩), .pointer (some ⟨w.heap.size, 0, none⟩), .int .u64 150] 134)).alloc (.cells #[.int .i64 k, .int .i64 n, .int .i64 t, .int .i64 m, .iface 97 (.agg #[.int .i64 p, .int .i64 q])] 90)) (by
    rw [World.cell?_alloc_lt _ _ _ (by simp; omega), World.cell?_alloc_lt _ _ _ (by simp; omega), World.cell?_alloc_lt _ _ _ (by simp)]; simp)
  go_enter Tryz.func53, Tryz.ntmps53
  go_wp2
  refine wp_loop_rounds 2 ?_
  rw [rounds_succ]
  go_wp2
  rw [rounds_succ]
  go_wp2
  go_ret
  exact ⟨rfl, (((((((Below.refl _ _).alloc (by omega) _).alloc (by simp; omega) _).alloc (by simp; omega) _).alloc (by simp; omega) _).alloc (by simp; omega) _).setCell (p := ⟨g, 0, none⟩) hgB _).setCell (p := ⟨g, 1, none⟩) hgB _⟩
end Go.Proofs.YtccoljbnddfmpaaGreatDoor
