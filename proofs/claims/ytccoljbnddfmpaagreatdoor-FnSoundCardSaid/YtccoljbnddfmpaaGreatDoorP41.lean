/- Texts of this claim, put together. -/
import Derived.Test.YtccoljbnddfmpaaGreatDoorP1
import Derived.Test.YtccoljbnddfmpaaGreatDoorP4
import Derived.Test.YtccoljbnddfmpaaGreatDoorP9
import Derived.Test.YtccoljbnddfmpaaGreatDoorP40
import Derived.LaidEql
import Derived.Stop.Asserts
import Derived.RowKitTokens

namespace Go.Proofs.YtccoljbnddfmpaaGreatDoor
open Go.RowKit
set_option maxHeartbeats 1000000 in
theorem right_any (B : Nat) (ao : Option Addr) (n cap : Nat) (es : List Ent) (w : World) (hx : Ents B w ao n cap es) (hB : B ≤ w.heap.size) :
    Calls Tryz.prog 65 #[.agg #[.slice ao n cap]] w (Says (.bool (bookOk es)) w) := by
  obtain ⟨W1, hW1⟩ : ∃ W1, W1 = w.alloc (.cells #[.slice ao n cap] 70) := ⟨_, rfl⟩
  have hb0 : Below w.heap.size w W1 := by rw [hW1]; exact (Below.refl _ _).alloc (Nat.le_refl _) _
  have k1 : Blk W1 w.heap.size 70 #[.slice ao n cap] := by rw [hW1]; exact Blk.new _ _ _
  have h1 := implBookOk_any B ao n cap es W1 (hx.below hb0 hB (Nat.le_refl B)) (by have := hb0.size; omega)
  have e0 := k1.cell 0
  generalize bookOk es = r at h1
  go_enter Tryz.func65, Tryz.ntmps65
  go_upto_region 1 with fail
  rw [← hW1]
  clear hW1
  go_wp2_with fail
  refine h1.mono ?_
  rintro e w1 ⟨rfl, hb1⟩
  cases r
  all_goals
    go_wp2_with fail
    go_ret
    exact ⟨rfl, hb0.trans (hb1.mono hb0.size)⟩
set_option maxHeartbeats 1000000 in
set_option maxRecDepth 100000 in
theorem nobody_any (B : Nat) (ao : Option Addr) (n cap : Nat) (es : List Ent) (w : World) (hx : Ents B w ao n cap es) (hB : B ≤ w.heap.size) (ok : bookOk es = true) :
    Calls Tryz.prog 66 #[.agg #[.slice ao n cap]] w (Says (.bool (decide (HeldUp es 4))) w) := by
  obtain ⟨r, hr⟩ : ∃ r, decide (HeldUp es 4) = r := ⟨_, rfl⟩
  rw [hr]
  have HR := Lib.hid hr; clear hr
  have hh : ∀ (k : Nat), k < 4 → ∀ w', Below w.heap.size w w' → Calls Tryz.prog 14 #[.slice ao n cap, .int .i64 k] w' (Says (.int .i64 (held es k)) w') := fun k hk w' hb => by
    have h := implHeldBy_any B ao n cap es k w' (hx.below hb hB (Nat.le_refl B)) (by have := hb.size; omega)
    rwa [heldBy_yes ok (by simp [inB]; omega)] at h
  have HH := Lib.hid hh; clear hh
  obtain ⟨W1, hW1⟩ : ∃ W1, W1 = w.alloc (.cells #[.slice ao n cap] 70) := ⟨_, rfl⟩
  have hb0 : Below w.heap.size w W1 := by rw [hW1]; exact (Below.refl _ _).alloc (Nat.le_refl _) _
  have k1 : Blk W1 w.heap.size 70 #[.slice ao n cap] := by rw [hW1]; exact Blk.new _ _ _
  go_enter Tryz.func66, Tryz.ntmps66
  go_upto_region 1 with fail
  rw [← hW1]
  clear hW1
  go_wp2
  go_loopw [4] (fun sk wr => ∃ k : Nat, k ≤ 4 ∧ sk = .int .i64 k ∧ Hid (HeldUp es k) ∧ Below w.heap.size w wr ∧ Blk wr w.heap.size 70 #[.slice ao n cap]) (fun sk _ => 4 - (intOf sk).toNat)
  case atStart => exact ⟨0, by omega, rfl, Lib.hid (fun i hi => absurd hi (by omega)), hb0, k1⟩
  case round =>
    obtain ⟨k, hk, rfl, hup, hbel, hblk⟩ := hrel
    by_cases hlt : k < 4
    · have i1 : (k : Int) < 4 := by omega
      have hgo := fun h => heldUp_succ hup.out (k := k) h
      have hstop : ¬ 0 ≤ held es k → r = false := fun h => by rw [← HR.out]; exact decide_eq_false (fun hu => h (hu k hlt))
      have HGO := Lib.hid hgo; have HST := Lib.hid hstop; clear hgo hstop
      have hc := HH.out k hlt wr hbel
      generalize held es k = m at hc HGO HST
      have e0 := hblk.cell 0
      have hl := hblk.lt
      go_wp2_with fail
      refine hc.mono ?_
      rintro e w2 ⟨rfl, hb2⟩
      have hB2 := hbel.trans (hb2.mono hbel.size)
      have hk2 := hblk.below hb2 hl
      by_cases hm : m < 0
      · have hrf := HST.out (by omega)
        have HRF := Lib.hid hrf; clear hrf HGO HST hc
        go_wp2
        go_ret
        exact ⟨ret_bool HRF.out.symm, hB2⟩
      · have hn := Lib.hid (HGO.out (by omega))
        clear HGO HST hc
        go_wp2
        go_roundw
        case rel => exact ⟨k + 1, by omega, by go_num, hn, hB2, hk2⟩
        case measure => simp [intOf]; omega
    · have ek : k = 4 := by omega
      subst ek
      have hrt : r = true := by rw [← HR.out]; exact decide_eq_true hup.out
      go_wp2
      go_ret
      exact ⟨ret_bool hrt.symm, hbel⟩
def mustRight (ao : Option Addr) (n cap : Nat) : Value := .func (.func 65) #[.agg #[.slice ao n cap]] #[]
def mustNobody (ao : Option Addr) (n cap : Nat) : Value := .func (.func 66) #[.agg #[.slice ao n cap]] #[]
set_option maxHeartbeats 1000000 in
theorem musts_any (ao : Option Addr) (n cap : Nat) (w : World) :
    Calls Tryz.prog 38 #[.agg #[.slice ao n cap]] w fun e w' =>
      ∃ g, e = .returned (.slice (some ⟨g, 0, none⟩) 2 2) ∧ w.heap.size ≤ g ∧ Blk w' g 72 #[mustRight ao n cap, mustNobody ao n cap] ∧ Below w.heap.size w w' := by
  have hmf : ∀ (fn : Fn) (first cap : Array Value) (w : World), (Instr.makeFunc fn first cap).run Tryz.prog w = .ok (.func fn first cap) w := fun _ _ _ _ => rfl
  obtain ⟨W1, hW1⟩ : ∃ W1, W1 = w.alloc (.cells #[.slice ao n cap] 70) := ⟨_, rfl⟩
  have hb0 : Below w.heap.size w W1 := by rw [hW1]; exact (Below.refl _ _).alloc (Nat.le_refl _) _
  have k1 : Blk W1 w.heap.size 70 #[.slice ao n cap] := by rw [hW1]; exact Blk.new _ _ _
  have e0 := k1.cell 0
  go_enter Tryz.func38, Tryz.ntmps38
  go_upto_region 1 with fail
  rw [← hW1]
  clear hW1
  go_wp2
  go_ret
  exact ⟨_, rfl, hb0.size, Blk.new _ _ _, hb0.alloc hb0.size _⟩
set_option maxHeartbeats 2000000 in
set_option maxRecDepth 100000 in
theorem implSound_any (B : Nat) (ao : Option Addr) (n cap : Nat) (es : List Ent) (w : World) (hx : Ents B w ao n cap es) (hB : B ≤ w.heap.size) :
    Calls Tryz.prog 16 #[.slice ao n cap] w (Says (.bool (soundE es)) w) := by
  have hno : bookOk es = false → soundE es = false := sound_no
  have hyes : bookOk es = true → soundE es = decide (HeldUp es 4) := sound_yes
  have hR := fun w' (hb : Below w.heap.size w w') => right_any B ao n cap es w' (hx.below hb hB (Nat.le_refl B)) (by have := hb.size; omega)
  have hN := fun (ok : bookOk es = true) w' (hb : Below w.heap.size w w') => nobody_any B ao n cap es w' (hx.below hb hB (Nat.le_refl B)) (by have := hb.size; omega) ok
  generalize soundE es = r at hno hyes
  generalize decide (HeldUp es 4) = u at hyes hN
  generalize bookOk es = b at hno hyes hR hN
  have HNO := Lib.hid hno; have HYES := Lib.hid hyes; have HR := Lib.hid hR; have HN := Lib.hid hN; clear hno hyes hR hN
  go_enter Tryz.func16, Tryz.ntmps16
  go_wp2_with fail
  refine (musts_any ao n cap _).mono ?_
  rintro e w1 ⟨g, rfl, hg, hk1, hb1⟩
  go_wp2
  go_loopw [9] (fun sk wr => ∃ k : Nat, k ≤ 2 ∧ sk = .int .i64 k ∧ (0 < k → Hid (b = true)) ∧ (1 < k → Hid (u = true)) ∧ Below w.heap.size w wr ∧ Blk wr g 72 #[mustRight ao n cap, mustNobody ao n cap]) (fun sk _ => 2 - (intOf sk).toNat)
  case atStart => exact ⟨0, by omega, rfl, fun h => absurd h (by omega), fun h => absurd h (by omega), hb1, hk1⟩
  case round =>
    obtain ⟨k, hk, rfl, hbt, hut, hbel, hblk⟩ := hrel
    match k, hk with
    | 0, _ =>
      have e0 := hblk.cell 0
      unfold mustRight at e0
      have hl := hblk.lt
      have hc := HR.out wr hbel
      clear hbt hut
      go_wp2_with fail
      refine hc.mono ?_
      rintro e w2 ⟨rfl, hb2⟩
      have hB2 := hbel.trans (hb2.mono hbel.size)
      have hk2 := hblk.below hb2 hl
      rcases b with _ | _
      · have hr := HNO.out rfl
        subst hr
        go_wp2
        go_ret
        exact ⟨rfl, hB2⟩
      · go_wp2
        go_roundw
        case rel => exact ⟨1, by omega, by go_num, fun _ => Lib.hid (by first | trivial | rfl), fun h => absurd h (by omega), hB2, hk2⟩
        case measure => simp [intOf]
    | 1, _ =>
      have e0 := hblk.cell 1
      unfold mustNobody at e0
      have hl := hblk.lt
      have hbt' := (hbt (by omega)).out
      have hc := HN.out hbt' wr hbel
      have hr := HYES.out hbt'
      subst hr
      have HB := Lib.hid hbt'
      clear hbt hut hbt'
      go_wp2_with fail
      refine hc.mono ?_
      rintro e w2 ⟨rfl, hb2⟩
      have hB2 := hbel.trans (hb2.mono hbel.size)
      have hk2 := hblk.below hb2 hl
      rcases r with _ | _
      · go_wp2
        go_ret
        exact ⟨rfl, hB2⟩
      · go_wp2
        go_roundw
        case rel => exact ⟨2, by omega, by go_num, fun _ => HB, fun _ => Lib.hid (by first | trivial | rfl), hB2, hk2⟩
        case measure => simp [intOf]
    | 2, _ =>
      have hr := HYES.out (hbt (by omega)).out
      rw [(hut (by omega)).out] at hr
      clear hbt hut
      go_wp2
      go_ret
      exact ⟨ret_bool hr.symm, hbel⟩
end Go.Proofs.YtccoljbnddfmpaaGreatDoor

namespace Go.Proofs.YtccoljbnddfmpaaGreatDoor
open Go.RowKit Go.Extern.Stop Go.Stop Go.Extern
theorem Tryz.isTypeOf (v : Value) (w : World) : (Extern.ReflectliteType.typeOf #[.iface 195 v]).run Tryz.prog w = .ok (.iface 160 (.agg #[.pointer (some ⟨3, 195, none⟩)])) w := by kernel_rfl
theorem Tryz.isComparable (w : World) : ((Extern.ReflectliteType.method fun t => do Rtype.noPackHeld "Comparable" t; (fun a => Value.bool a.comparable) <$> typeInfo t) #[.agg #[.pointer (some ⟨3, 195, none⟩)]]).run Tryz.prog w = .ok (.bool true) w := by kernel_rfl
theorem Tryz.isMethodComparable (v : Value) (w : World) : (Go.method 329 160 v "Comparable").run Tryz.prog w = .ok (160, v) w := by kernel_rfl
theorem Tryz.isComp : (Tryz.prog.info? 195).map (·.comparable) = some true := by kernel_rfl
theorem Tryz.isSize : (Tryz.prog.info? 217).map (·.size) = some 1 := by kernel_rfl
theorem Tryz.noIsE (v : Value) (xT : TypeId) (w : World) : (Instr.typeAssert (.iface 195 v) xT 162 true).run Tryz.prog w = .ok (.tuple #[.nilIface, .bool false]) w := run_typeAssert_lacksB Tryz.underlying162 (by kernel_rfl) (by kernel_rfl) v xT w
theorem Tryz.noUnwrapE (v : Value) (xT : TypeId) (w : World) : (Instr.typeAssert (.iface 195 v) xT 165 true).run Tryz.prog w = .ok (.tuple #[.nilIface, .bool false]) w := run_typeAssert_lacksB Tryz.underlying165 (by kernel_rfl) (by kernel_rfl) v xT w
theorem Tryz.noUnwrapsE (v : Value) (xT : TypeId) (w : World) : (Instr.typeAssert (.iface 195 v) xT 167 true).run Tryz.prog w = .ok (.tuple #[.nilIface, .bool false]) w := run_typeAssert_lacksB Tryz.underlying167 (by kernel_rfl) (by kernel_rfl) v xT w
theorem Tryz.noAsE (v : Value) (xT : TypeId) (w : World) : (Instr.typeAssert (.iface 195 v) xT 172 true).run Tryz.prog w = .ok (.tuple #[.nilIface, .bool false]) w := run_typeAssert_lacksB Tryz.underlying172 (by kernel_rfl) (by kernel_rfl) v xT w
theorem Tryz.noIsL (v : Value) (xT : TypeId) (w : World) : (Instr.typeAssert (.iface 97 v) xT 162 true).run Tryz.prog w = .ok (.tuple #[.nilIface, .bool false]) w := run_typeAssert_lacksB Tryz.underlying162 (by kernel_rfl) (by kernel_rfl) v xT w
theorem Tryz.noUnwrapL (v : Value) (xT : TypeId) (w : World) : (Instr.typeAssert (.iface 97 v) xT 165 true).run Tryz.prog w = .ok (.tuple #[.nilIface, .bool false]) w := run_typeAssert_lacksB Tryz.underlying165 (by kernel_rfl) (by kernel_rfl) v xT w
theorem Tryz.noUnwrapsL (v : Value) (xT : TypeId) (w : World) : (Instr.typeAssert (.iface 97 v) xT 167 true).run Tryz.prog w = .ok (.tuple #[.nilIface, .bool false]) w := run_typeAssert_lacksB Tryz.underlying167 (by kernel_rfl) (by kernel_rfl) v xT w
theorem Tryz.noIsR (v : Value) (xT : TypeId) (w : World) : (Instr.typeAssert (.iface 90 v) xT 162 true).run Tryz.prog w = .ok (.tuple #[.nilIface, .bool false]) w := run_typeAssert_lacksB Tryz.underlying162 (by kernel_rfl) (by kernel_rfl) v xT w
theorem Tryz.noAsR (v : Value) (xT : TypeId) (w : World) : (Instr.typeAssert (.iface 90 v) xT 172 true).run Tryz.prog w = .ok (.tuple #[.nilIface, .bool false]) w := run_typeAssert_lacksB Tryz.underlying172 (by kernel_rfl) (by kernel_rfl) v xT w
theorem Tryz.hasUnwrapR (v : Value) (xT : TypeId) (w : World) : (Instr.typeAssert (.iface 90 v) xT 165 true).run Tryz.prog w = .ok (.tuple #[.iface 90 v, .bool true]) w := run_typeAssert_hasB Tryz.underlying165 (by kernel_rfl) v xT w
theorem Tryz.methodUnwrapR (v : Value) (w : World) : (Go.method 329 90 v "Unwrap").run Tryz.prog w = .ok (153, v) w := by kernel_rfl
theorem Tryz.valueOfT (t : Addr) (w : World) : (ReflectliteValue.unpack (.iface 100 (.pointer (some t)))).run Tryz.prog w
    = .ok (.agg #[.pointer (some ⟨3, 100, none⟩), .pointer (some ⟨w.heap.size, 0, none⟩), .int .u64 150]) (w.alloc (.cells #[.pointer (some t)] 100)) := by kernel_rfl
theorem Tryz.typeT (a : Addr) (w : World) : (ReflectliteValue.methodAny (ReflectliteValue.valueError "reflectlite.Value.Type" 0) (fun t _ _ _ => ReflectliteType.toType t) #[.agg #[.pointer (some ⟨3, 100, none⟩), .pointer (some a), .int .u64 150]]).run Tryz.prog w
    = .ok (.iface 160 (.agg #[.pointer (some ⟨3, 100, none⟩)])) w := by kernel_rfl
theorem Tryz.methodKind (h : Value) (w : World) : (Go.method 329 160 (.agg #[h]) "Kind").run Tryz.prog w = .ok (149, h) w := by kernel_rfl
theorem Tryz.kindT (w : World) : ((ReflectliteType.abiMethod fun t => (fun a : Nat => Value.int IntKind.u8 (a : Int)) <$> Rtype.kind t) #[.pointer (some ⟨3, 100, none⟩)]).run Tryz.prog w = .ok (.int .u8 22) w := by kernel_rfl
theorem Tryz.kindL (w : World) : ((ReflectliteType.abiMethod fun t => (fun a : Nat => Value.int IntKind.u8 (a : Int)) <$> Rtype.kind t) #[.pointer (some ⟨3, 97, none⟩)]).run Tryz.prog w = .ok (.int .u8 25) w := by kernel_rfl
theorem Tryz.partsT (a : Addr) (w : World) : (ReflectliteValue.parts (.agg #[.pointer (some ⟨3, 100, none⟩), .pointer (some a), .int .u64 150])).run Tryz.prog w = .ok (some (100, a, 150)) w := by kernel_rfl
theorem Tryz.isNilT (a p : Addr) (W : World) (ha : W.cell? a = some (.pointer (some p))) :
    (ReflectliteValue.method (ReflectliteValue.valueError "reflectlite.Value.IsNil" 0) ReflectliteValue.isNil #[.agg #[.pointer (some ⟨3, 100, none⟩), .pointer (some a), .int .u64 150]]).run Tryz.prog W = .ok (.bool false) W := by
  rw [show ∀ z f v, ReflectliteValue.method z f #[v] = Bind.bind (ReflectliteValue.parts v) _ from fun _ _ _ => rfl]
  simp only [Sem.run_bind, Tryz.partsT, Result.andThen]
  simp [ReflectliteValue.isNil, loadVar, isAgg, underlying, Tryz.underlying100, ha, Result.andThen]
theorem Tryz.methodElem (h : Value) (w : World) : (Go.method 329 160 (.agg #[h]) "Elem").run Tryz.prog w = .ok (161, .agg #[h]) w := by kernel_rfl
theorem Tryz.methodImplements (h : Value) (w : World) : (Go.method 329 160 (.agg #[h]) "Implements").run Tryz.prog w = .ok (162, .agg #[h]) w := by kernel_rfl
theorem Tryz.methodAssignableTo (h : Value) (w : World) : (Go.method 329 160 (.agg #[h]) "AssignableTo").run Tryz.prog w = .ok (159, .agg #[h]) w := by kernel_rfl
theorem Tryz.elemT (w : World) : (ReflectliteType.method ReflectliteType.elem #[.agg #[.pointer (some ⟨3, 100, none⟩)]]).run Tryz.prog w = .ok (.iface 160 (.agg #[.pointer (some ⟨3, 97, none⟩)])) w := by kernel_rfl
theorem Tryz.implementsL (w : World) : (ReflectliteType.relation "Implements" ReflectliteType.implements_ #[.agg #[.pointer (some ⟨3, 97, none⟩)], .iface 160 (.agg #[.pointer (some ⟨3, 57, none⟩)])]).run Tryz.prog w = .ok (.bool true) w := by kernel_rfl
theorem Tryz.typeOfL (v : Value) (w : World) : (ReflectliteType.typeOf #[.iface 97 v]).run Tryz.prog w = .ok (.iface 160 (.agg #[.pointer (some ⟨3, 97, none⟩)])) w := by kernel_rfl
theorem Tryz.typeOfR (v : Value) (w : World) : (ReflectliteType.typeOf #[.iface 90 v]).run Tryz.prog w = .ok (.iface 160 (.agg #[.pointer (some ⟨3, 90, none⟩)])) w := by kernel_rfl
theorem Tryz.assignL (w : World) : (ReflectliteType.relation "AssignableTo" ReflectliteType.assignableTo #[.agg #[.pointer (some ⟨3, 97, none⟩)], .iface 160 (.agg #[.pointer (some ⟨3, 97, none⟩)])]).run Tryz.prog w = .ok (.bool true) w := by kernel_rfl
theorem Tryz.assignR (w : World) : (ReflectliteType.relation "AssignableTo" ReflectliteType.assignableTo #[.agg #[.pointer (some ⟨3, 90, none⟩)], .iface 160 (.agg #[.pointer (some ⟨3, 97, none⟩)])]).run Tryz.prog w = .ok (.bool false) w := by kernel_rfl
theorem Tryz.assignE (w : World) : (ReflectliteType.relation "AssignableTo" ReflectliteType.assignableTo #[.agg #[.pointer (some ⟨3, 195, none⟩)], .iface 160 (.agg #[.pointer (some ⟨3, 97, none⟩)])]).run Tryz.prog w = .ok (.bool false) w := by kernel_rfl
theorem Tryz.valueOfL (x y : Value) (w : World) : (ReflectliteValue.unpack (.iface 97 (.agg #[x, y]))).run Tryz.prog w
    = .ok (.agg #[.pointer (some ⟨3, 97, none⟩), .pointer (some ⟨w.heap.size, 0, none⟩), .int .u64 153]) (w.alloc (.cells #[x, y] 97)) := by kernel_rfl
theorem Tryz.elemOfT (w : World) : (Rtype.elem? 100).run Tryz.prog w = .ok (some 97) w := by kernel_rfl
theorem Tryz.mkL (p : Addr) (w : World) : (ReflectliteValue.mk 97 p ReflectliteValue.flagAddr).run Tryz.prog w = .ok (.agg #[.pointer (some ⟨3, 97, none⟩), .pointer (some p), .int .u64 409]) w := by kernel_rfl
theorem Tryz.elemVT (a p : Addr) (W : World) (ha : W.cell? a = some (.pointer (some p))) :
    (ReflectliteValue.method (ReflectliteValue.valueError "reflectlite.Value.Elem" 0) ReflectliteValue.elem #[.agg #[.pointer (some ⟨3, 100, none⟩), .pointer (some a), .int .u64 150]]).run Tryz.prog W
      = .ok (.agg #[.pointer (some ⟨3, 97, none⟩), .pointer (some p), .int .u64 409]) W := by
  rw [show ∀ z f v, ReflectliteValue.method z f #[v] = Bind.bind (ReflectliteValue.parts v) _ from fun _ _ _ => rfl]
  simp only [Sem.run_bind, Tryz.partsT, Result.andThen]
  simp [ReflectliteValue.elem, loadVar, isAgg, underlying, Tryz.underlying100, ha, Result.andThen, Tryz.elemOfT, Tryz.mkL]
theorem Tryz.partsLa (a : Addr) (w : World) : (ReflectliteValue.parts (.agg #[.pointer (some ⟨3, 97, none⟩), .pointer (some a), .int .u64 409])).run Tryz.prog w = .ok (some (97, a, 409)) w := by kernel_rfl
theorem Tryz.partsL (a : Addr) (w : World) : (ReflectliteValue.parts (.agg #[.pointer (some ⟨3, 97, none⟩), .pointer (some a), .int .u64 153])).run Tryz.prog w = .ok (some (97, a, 153)) w := by kernel_rfl
theorem Tryz.directL (w : World) : (Rtype.directlyAssignable 97 97).run Tryz.prog w = .ok true w := by kernel_rfl
structure Errs (w : World) (a0 a1 : Addr) : Prop where
  short : w.cell? ⟨0, 0, none⟩ = some (.iface 195 (.pointer (some a0)))
  bad : w.cell? ⟨1, 0, none⟩ = some (.iface 195 (.pointer (some a1)))
  type : w.cell? ⟨2, 0, none⟩ = some (.iface 160 (.agg #[.pointer (some ⟨3, 57, none⟩)]))
  ne : a0 ≠ a1
  row0 : ∃ c t, w.heap[a0.block]? = some (.cells c t (0, 0))
  row1 : ∃ c t, w.heap[a1.block]? = some (.cells c t (0, 0))
theorem cell_lt {w : World} {a : Addr} {v : Value} (h : w.cell? a = some v) : a.block < w.heap.size := by
  rcases Nat.lt_or_ge a.block w.heap.size with h1 | h1
  · exact h1
  · simp [World.cell?, Array.getElem?_eq_none h1] at h
theorem Errs.below {w w' : World} {a0 a1 : Addr} {B : Nat} (h : Errs w a0 a1) (hb : Below B w w') (hB : w.heap.size ≤ B) : Errs w' a0 a1 := by
  obtain ⟨h1, h2, h3, h4, ⟨c0, t0, h5⟩, ⟨c1, t1, h6⟩⟩ := h
  have l1 := cell_lt h1
  have l2 := cell_lt h2
  have l3 := cell_lt h3
  have l5 := (Array.getElem?_eq_some_iff.1 h5).1
  have l6 := (Array.getElem?_eq_some_iff.1 h6).1
  exact ⟨(hb.cell (by exact Nat.lt_of_lt_of_le l1 hB)).trans h1, (hb.cell (by exact Nat.lt_of_lt_of_le l2 hB)).trans h2, (hb.cell (by exact Nat.lt_of_lt_of_le l3 hB)).trans h3, h4,
    ⟨c0, t0, (hb.block _ (by omega)).trans h5⟩, ⟨c1, t1, (hb.block _ (by omega)).trans h6⟩⟩
end Go.Proofs.YtccoljbnddfmpaaGreatDoor

namespace Go.Proofs.YtccoljbnddfmpaaGreatDoor
open Go.RowKit
set_option maxHeartbeats 2000000 in
set_option maxRecDepth 100000 in
theorem implDeedOk_any (k n t m : Int) (w : World) :
    Calls Tryz.prog 11 #[.agg #[.int .i64 k, .int .i64 n, .int .i64 t, .int .i64 m]] w (Says (.bool (deedOk k n t m)) w) := by
  have h1 := fun w => isNode_any n w
  have h2 := fun w => isFromOne_any m 1000000 w
  have h3 := fun w => isNode_any t w
  have hb0 : Below w.heap.size w (w.alloc (.cells #[.int .i64 k, .int .i64 n, .int .i64 t, .int .i64 m] 26)) := (Below.refl _ _).alloc (Nat.le_refl _) _
  have e1 : inB n 0 3 = false → deedOk k n t m = false := deedOk_n
  have e2 : inB m 1 1000000 = false → deedOk k n t m = false := deedOk_m
  have e3 : inB n 0 3 = true → inB m 1 1000000 = true → deedOk k n t m = (if k = 1 ∨ k = 3 then t == 0 else if k = 2 then inB t 0 3 && !(t == n) else false) := deedOk_at
  generalize deedOk k n t m = r at e1 e2 e3
  generalize inB n 0 3 = b1 at h1 e1 e3
  generalize inB m 1 1000000 = b2 at h2 e2 e3
  generalize inB t 0 3 = b3 at h3 e3
  rcases b1 with _ | _
  · have hr := e1 rfl
    subst hr
    clear e1 e2 e3
    go_enter Tryz.func11, Tryz.ntmps11
    go_wp2_with fail
    refine (h1 _).mono ?_
    rintro e w' ⟨rfl, rfl⟩
    go_wp2_with fail
    go_ret
    exact ⟨rfl, hb0⟩
  rcases b2 with _ | _
  · have hr := e2 rfl
    subst hr
    clear e1 e2 e3
    go_enter Tryz.func11, Tryz.ntmps11
    go_wp2_with fail
    refine (h1 _).mono ?_
    rintro e w' ⟨rfl, rfl⟩
    go_wp2_with fail
    refine (h2 _).mono ?_
    rintro e w' ⟨rfl, rfl⟩
    go_wp2_with fail
    go_ret
    exact ⟨rfl, hb0⟩
  have hr := e3 rfl rfl
  clear e1 e2 e3
  by_cases k1 : k = 1
  · subst k1
    rw [if_pos (.inl rfl)] at hr
    have HR := Lib.hid hr; clear hr
    go_enter Tryz.func11, Tryz.ntmps11
    go_wp2_with fail
    refine (h1 _).mono ?_
    rintro e w' ⟨rfl, rfl⟩
    go_wp2_with fail
    refine (h2 _).mono ?_
    rintro e w' ⟨rfl, rfl⟩
    go_wp2_with fail
    go_ret
    exact ⟨ret_bool HR.out.symm, hb0⟩
  by_cases k3 : k = 3
  · subst k3
    rw [if_pos (.inr rfl)] at hr
    have HR := Lib.hid hr; clear hr k1
    go_enter Tryz.func11, Tryz.ntmps11
    go_wp2_with fail
    refine (h1 _).mono ?_
    rintro e w' ⟨rfl, rfl⟩
    go_wp2_with fail
    refine (h2 _).mono ?_
    rintro e w' ⟨rfl, rfl⟩
    go_wp2_with fail
    go_ret
    exact ⟨ret_bool HR.out.symm, hb0⟩
  rw [if_neg (fun h => h.elim k1 k3)] at hr
  have k1' : (k == 1) = false := by simpa using k1
  have k3' : (k == 3) = false := by simpa using k3
  by_cases k2 : k = 2
  · subst k2
    rw [if_pos rfl] at hr
    have HR := Lib.hid hr; clear hr k1 k3 k1' k3'
    go_enter Tryz.func11, Tryz.ntmps11
    go_wp2_with fail
    refine (h1 _).mono ?_
    rintro e w' ⟨rfl, rfl⟩
    go_wp2_with fail
    refine (h2 _).mono ?_
    rintro e w' ⟨rfl, rfl⟩
    go_wp2_with fail
    refine (h3 _).mono ?_
    rintro e w' ⟨rfl, rfl⟩
    rcases b3 with _ | _
    · go_wp2_with fail
      go_ret
      exact ⟨ret_bool HR.out.symm, hb0⟩
    · go_wp2_with fail
      go_ret
      exact ⟨ret_bool (by rw [HR.out]; simp [bne]), hb0⟩
  · rw [if_neg k2] at hr
    have k2' : (k == 2) = false := by simpa using k2
    subst hr
    clear k1 k2 k3
    go_enter Tryz.func11, Tryz.ntmps11
    go_wp2_with fail
    refine (h1 _).mono ?_
    rintro e w' ⟨rfl, rfl⟩
    go_wp2_with fail
    refine (h2 _).mono ?_
    rintro e w' ⟨rfl, rfl⟩
    go_wp2_with fail
    go_ret
    exact ⟨rfl, hb0⟩
theorem deed_kind {k n t m : Int} (h : deedOk k n t m = true) : k = 1 ∨ k = 2 ∨ k = 3 := by
  by_cases h1 : k = 1
  · exact .inl h1
  by_cases h2 : k = 2
  · exact .inr (.inl h2)
  by_cases h3 : k = 3
  · exact .inr (.inr h3)
  simp [deedOk, h1, h2, h3] at h
set_option maxHeartbeats 1000000 in
theorem implSlotOf_any (k n t m : Int) (w : World) (hk : k = 1 ∨ k = 2 ∨ k = 3) :
    Calls Tryz.prog 82 #[.agg #[.int .i64 k, .int .i64 n, .int .i64 t, .int .i64 m]] w (Says (.int .i64 (slotOf k n t)) w) := by
  have hb0 : Below w.heap.size w (w.alloc (.cells #[.int .i64 k, .int .i64 n, .int .i64 t, .int .i64 m] 26)) := (Below.refl _ _).alloc (Nat.le_refl _) _
  rcases hk with rfl | rfl | rfl
  · have hv : slotOf 1 n t = n := rfl
    rw [hv]
    go_enter Tryz.func82, Tryz.ntmps82
    go_wp2
    go_ret
    exact ⟨rfl, hb0⟩
  · have hv : slotOf 2 n t = t := rfl
    rw [hv]
    go_enter Tryz.func82, Tryz.ntmps82
    go_wp2
    go_ret
    exact ⟨rfl, hb0⟩
  · have hv : slotOf 3 n t = 4 := rfl
    rw [hv]
    go_enter Tryz.func82, Tryz.ntmps82
    go_wp2
    go_ret
    exact ⟨rfl, hb0⟩
end Go.Proofs.YtccoljbnddfmpaaGreatDoor
