/-
  '==' of two vectors inside the program: a struct that holds an array of four numbers.
-/
import Derived.Test.YtbpoojibbakpnaaBase
import Derived.Laws.StructEq
namespace Go.Proofs.Ytbpoojibbakpnaa
open Go.RowKit

theorem vecFields : (Try.prog.fieldsOf 47).toList.map (fun f => (f.name == "_", f.type, f.offset)) = [(false, 45, 0)] := by kernel_rfl
theorem vecUnder : Try.prog.underlying 47 = some (.struct (Try.prog.fieldsOf 47)) := by kernel_rfl
theorem vecHeld : Try.prog.stoodInHeld 47 = false := by kernel_rfl

theorem arr_eq (d : Nat) (a b c e p q r s : Int) (w : World) :
    (Op.equalIn (d + 2) 45 (.agg #[.int .i64 a, .int .i64 b, .int .i64 c, .int .i64 e]) (.agg #[.int .i64 p, .int .i64 q, .int .i64 r, .int .i64 s])).run Try.prog w = .ok (decide (a = p ∧ b = q ∧ c = r ∧ e = s)) w := by
  have hu : Try.prog.underlying 45 = some (.array 4 2) := by kernel_rfl
  have hu2 : Try.prog.underlying 2 = some (.int .i64) := by kernel_rfl
  rw [Op.equalIn]
  simp [run_underlying hu, part, run_equalIn_int _ _ _ _ _ _ _ hu2, Std.Legacy.Range.forIn_eq_forIn_range', List.range', Std.Legacy.Range.size]
  by_cases h1 : a = p <;> by_cases h2 : b = q <;> by_cases h3 : c = r <;> by_cases h4 : e = s <;> simp [h1, h2, h3, h4]

theorem vec_eql (a b c e p q r s : Int) (w : World) :
    (binOp .eql 47 (.agg #[.int .i64 a, .int .i64 b, .int .i64 c, .int .i64 e]) (.agg #[.int .i64 p, .int .i64 q, .int .i64 r, .int .i64 s])).run Try.prog w = .ok (.bool (decide (a = p ∧ b = q ∧ c = r ∧ e = s))) w := by
  rw [run_eql_struct, run_equalIn_struct w 9999 47 _ _ vecUnder vecHeld]
  have hf := vecFields
  generalize (Try.prog.fieldsOf 47).toList = fs at hf ⊢
  obtain ⟨f, rfl⟩ := List.length_eq_one_iff.1 (show fs.length = 1 by simpa using congrArg List.length hf)
  simp only [List.map_cons, List.map_nil, List.cons.injEq, Prod.mk.injEq, beq_eq_false_iff_ne, and_true] at hf
  obtain ⟨h1, h2, h3⟩ := hf
  have hq := fun w => arr_eq 9997 a b c e p q r s w
  simp only [Nat.reduceAdd] at hq
  simp [Op.eqFields, h1, h2, h3, part, hq]
  by_cases h1 : a = p <;> by_cases h2 : b = q <;> by_cases h3 : c = r <;> by_cases h4 : e = s <;> simp [h1, h2, h3, h4]

end Go.Proofs.Ytbpoojibbakpnaa
