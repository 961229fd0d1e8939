/-
  laws.toEntry; a struct of four numbers that came in (open_ent).
-/
import Derived.Test.YtekjhcckepkmnaaEntry
import Derived.Test.YtekjhcckepkmnaaOpen0
import Derived.Lib.SmallJoins
namespace Go.Proofs.Ytekjhcckepkmnaa
open Go.RowKit

set_option maxHeartbeats 1000000 in
set_option maxRecDepth 100000 in
theorem toEntry_any (o s a d : Int) (w : World) :
    Calls Try.prog 35 #[.agg #[.int .i64 o, .int .i64 s, .int .i64 a, .int .i64 d]] w (Says (.agg #[.int .i64 o, .int .i64 s, .int .i64 a, .int .i64 d]) w) := by
  go_enter Try.func35, Try.ntmps35
  go_wp2
  refine bodyPost_ret (v := .agg #[.int .i64 o, .int .i64 s, .int .i64 a, .int .i64 d]) (by simp [results, Try.results35, go_sem]) rfl ?_
  exact ⟨rfl, (((Below.refl _ _).alloc (Nat.le_refl _) _).alloc (by simp) _).alloc (by simp; omega) _⟩

set_option maxRecDepth 100000 in
open Go.ChangeShapes Go.WideShapes Go.ChangeAt Go.Joins in
/-- A struct of four numbers that came in. -/
theorem open_ent {H : Type} {enc : TypeId × Value → H} {W : World} {v : Value} {d : DataW H} {p : List MemPlace}
    (hv : Value.okWide Try.prog W .any 0 60 v) (h : DataW.Trod enc Try.prog W 0 (fun _ => true) true 60 v d p) :
    ∃ o s a d : Int, v = .agg #[.int .i64 o, .int .i64 s, .int .i64 a, .int .i64 d] := by
  obtain ⟨c0, c1, c2, c3, y0, y1, y2, y3, m, rfl, rfl, rfl, h0, h1, h2, h3⟩ := open_agg4 Try.underlying60 (by kernel_rfl) (by kernel_rfl) hv h
  obtain ⟨o, e0, _, _⟩ := DataW.trod_int Try.underlying2 h0
  obtain ⟨s, e1, _, _⟩ := DataW.trod_int Try.underlying2 h1
  obtain ⟨a, e2, _, _⟩ := DataW.trod_int Try.underlying2 h2
  obtain ⟨d, e3, _, _⟩ := DataW.trod_int Try.underlying2 h3
  simp at e0 e1 e2 e3
  subst e0 e1 e2 e3
  exact ⟨_, _, _, _, rfl⟩

end Go.Proofs.Ytekjhcckepkmnaa
