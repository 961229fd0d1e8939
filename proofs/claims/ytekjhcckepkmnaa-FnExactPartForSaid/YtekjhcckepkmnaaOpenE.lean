/-
  Opening a law's arguments: a slice of entries that came in (Ents).
-/
import Derived.Test.YtekjhcckepkmnaaEnts
import Derived.Test.YtekjhcckepkmnaaOpen0
import Derived.Lib.SmallJoins
namespace Go.Proofs.Ytekjhcckepkmnaa
open Go.ChangeShapes Go.WideShapes Go.ChangeAt Go.RowKit Go.Joins Go.Deep

instance : Inhabited Ent := ⟨zeroE⟩

theorem list4 {α : Type} {cs : List α} (h : cs.length = 4) : ∃ c0 c1 c2 c3, cs = [c0, c1, c2, c3] := by
  match cs, h with
  | [c0, c1, c2, c3], _ => exact ⟨c0, c1, c2, c3, rfl⟩

set_option maxRecDepth 100000 in
theorem open_ents {H : Type} {enc : TypeId × Value → H} {W : World} {v : Value} {d : DataW H} {p : List MemPlace}
    (hv : Value.okWide Try.prog W .any 0 37 v) (h : DataW.Trod enc Try.prog W 0 (fun _ => true) true 37 v d p) (hlt : ∀ x ∈ p, x.block < W.heap.size) :
    ∃ ao n cap es, v = .slice ao n cap ∧ Ents W.heap.size W ao n cap es := by
  obtain ⟨a0, len, cap, rfl⟩ := okWide_slice Try.underlying37 hv
  obtain ⟨fuel, hf⟩ := h
  have hC : Try.prog.cellsOf 60 = 4 := by kernel_rfl
  rcases open_slice Try.underlying37 hf with ⟨hcs, hx⟩ | ⟨a, len', cap', m, n, D, Pl, hcs, _, hl, hm, hmm, hx, hi⟩
  · simp [Value.cells] at hcs
    obtain ⟨rfl, rfl, rfl⟩ := hcs
    exact ⟨none, 0, 0, [], rfl, rfl, Nat.le_refl _, by unfold maxLen; omega, fun j hj => by omega, fun x hx => by cases hx⟩
  · simp [Value.cells] at hcs
    obtain ⟨rfl, rfl, rfl⟩ := hcs
    simp only [if_true] at hmm
    subst m
    simp only [Prod.mk.injEq] at hx
    obtain ⟨rfl, rfl⟩ := hx
    rw [hC] at hi hlt
    have hel : ∀ i, i < cap → ∃ e : Ent, e.wf ∧ W.cell? ((a.add (i * 4)).add 0) = some (.int .i64 e.o) ∧ W.cell? ((a.add (i * 4)).add 1) = some (.int .i64 e.s) ∧ W.cell? ((a.add (i * 4)).add 2) = some (.int .i64 e.a) ∧ W.cell? ((a.add (i * 4)).add 3) = some (.int .i64 e.d) := by
      intro i hic
      obtain ⟨cs', h1, h2⟩ := hi i hic
      obtain ⟨_, hlen, hcell⟩ := World.cells?_some h1
      obtain ⟨c0, c1, c2, c3, rfl⟩ := list4 hlen
      obtain ⟨y0, y1, y2, y3, n', _, _, g0, g1, g2, g3⟩ := trod_struct4 Try.underlying60 h2
      simp [Try.cells64] at g0 g1 g2 g3
      obtain ⟨o, e0, _, w0⟩ := DataW.trod_int Try.underlying2 g0
      obtain ⟨s, e1, _, w1⟩ := DataW.trod_int Try.underlying2 g1
      obtain ⟨am, e2, _, w2⟩ := DataW.trod_int Try.underlying2 g2
      obtain ⟨dt, e3, _, w3⟩ := DataW.trod_int Try.underlying2 g3
      simp at e0 e1 e2 e3
      subst e0 e1 e2 e3
      exact ⟨⟨o, s, am, dt⟩, ⟨i64_of_wf w0, i64_of_wf w1, i64_of_wf w2, i64_of_wf w3⟩, hcell 0 (by omega), hcell 1 (by omega), hcell 2 (by omega), hcell 3 (by omega)⟩
    obtain ⟨V, hV⟩ := choose_lt (α := Ent) hel
    refine ⟨some a, len, cap, (List.range len).map V, rfl, by simp, hl, hm, fun j hj => ?_, fun x hx => ?_⟩
    · obtain ⟨b, off, spot⟩ := a
      have hspot : spot = none := by simpa [Addr.add] using World.cell?_spot (hV 0 (by omega)).2.1
      subst hspot
      have hbW : b < W.heap.size := hlt (.cell b off) (List.mem_append_left _ (MemPlace.mem_row.2 ⟨0, by omega, by simp⟩))
      have hE : E ((List.range len).map V) j = V j := by rw [E_get (by simpa using hj)]; simp
      obtain ⟨_, h0, h1, h2, h3⟩ := hV j (by omega)
      rw [Addr.add_lit, Addr.add_lit] at h0 h1 h2 h3
      rw [hE]
      exact ⟨b, off, rfl, hbW, h0, h1, h2, h3⟩
    · simp only [List.mem_map, List.mem_range] at hx
      obtain ⟨i, hi', rfl⟩ := hx
      exact (hV i (by omega)).1

set_option maxRecDepth 100000 in
/-- A struct of four numbers that came in, within their range. -/
theorem open_entw {H : Type} {enc : TypeId × Value → H} {W : World} {v : Value} {d : DataW H} {p : List MemPlace}
    (hv : Value.okWide Try.prog W .any 0 60 v) (h : DataW.Trod enc Try.prog W 0 (fun _ => true) true 60 v d p) :
    ∃ e : Ent, v = .agg #[.int .i64 e.o, .int .i64 e.s, .int .i64 e.a, .int .i64 e.d] ∧ e.wf := by
  obtain ⟨c0, c1, c2, c3, y0, y1, y2, y3, m, rfl, rfl, rfl, h0, h1, h2, h3⟩ := open_agg4 Try.underlying60 (by kernel_rfl) (by kernel_rfl) hv h
  obtain ⟨o, e0, _, w0⟩ := DataW.trod_int Try.underlying2 h0
  obtain ⟨s, e1, _, w1⟩ := DataW.trod_int Try.underlying2 h1
  obtain ⟨a, e2, _, w2⟩ := DataW.trod_int Try.underlying2 h2
  obtain ⟨d, e3, _, w3⟩ := DataW.trod_int Try.underlying2 h3
  simp at e0 e1 e2 e3
  subst e0 e1 e2 e3
  exact ⟨⟨o, s, a, d⟩, rfl, i64_of_wf w0, i64_of_wf w1, i64_of_wf w2, i64_of_wf w3⟩

end Go.Proofs.Ytekjhcckepkmnaa
