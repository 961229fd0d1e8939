/-
  Vectors by the dice: spec.l5Draw, l5DrawAny.
-/
import Derived.Test.YtekjhcckepkmnaaDiceNum
import Derived.Test.YtekjhcckepkmnaaAppend
namespace Go.Proofs.Ytekjhcckepkmnaa
open Go.RowKit

/-- The slice's cells lie in blocks from L on. -/
def Far (L : Nat) (ao : Option Addr) : Prop := ∀ b off, ao = some ⟨b, off, none⟩ → L ≤ b
theorem Far.mono {L M : Nat} {ao : Option Addr} (h : Far M ao) (hL : L ≤ M) : Far L ao := fun b off e => Nat.le_trans hL (h b off e)

theorem Ints.keeps {B L g : Nat} {w w' : World} {ao : Option Addr} {n cap : Nat} {xs : List Int} (h : Ints B w ao n cap xs) (hf : Far L ao) (hk : Keeps g w w') (hg : g < L) : Ints B w' ao n cap xs :=
  ⟨h.hlen, h.hcap, h.hmax, fun j hj => by
    obtain ⟨b, off, e, hlt, hc⟩ := h.cell j hj
    refine ⟨b, off, e, hlt, hk.cell hc (fun e2 => ?_)⟩
    have h1 := hf b off e
    have h2 : b = g := Option.some.inj e2
    omega, h.wf⟩
theorem Ints.wider {B C : Nat} {w : World} {ao : Option Addr} {n cap : Nat} {xs : List Int} (h : Ints B w ao n cap xs) (hC : B ≤ C) : Ints C w ao n cap xs := h.below (Below.refl B _) (Nat.le_refl _) hC

theorem Own.far {base : Nat} {w : World} {v : Value} {xs : List Int} (h : Own base w v xs) (hx : AllI64 xs) : ∃ ao cap, v = .slice ao xs.length cap ∧ Ints w.heap.size w ao xs.length cap xs ∧ (ao = none → cap = 0) ∧ Far base ao := by
  obtain ⟨ao, cap, rfl, hi, hz⟩ := h.ints' hx
  refine ⟨ao, cap, rfl, hi, hz, fun b off e => ?_⟩
  subst e
  exact (World.ownsRow.lt h b rfl).1

/-- A vector that is drawn: a slice in new memory. -/
def VSaid (B g : Nat) (w : World) (e : Ending) (w' : World) : Prop := ∃ a n c xs, e = .returned (.slice a n c) ∧ Ints w'.heap.size w' a n c xs ∧ Far w.heap.size a ∧ n ≤ 4 ∧ (a = none → c = 0) ∧ Keeps g w w' ∧ Dice B g w'

def VOwnSaid (B g : Nat) (w : World) (e : Ending) (w' : World) : Prop := ∃ v xs, e = .returned v ∧ Own w.heap.size w' v xs ∧ AllI64 xs ∧ xs.length = 4 ∧ Keeps g w w' ∧ Dice B g w'

set_option maxHeartbeats 1000000 in
set_option maxRecDepth 100000 in
theorem l5Draw_any (B g : Nat) (w : World) (hd : Dice B g w) :
    Calls Try.prog 41 #[.pointer (some ⟨g, 0, none⟩)] w (VOwnSaid B g w) := by
  have hg := hd.hg
  have hk0 : Keeps g w (w.alloc (.cells #[] 2)) := Keeps.alloc g w _
  have hd0 := hd.alloc (.cells #[] 2)
  have ho0 := own_empty w
  go_enter Try.func41, Try.ntmps41
  go_wp2
  go_loopw [3, 4] (fun sv si wr => ∃ (i : Nat) (xs : List Int), si = .int .i64 i ∧ i ≤ 4 ∧ Own w.heap.size wr sv xs ∧ AllI64 xs ∧ xs.length = i ∧ Keeps g w wr ∧ Dice B g wr) (fun _ si _ => 4 - (intOf si).toNat)
  case atStart => exact ⟨0, [], rfl, by omega, ho0, fun x hx => (by cases hx), rfl, hk0, hd0⟩
  case round =>
    obtain ⟨i, xs, rfl, hi, hown, hall, hlen, hk, hdr⟩ := hrel
    by_cases hlt : i < 4
    · have i2 : (i : Int) < 4 := by omega
      have hsz := hk.size
      go_wp2_with fail
      refine (l1Below_any B g 22 _ hdr ⟨by decide, by decide⟩).mono ?_
      rintro e w1 ⟨r, rfl, hr, -, ho1, hd1⟩
      have hr : (r : Int) < 22 := hr (by omega)
      have hown1 := hown.keeps ho1.keeps hg
      have hk1 := hk.trans ho1.keeps
      have hs1 := hk1.size
      clear hown hdr hk ho1
      go_wp2_with (at_builtin; refine append_one rfl _ _ rfl w.heap.size _ xs rfl rfl hown1 hs1 (by omega) ?_; intro vA wA hownA hbA)
      have hkA := hk1.then_below hbA
      have hdA := hd1.below' hbA hg
      have hallA : AllI64 (xs ++ [(r : Int)]) := fun x hx => by
        rcases List.mem_append.1 hx with h | h
        · exact hall x h
        · simp at h; subst h; unfold I64; omega
      have hlA : (xs ++ [(r : Int)]).length = i + 1 := by simp; omega
      go_roundw
      case rel => exact ⟨i + 1, xs ++ [(r : Int)], by go_num, by omega, hownA, hallA, hlA, hkA, hdA⟩
      case measure => simp [intOf]; omega
    · have ei : i = 4 := by omega
      subst ei
      go_wp2
      go_ret
      exact ⟨_, xs, rfl, hown, hall, hlen, hk, hdr⟩

set_option maxHeartbeats 1000000 in
set_option maxRecDepth 100000 in
theorem l5DrawAny_any (B g : Nat) (w : World) (hd : Dice B g w) :
    Calls Try.prog 24 #[.pointer (some ⟨g, 0, none⟩)] w (VSaid B g w) := by
  have hg := hd.hg
  go_enter Try.func24, Try.ntmps24
  go_wp2_with fail
  refine (l5Draw_any B g _ hd).mono ?_
  rintro e w1 ⟨v1, xs, rfl, hown1, hall, hlen, hk1, hd1⟩
  obtain ⟨g1, c1, hv1⟩ : ∃ g1 c1, v1 = .slice (some ⟨g1, 0, none⟩) 4 c1 := by
    rcases hown1.2 with ⟨_, h0⟩ | ⟨g1, c1, _, hv, _⟩
    · omega
    · exact ⟨g1, c1, by rw [hv, hlen]⟩
  subst hv1
  go_wp2_with fail
  refine (l1Once_any B g 8 _ hd1 ⟨by decide, by decide⟩).mono ?_
  rintro e w2 ⟨b2, rfl, ho2, hd2⟩
  have hown2 := hown1.keeps ho2.keeps hg
  have hk2 := hk1.trans ho2.keeps
  have hg1 := World.ownsRow.lt hown2 g1 rfl
  clear hown1 hd1 hk1 ho2
  have rest : ∀ (ys : List Int) (w3 : World), Own w.heap.size w3 (.slice (some ⟨g1, 0, none⟩) 4 c1) ys → AllI64 ys → ys.length = 4 → Keeps g w w3 → Dice B g w3 →
      ∀ (b : Bool) (w4 : World), Only g w3 w4 → Dice B g w4 → ∃ a n c zs, (.slice a n c : Value) = (if b then .slice (some ⟨g1, 1, none⟩) 3 (c1 - 1) else .slice (some ⟨g1, 0, none⟩) 4 c1) ∧ Ints w4.heap.size w4 a n c zs ∧ Far w.heap.size a ∧ n ≤ 4 ∧ (a = none → c = 0) ∧ Keeps g w w4 := by
    intro ys w3 hown3 hall3 hlen3 hk3 hd3 b w4 ho4 hd4
    have hown4 := hown3.keeps ho4.keeps hg
    obtain ⟨a4, c4, e4, hi4, hz4, hf4⟩ := hown4.far hall3
    rw [hlen3] at e4 hi4
    simp only [Value.slice.injEq] at e4
    obtain ⟨rfl, -, rfl⟩ := e4
    cases b with
    | false => exact ⟨_, _, _, ys, rfl, hi4, hf4, by omega, hz4, hk3.trans ho4.keeps⟩
    | true =>
      refine ⟨some ⟨g1, 1, none⟩, 3, c1 - 1, ys.drop 1, rfl, ⟨by simp; omega, by have := hi4.hcap; omega, by have := hi4.hmax; omega, fun j hj => ?_, fun x hx => hi4.wf x (List.mem_of_mem_drop hx)⟩, fun b off e => ?_, by omega, (fun h => by cases h), hk3.trans ho4.keeps⟩
      · obtain ⟨b, off, e, hlt, hc⟩ := hi4.cell (j + 1) (by omega)
        cases e
        refine ⟨g1, 1, rfl, hlt, ?_⟩
        have e2 : (ys.drop 1).getD j 0 = ys.getD (j + 1) 0 := by simp [List.getD]
        rw [e2, ← hc]
        congr 1
        congr 1
        omega
      · cases e
        exact hf4 g1 0 rfl
  have HREST := Lib.hid rest; clear rest
  rcases b2 with _ | _
  ·
    go_wp2_with fail
    refine (l1Once_any B g 12 _ hd2 ⟨by decide, by decide⟩).mono ?_
    rintro e w3 ⟨b3, rfl, ho3, hd3⟩
    have hR := Lib.hid (HREST.out xs _ hown2 hall hlen hk2 hd2 b3 w3 ho3 hd3)
    have hcap : 4 ≤ c1 := by
      rcases hown2.2 with ⟨_, h0⟩ | ⟨g', c', _, hv, _, _, hnc, _⟩
      · omega
      · simp only [Value.slice.injEq] at hv
        omega
    have hne : ¬ c1 = 1 := by omega
    have hcI : (4 : Int) ≤ c1 := by omega
    clear HREST
    rcases b3 with _ | _
    · go_wp2
      go_ret
      obtain ⟨a, n, c, zs, e, h⟩ := hR.out
      simp only [Bool.false_eq_true, if_false] at e
      cases e
      exact ⟨_, _, _, zs, rfl, h.1, h.2.1, h.2.2.1, h.2.2.2.1, h.2.2.2.2, hd3⟩
    · go_wp2
      go_ret
      obtain ⟨a, n, c, zs, e, h⟩ := hR.out
      simp only [if_true] at e
      cases e
      exact ⟨_, _, _, zs, rfl, h.1, h.2.1, h.2.2.1, h.2.2.2.1, h.2.2.2.2, hd3⟩
  · go_wp2_with fail
    refine (l1Below_any B g 4 _ hd2 ⟨by decide, by decide⟩).mono ?_
    rintro e w5 ⟨j, rfl, hj, -, ho5, hd5⟩
    have hj : (j : Int) < 4 := hj (by omega)
    have hj4 : j < 4 := by omega
    have hown5 := hown2.keeps ho5.keeps hg
    have hk5 := hk2.trans ho5.keeps
    go_wp2_with fail
    refine (l1Num_any B g 100000 _ hd5 (by decide) (by decide)).mono ?_
    rintro e w6 ⟨x, rfl, hx, hk6, hd6⟩
    have hown6 := hown5.keeps hk6 hg
    have hk06 := hk5.trans hk6
    unfold Own at hown6
    rw [hlen] at hown6
    have q0 : w6.cell? ⟨g1, j, none⟩ = some (.int .i64 (xs.getD j 0)) := by
      rw [hown6.cellAt j (by omega)]
      simp [List.getD, show j < xs.length by omega]
    have f0 := hown6.frozenAt j
    have hst := (hown6.stored j (.int .i64 x)).1
    rw [map_set] at hst
    have hb7 : Below w.heap.size w6 (w6.setCell ⟨g1, j, none⟩ (.int .i64 x)) := (Below.refl _ _).setCell (by exact hg1.1) _
    have hk7 := hk06.then_below hb7
    have hd7 := hd6.below' hb7 hg
    have hlen7 : (xs.set j x).length = 4 := by rw [List.length_set]; exact hlen
    have hall7 : AllI64 (xs.set j x) := fun z hz => by
      rcases List.mem_or_eq_of_mem_set hz with h | h
      · exact hall z h
      · rw [h]; exact hx
    have hown7 : Own w.heap.size (w6.setCell ⟨g1, j, none⟩ (.int .i64 x)) (.slice (some ⟨g1, 0, none⟩) 4 c1) (xs.set j x) := by
      unfold Own
      rw [hlen7]
      exact hst
    have i1 : (0 : Int) ≤ j := by omega
    clear hst hown6 hown5 hk5 hk06 hk6 hd5 hd6 hb7 ho5
    go_wp2_with fail
    refine (l1Once_any B g 12 _ hd7 ⟨by decide, by decide⟩).mono ?_
    rintro e w3 ⟨b3, rfl, ho3, hd3⟩
    have hR := Lib.hid (HREST.out (xs.set j x) _ hown7 hall7 hlen7 hk7 hd7 b3 w3 ho3 hd3)
    have hcap : 4 ≤ c1 := by
      rcases hown2.2 with ⟨_, h0⟩ | ⟨g', c', _, hv, _, _, hnc, _⟩
      · omega
      · simp only [Value.slice.injEq] at hv
        omega
    have hne : ¬ c1 = 1 := by omega
    have hcI : (4 : Int) ≤ c1 := by omega
    clear HREST
    rcases b3 with _ | _
    · go_wp2
      go_ret
      obtain ⟨a, n, c, zs, e, h⟩ := hR.out
      simp only [Bool.false_eq_true, if_false] at e
      cases e
      exact ⟨_, _, _, zs, rfl, h.1, h.2.1, h.2.2.1, h.2.2.2.1, h.2.2.2.2, hd3⟩
    · go_wp2
      go_ret
      obtain ⟨a, n, c, zs, e, h⟩ := hR.out
      simp only [if_true] at e
      cases e
      exact ⟨_, _, _, zs, rfl, h.1, h.2.1, h.2.2.1, h.2.2.2.1, h.2.2.2.2, hd3⟩

end Go.Proofs.Ytekjhcckepkmnaa
