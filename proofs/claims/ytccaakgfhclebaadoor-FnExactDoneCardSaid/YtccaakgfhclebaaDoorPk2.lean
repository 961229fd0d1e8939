/- Texts of this claim, put together: ToEntryS, EqMath, EqEntry, Only, MarkE, HeldE, ExactE, Blk, Errs, Deed, KeyOf. -/
import Derived.Test.YtccaakgfhclebaaDoorPk1
import Derived.Deep.RegionHeld3
import Derived.LaidEql
import Derived.Stop.Asserts
import Derived.RowKitTokens

/-
  laws.toEntryS, laws.szEntryS.
-/
namespace Go.Proofs.YtccaakgfhclebaaDoor
open Go.RowKit

theorem szEntryS_any (ao : Option Addr) (n cap : Nat) (left : Int) (w : World) (hn : n ≤ maxLen) (hl0 : 0 ≤ left) (hl1 : left ≤ 1048576) :
    Calls Tryd.prog 4 #[.slice ao n cap, .int .i64 left] w fun e w' => e = .returned (.int .i64 (if left < n then -1 else left - n)) ∧ w' = w := by
  unfold maxLen at hn
  by_cases h : left < n
  · rw [if_pos h]
    have h2 : left - n < 0 := by omega
    go_enter Tryd.func4, Tryd.ntmps4
    go_wp2
    go_ret
    exact ⟨rfl, rfl⟩
  · rw [if_neg h]
    have h2 : ¬ left - n < 0 := by omega
    go_enter Tryd.func4, Tryd.ntmps4
    go_wp2
    go_ret
    exact ⟨rfl, rfl⟩

/-- A fresh row of the entries es, nil where there are none is let in. -/
def CopiedE (es : List Ent) (n : Nat) (w : World) (e : Ending) (w' : World) : Prop :=
  ∃ a c, e = .returned (.slice a n c) ∧ OwnE w.heap.size w' (.slice a n c) es ∧ Ents w'.heap.size w' a n c es ∧ (a = none → c = 0) ∧ Below w.heap.size w w' ∧ w.heap.size ≤ w'.heap.size

set_option maxHeartbeats 1000000 in
set_option maxRecDepth 100000 in
theorem toEntryS_any (B : Nat) (ao : Option Addr) (n cap : Nat) (es : List Ent) (w : World) (hx : Ents B w ao n cap es) (hB : B ≤ w.heap.size) (hn : n ≤ 1048576) :
    Calls Tryd.prog 6 #[.slice ao n cap] w (CopiedE es n w) := by
  obtain ⟨i0, hi, hz0, hz1, hz2⟩ := info_parts infoE
  go_enter Tryd.func6, Tryd.ntmps6
  go_wp2_with (at_make; refine wpList_make_full _ rfl _ _ 26 rfl w.heap.size 38 i0 _ 4 Tryd.underlying26 hi hz0 hz1 _ _ _ _ n rfl rfl (by omega) (by omega) ?b2 ?b3 (Nat.le_refl _) ?_)
  case b2 => rw [hz2]; omega
  case b3 => unfold maxLen; omega
  intro w0 hown0 hgrow0
  go_wp2
  have hml : es.length = n := hx.hlen
  have e0 : (madeCells #[Value.int .i64 0, .int .i64 0, .int .i64 0, .int .i64 0] (n * 4)).toList = flatE (es.take 0 ++ List.replicate (es.length - 0) zeroE) := by
    rw [List.take_zero, List.nil_append, Nat.sub_zero, hml]
    exact flatE_zero n
  rw [e0] at hown0
  clear e0
  have HL := Lib.hid hml
  clear hml
  have hxwf := hx.wf
  go_loopw [4] (fun i wr => ∃ k : Nat, k ≤ n ∧ i = .int .i64 k ∧ wr.ownsRow w.heap.size 38 4 (.slice (some ⟨w.heap.size, 0, none⟩) n n) n (flatE (es.take k ++ List.replicate (es.length - k) zeroE)) ∧ Below w.heap.size w wr) (fun i _ => n - (intOf i).toNat)
  case atStart => exact ⟨0, Nat.zero_le _, rfl, hown0, (Below.refl _ _).grown hgrow0 (Nat.le_refl _) (fun k h => by cases h)⟩
  case round =>
    obtain ⟨k, hk, rfl, hown, hbel⟩ := hrel
    by_cases hlt : k < n
    · obtain ⟨b, off, rfl, hbB, hc⟩ := hx.at k hlt
      obtain ⟨g0, g1, g2, g3⟩ := (hc k hlt).below hbel (show b < w.heap.size by omega)
      have hT := fun w => toEntry_any (E es k).o (E es k).s (E es k).a (E es k).d w
      have hll : (es.take k ++ List.replicate (es.length - k) zeroE).length = n := by have := HL.out; simp; omega
      have hstep := copyE_step es k (by have := HL.out; omega)
      generalize hek : E es k = x at g0 g1 g2 g3 hT hstep
      have i1 : (0 : Int) ≤ k := by omega
      have i2 : (k : Int) < n := by omega
      have hszr := (World.ownsRow.lt hown w.heap.size rfl).2
      have HS := Lib.hid hstep; have HLL := Lib.hid hll
      clear hc hek hstep hll
      have HX := Lib.hid hx; have HWF := Lib.hid hxwf; clear hx hxwf
      go_wp2_with fail
      refine (hT _).mono ?_
      rintro e w1 ⟨rfl, hb1⟩
      have hown1 := hown.kept (row := none) (w' := w1) ⟨hb1.os, hb1.tape, hb1.output, hb1.size, fun k hk _ => hb1.block k hk⟩ (.inr (by simp [Value.ownBlock]))
      have q := OwnE.ent4 hown1 HLL.out k hlt
      obtain ⟨q0, q1, q2, q3⟩ := q
      have f0 := hown1.frozenAt (k * 4); have f1 := hown1.frozenAt (k * 4 + 1); have f2 := hown1.frozenAt (k * 4 + 2); have f3 := hown1.frozenAt (k * 4 + 3)
      have hst := OwnE.store hown1 HLL.out k hlt x
      rw [HS.out] at hst
      have HST := Lib.hid hst; clear hst hown1 hown
      have hB1 := hbel.trans (hb1.mono hbel.size)
      go_wp2
      go_roundw
      case rel => exact ⟨k + 1, by omega, by go_num, by simpa using HST.out, (((hB1.setCell (by exact Nat.le_refl _) _).setCell (by exact Nat.le_refl _) _).setCell (by exact Nat.le_refl _) _).setCell (by exact Nat.le_refl _) _⟩
      case measure => simp [intOf]; omega
    · have ek : k = n := by omega
      subst ek
      have eh := HL.out
      rw [List.take_of_length_le (by omega), eh, Nat.sub_self, List.replicate_zero, List.append_nil] at hown
      go_wp2
      go_ret
      have ho : OwnE w.heap.size wr (.slice (some ⟨w.heap.size, 0, none⟩) k k) es := by
        unfold OwnE; rw [eh]; exact hown
      obtain ⟨a', c', e', hi', hz'⟩ := ho.ents hxwf
      rw [eh] at e' hi'
      cases e'
      exact ⟨_, _, rfl, ho, hi', hz', hbel, hbel.size⟩

end Go.Proofs.YtccaakgfhclebaaDoor

namespace Go.Proofs.YtccaakgfhclebaaDoor
open Go.RowKit

theorem take_eq_step {xs ys : List Int} {k : Nat} (hx : k < xs.length) (hy : k < ys.length) (h : xs.take k = ys.take k) (he : xs.getD k 0 = ys.getD k 0) : xs.take (k + 1) = ys.take (k + 1) := by
  rw [List.take_succ_eq_append_getElem hx, List.take_succ_eq_append_getElem hy, h]
  simp [List.getD, hx, hy] at he
  rw [he]

theorem getD_ne {xs ys : List Int} {k : Nat} (he : xs.getD k 0 ≠ ys.getD k 0) : xs ≠ ys := fun h => he (by rw [h])

end Go.Proofs.YtccaakgfhclebaaDoor

/-
  laws.eqEntry, laws.eqEntryS.
-/
namespace Go.Proofs.YtccaakgfhclebaaDoor
open Go.RowKit

theorem ent_ne_o {x y : Ent} (h : x.o ≠ y.o) : decide (x = y) = false := decide_eq_false (fun e => h (by rw [e]))
theorem ent_ne_s {x y : Ent} (h : x.s ≠ y.s) : decide (x = y) = false := decide_eq_false (fun e => h (by rw [e]))
theorem ent_ne_a {x y : Ent} (h : x.a ≠ y.a) : decide (x = y) = false := decide_eq_false (fun e => h (by rw [e]))
theorem ent_ne_d {x y : Ent} (h : x.d ≠ y.d) : decide (x = y) = false := decide_eq_false (fun e => h (by rw [e]))
theorem ent_eq {x y : Ent} (h0 : x.o = y.o) (h1 : x.s = y.s) (h2 : x.a = y.a) (h3 : x.d = y.d) : decide (x = y) = true := by
  obtain ⟨a, b, c, d⟩ := x
  obtain ⟨a', b', c', d'⟩ := y
  simp at h0 h1 h2 h3
  subst h0 h1 h2 h3
  exact decide_eq_true rfl

theorem says_box2 {v u : Value} {w : World} (cs cs' : Array Value) (t t' : TypeId) (h : u = v) : Says v w (.returned u) ((w.alloc (.cells cs t)).alloc (.cells cs' t')) := by
  subst h
  exact ⟨rfl, ((Below.refl _ _).alloc (Nat.le_refl _) _).alloc (by simp) _⟩

set_option maxHeartbeats 1000000 in
theorem eqEntry_any (x y : Ent) (w : World) :
    Calls Tryd.prog 19 #[.agg #[.int .i64 x.o, .int .i64 x.s, .int .i64 x.a, .int .i64 x.d], .agg #[.int .i64 y.o, .int .i64 y.s, .int .i64 y.a, .int .i64 y.d]] w (Says (.bool (decide (x = y))) w) := by
  generalize hq : decide (x = y) = q
  have HQ := Lib.hid hq; clear hq
  by_cases h0 : x.o = y.o
  · have h0' : (x.o != y.o) = false := by simpa using h0
    by_cases h1 : x.s = y.s
    · have h1' : (x.s != y.s) = false := by simpa using h1
      by_cases h2 : x.a = y.a
      · have h2' : (x.a != y.a) = false := by simpa using h2
        by_cases h3 : x.d = y.d
        · have h3' : (x.d != y.d) = false := by simpa using h3
          have hv := Lib.hid (HQ.out.symm.trans (ent_eq h0 h1 h2 h3))
          clear h0 h1 h2 h3
          go_enter Tryd.func19, Tryd.ntmps19
          go_wp2
          go_ret
          exact says_box2 _ _ _ _ (by rw [hv.out]; rfl)
        · have h3' : (x.d != y.d) = true := by simpa using h3
          have hv := Lib.hid (HQ.out.symm.trans (ent_ne_d h3))
          clear h0 h1 h2 h3
          go_enter Tryd.func19, Tryd.ntmps19
          go_wp2
          go_ret
          exact says_box2 _ _ _ _ (by rw [hv.out]; rfl)
      · have h2' : (x.a != y.a) = true := by simpa using h2
        have hv := Lib.hid (HQ.out.symm.trans (ent_ne_a h2))
        clear h0 h1 h2
        go_enter Tryd.func19, Tryd.ntmps19
        go_wp2
        go_ret
        exact says_box2 _ _ _ _ (by rw [hv.out]; rfl)
    · have h1' : (x.s != y.s) = true := by simpa using h1
      have hv := Lib.hid (HQ.out.symm.trans (ent_ne_s h1))
      clear h0 h1
      go_enter Tryd.func19, Tryd.ntmps19
      go_wp2
      go_ret
      exact says_box2 _ _ _ _ (by rw [hv.out]; rfl)
  · have h0' : (x.o != y.o) = true := by simpa using h0
    have hv := Lib.hid (HQ.out.symm.trans (ent_ne_o h0))
    clear h0
    go_enter Tryd.func19, Tryd.ntmps19
    go_wp2
    go_ret
    exact says_box2 _ _ _ _ (by rw [hv.out]; rfl)

theorem takeE_eq_step {xs ys : List Ent} {k n : Nat} (hx : xs.length = n) (hy : ys.length = n) (hk : k < n) (h : xs.take k = ys.take k) (he : E xs k = E ys k) : xs.take (k + 1) = ys.take (k + 1) := by
  rw [List.take_succ_eq_append_getElem (by omega), List.take_succ_eq_append_getElem (by omega), h, ← E_get (by omega), ← E_get (by omega), he]
theorem E_ne {xs ys : List Ent} {k : Nat} (h : E xs k ≠ E ys k) : xs ≠ ys := fun e => h (by rw [e])

set_option maxHeartbeats 1000000 in
set_option maxRecDepth 100000 in
theorem eqEntryS_any (B C : Nat) (ao bo : Option Addr) (n cap m dap : Nat) (xs ys : List Ent) (w : World) (hx : Ents B w ao n cap xs) (hy : Ents C w bo m dap ys) (hB : B ≤ w.heap.size) (hC : C ≤ w.heap.size) :
    Calls Tryd.prog 9 #[.slice ao n cap, .slice bo m dap] w (Says (.bool (decide (xs = ys))) w) := by
  have hxl := hx.hlen
  have hyl := hy.hlen
  have hx1 := hx.hcap; have hx2 := hx.hmax; have hy1 := hy.hcap; have hy2 := hy.hmax
  unfold maxLen at hx2 hy2
  have HX := Lib.hid hxl; have HY := Lib.hid hyl
  generalize hq : decide (xs = ys) = q
  have HQ := Lib.hid hq; clear hq
  by_cases hnm : n = m
  · subst hnm
    clear hxl hyl
    go_enter Tryd.func9, Tryd.ntmps9
    go_wp2
    go_loopw [5] (fun i wr => ∃ k : Nat, k ≤ n ∧ i = .int .i64 k ∧ Hid (xs.take k = ys.take k) ∧ Below w.heap.size w wr) (fun i _ => n - (intOf i).toNat)
    case atStart => exact ⟨0, Nat.zero_le _, rfl, rfl, Below.refl _ _⟩
    case round =>
      obtain ⟨k, hk, rfl, ht, hbel⟩ := hrel
      by_cases hlt : k < n
      · obtain ⟨b, off, rfl, hbB, hc⟩ := hx.at k hlt
        obtain ⟨b', off', rfl, hbC, hc'⟩ := hy.at k hlt
        have hsz := hbel.size
        have hE := fun w => eqEntry_any (E xs k) (E ys k) w
        have hstep : E xs k = E ys k → xs.take (k + 1) = ys.take (k + 1) := fun h => takeE_eq_step HX.out HY.out hlt ht.out h
        have hne : E xs k ≠ E ys k → q = false := fun h => by rw [← HQ.out]; exact decide_eq_false (E_ne h)
        have HV1 : ∀ w', Below wr.heap.size wr w' → Ent4 w' b (off + k * 4) (E xs k) := fun w' h => ((hc k hlt).below hbel (show b < w.heap.size by omega)).below h (by omega)
        have HV2 : ∀ w', Below wr.heap.size wr w' → Ent4 w' b' (off' + k * 4) (E ys k) := fun w' h => ((hc' k hlt).below hbel (show b' < w.heap.size by omega)).below h (by omega)
        generalize E xs k = x at hE hstep hne HV1
        generalize E ys k = y at hE hstep hne HV2
        obtain ⟨c0, c1, c2, c3⟩ := HV1 wr (Below.refl _ _)
        obtain ⟨d0, d1, d2, d3⟩ := HV2 wr (Below.refl _ _)
        have HW := Lib.hid HV1; have HV := Lib.hid HV2; have HS := Lib.hid hstep; have HN := Lib.hid hne
        clear HV1 HV2 hstep hne hc hc'
        have i1 : (0 : Int) ≤ k := by omega
        have i2 : (k : Int) < n := by omega
        by_cases he : x = y
        · have hd := Lib.hid (HS.out he)
          rw [decide_eq_true he] at hE
          clear he HN HS
          go_wp2
          go_region_held3 (fun w' => w'.cell? ⟨b, off + k * 4, none⟩ = some (.int .i64 x.o) ∧ w'.cell? ⟨b, off + k * 4 + 1, none⟩ = some (.int .i64 x.s) ∧ w'.cell? ⟨b, off + k * 4 + 2, none⟩ = some (.int .i64 x.a) ∧ w'.cell? ⟨b, off + k * 4 + 3, none⟩ = some (.int .i64 x.d) ∧ w'.cell? ⟨b', off' + k * 4, none⟩ = some (.int .i64 y.o) ∧ w'.cell? ⟨b', off' + k * 4 + 1, none⟩ = some (.int .i64 y.s) ∧ w'.cell? ⟨b', off' + k * 4 + 2, none⟩ = some (.int .i64 y.a) ∧ w'.cell? ⟨b', off' + k * 4 + 3, none⟩ = some (.int .i64 y.d))
            (first | exact ⟨(HW.out _ HBA).h0, (HW.out _ HBA).h1, (HW.out _ HBA).h2, (HW.out _ HBA).h3, (HV.out _ HBA).h0, (HV.out _ HBA).h1, (HV.out _ HBA).h2, (HV.out _ HBA).h3⟩ | exact ⟨c0, c1, c2, c3, d0, d1, d2, d3⟩)
            (first | (go_at_call 19; refine (hE _).mono ?_; rintro e wA ⟨rfl, hbA⟩; have HBA := (Below.refl wr.heap.size wr).drew.trans hbA))
          go_wp2
          go_roundw
          case rel => exact ⟨k + 1, by omega, by go_num, hd, hbel.trans (HBA.mono hsz)⟩
          case measure => simp [intOf]; omega
        · have hd := Lib.hid (HN.out he)
          rw [decide_eq_false he] at hE
          clear he HN HS
          go_wp2
          go_region_held3 (fun w' => w'.cell? ⟨b, off + k * 4, none⟩ = some (.int .i64 x.o) ∧ w'.cell? ⟨b, off + k * 4 + 1, none⟩ = some (.int .i64 x.s) ∧ w'.cell? ⟨b, off + k * 4 + 2, none⟩ = some (.int .i64 x.a) ∧ w'.cell? ⟨b, off + k * 4 + 3, none⟩ = some (.int .i64 x.d) ∧ w'.cell? ⟨b', off' + k * 4, none⟩ = some (.int .i64 y.o) ∧ w'.cell? ⟨b', off' + k * 4 + 1, none⟩ = some (.int .i64 y.s) ∧ w'.cell? ⟨b', off' + k * 4 + 2, none⟩ = some (.int .i64 y.a) ∧ w'.cell? ⟨b', off' + k * 4 + 3, none⟩ = some (.int .i64 y.d))
            (first | exact ⟨(HW.out _ HBA).h0, (HW.out _ HBA).h1, (HW.out _ HBA).h2, (HW.out _ HBA).h3, (HV.out _ HBA).h0, (HV.out _ HBA).h1, (HV.out _ HBA).h2, (HV.out _ HBA).h3⟩ | exact ⟨c0, c1, c2, c3, d0, d1, d2, d3⟩)
            (first | (go_at_call 19; refine (hE _).mono ?_; rintro e wA ⟨rfl, hbA⟩; have HBA := (Below.refl wr.heap.size wr).drew.trans hbA))
          go_wp2
          go_ret
          exact ⟨ret_bool hd.out.symm, hbel.trans (HBA.mono hsz)⟩
      · have ek : k = n := by omega
        subst ek
        have h1 := ht.out
        rw [List.take_of_length_le (by have := HX.out; omega), List.take_of_length_le (by have := HY.out; omega)] at h1
        have hd := Lib.hid (HQ.out.symm.trans (decide_eq_true h1))
        clear h1
        go_wp2
        go_ret
        exact ⟨ret_bool hd.out.symm, hbel⟩
  · have hne : xs ≠ ys := fun h => hnm (by rw [← hxl, ← hyl, h])
    have hd := Lib.hid (HQ.out.symm.trans (decide_eq_false hne)); clear hne
    have hb : ((n : Int) != (m : Int)) = true := by rw [bne_iff_ne]; omega
    clear hxl hyl
    go_enter Tryd.func9, Tryd.ntmps9
    go_wp2
    go_ret
    exact ⟨ret_bool hd.out.symm, Below.refl _ _⟩

end Go.Proofs.YtccaakgfhclebaaDoor

/-
  A call that writes into one block alone (Only).
-/
namespace Go.Proofs.YtccaakgfhclebaaDoor
open Go.RowKit

/-- All but block g is as it was; no block is new. -/
structure Only (g : Nat) (w w' : World) : Prop where
  grown : w.grownBy w' (some g)
  size : w'.heap.size = w.heap.size

theorem Only.refl (g : Nat) (w : World) : Only g w w := ⟨World.grownBy.refl _ _, rfl⟩
theorem Only.trans {g : Nat} {a b c : World} (h : Only g a b) (k : Only g b c) : Only g a c :=
  ⟨⟨k.grown.os.trans h.grown.os, k.grown.tape.trans h.grown.tape, k.grown.output.trans h.grown.output, Nat.le_trans h.grown.size k.grown.size, fun i hi hne => (k.grown.block i (by have := h.size; omega) hne).trans (h.grown.block i hi hne)⟩, k.size.trans h.size⟩
theorem Only.drewN {g : Nat} {a b : World} (h : Only g a b) (n : Nat) : Only g a (b.drewN n) :=
  h.trans ⟨⟨rfl, rfl, rfl, Nat.le_refl _, fun _ _ _ => rfl⟩, rfl⟩
theorem Only.setCell {g : Nat} {a b : World} (h : Only g a b) (o : Nat) (u : Value) : Only g a (b.setCell ⟨g, o, none⟩ u) :=
  h.trans ⟨⟨rfl, rfl, rfl, by simp [World.setCell], fun k _ hne => Below.heap_setCell _ _ _ _ (fun e => hne (by rw [e]))⟩, by simp [World.setCell]⟩
theorem Only.below {g : Nat} {w w' : World} (h : Only g w w') {B : Nat} (hB : B ≤ g) (hs : B ≤ w.heap.size) : Below B w w' :=
  ⟨h.grown.os, h.grown.tape, h.grown.output, h.grown.size, fun k hk => h.grown.block k (by omega) (fun e => by cases e; omega)⟩
theorem Only.cell {g : Nat} {w w' : World} (h : Only g w w') {a : Addr} {v : Value} (hc : w.cell? a = some v) (hne : a.block ≠ g) : w'.cell? a = some v :=
  h.grown.cell hc (fun e => hne (Option.some.inj e))

theorem Ints.only {B g : Nat} {w w' : World} {ao : Option Addr} {n cap : Nat} {xs : List Int} (h : Ints B w ao n cap xs) (hb : Only g w w') (hg : B ≤ g) : Ints B w' ao n cap xs :=
  ⟨h.hlen, h.hcap, h.hmax, fun j hj => by
    obtain ⟨b, off, e, hlt, hc⟩ := h.cell j hj
    exact ⟨b, off, e, hlt, hb.cell hc (by show b ≠ g; omega)⟩, h.wf⟩

/-- All blocks but g are as they were; there may be new ones. -/
def Keeps (g : Nat) (w w' : World) : Prop := w.grownBy w' (some g)
theorem Only.keeps {g : Nat} {w w' : World} (h : Only g w w') : Keeps g w w' := h.grown
theorem Keeps.refl (g : Nat) (w : World) : Keeps g w w := World.grownBy.refl _ _
theorem Keeps.trans {g : Nat} {a b c : World} (h : Keeps g a b) (k : Keeps g b c) : Keeps g a c :=
  ⟨k.os.trans h.os, k.tape.trans h.tape, k.output.trans h.output, Nat.le_trans h.size k.size, fun i hi hne => (k.block i (by have := h.size; omega) hne).trans (h.block i hi hne)⟩
theorem Keeps.alloc (g : Nat) (w : World) (o : Obj) : Keeps g w (w.alloc o) := World.grownBy_alloc w o _
theorem Keeps.drewN {g : Nat} {a b : World} (h : Keeps g a b) (n : Nat) : Keeps g a (b.drewN n) := ⟨h.os, h.tape, h.output, h.size, h.block⟩
theorem Keeps.below {g : Nat} {w w' : World} (h : Keeps g w w') {B : Nat} (hB : B ≤ g) (hs : B ≤ w.heap.size) : Below B w w' :=
  ⟨h.os, h.tape, h.output, h.size, fun k hk => h.block k (by omega) (fun e => by cases e; omega)⟩
theorem Keeps.of_below {g : Nat} {w w' : World} (h : Below w.heap.size w w') : Keeps g w w' :=
  ⟨h.os, h.tape, h.output, h.size, fun k hk _ => h.block k hk⟩
theorem Keeps.then_below {g : Nat} {a b c : World} (h : Keeps g a b) (k : Below a.heap.size b c) : Keeps g a c :=
  ⟨k.os.trans h.os, k.tape.trans h.tape, k.output.trans h.output, Nat.le_trans h.size k.size, fun i hi hne => (k.block i hi).trans (h.block i hi hne)⟩

theorem row_older {base base' size size' n n' : Nat} {t t' : TypeId} {w w' w1 : World} {v v' : Value} {xs ys : List Value} (h : w.ownsRow base t size v n xs) (h' : w1.ownsRow base' t' size' v' n' ys) (hs : w1.heap.size ≤ base) (hg : w.grownBy w' v'.ownBlock) : w'.ownsRow base t size v n xs := by
  refine World.ownsRow.kept h hg ?_
  cases hv : v.ownBlock with
  | none => exact .inl rfl
  | some k =>
    right
    intro e
    have h1 := (World.ownsRow.lt h k hv).1
    have h2 := (World.ownsRow.lt h' k e.symm).2
    omega

theorem Own.keeps {base g : Nat} {w w' : World} {v : Value} {xs : List Int} (h : Own base w v xs) (hb : Keeps g w w') (hg : g < base) : Own base w' v xs := by
  refine World.ownsRow.kept h hb ?_
  cases hv : v.ownBlock with
  | none => exact .inl rfl
  | some k =>
    right
    intro e
    have := (World.ownsRow.lt h k hv).1
    have e2 : k = g := Option.some.inj e
    omega

end Go.Proofs.YtccaakgfhclebaaDoor

/-
  laws.markEntryS writes k, k + 1, .. into a row of entries of the call's own.
-/
namespace Go.Proofs.YtccaakgfhclebaaDoor
open Go.RowKit

def markE (k : Int) (i : Nat) : Ent := ⟨k + 4 * i, k + 4 * i + 1, k + 4 * i + 1 + 1, k + 4 * i + 1 + 1 + 1⟩
def marksE (k : Int) (n : Nat) : List Ent := (List.range n).map (markE k)
theorem marksE_len (k : Int) (n : Nat) : (marksE k n).length = n := by simp [marksE]
theorem marksE_get (k : Int) (n j : Nat) (h : j < n) : E (marksE k n) j = markE k j := by rw [E_get (by rw [marksE_len]; exact h)]; simp [marksE]
theorem marksE_succ (k : Int) (n : Nat) : marksE k (n + 1) = marksE k n ++ [markE k n] := by simp [marksE, List.range_succ]
theorem marksE_wf {k : Int} {n : Nat} (h0 : 0 ≤ k) (h1 : k + 4 * n ≤ 4611686018427387904) : AllE (marksE k n) := by
  intro x hx
  simp only [marksE, List.mem_map, List.mem_range] at hx
  obtain ⟨i, hi, rfl⟩ := hx
  unfold Ent.wf markE I64
  simp only
  omega
theorem markE_step (es : List Ent) (k : Int) (j : Nat) (h : j < es.length) : (marksE k j ++ es.drop j).set j (markE k j) = marksE k (j + 1) ++ es.drop (j + 1) := by
  rw [List.set_append_right _ _ (by rw [marksE_len]; exact Nat.le_refl _), marksE_len, marksE_succ, List.append_assoc]
  rw [List.drop_eq_getElem_cons h, Nat.sub_self]
  rfl

/-- The row v was marked from k on. -/
def MarkedE (base : Nat) (v : Value) (k : Int) (n : Nat) (w : World) (e : Ending) (w' : World) : Prop :=
  e = .returned (.int .i64 (k + 4 * n)) ∧ OwnE base w' v (marksE k n) ∧ w.grownBy w' v.ownBlock ∧ w'.heap.size = w.heap.size ∧ Below base w w'

set_option maxHeartbeats 1000000 in
set_option maxRecDepth 100000 in
theorem markEntryS_any (base : Nat) (v : Value) (es : List Ent) (k : Int) (n : Nat) (w : World) (hown : OwnE base w v es) (hl : es.length = n) (hk0 : 0 ≤ k) (hk : k ≤ 1152921504606846976) (hn : n ≤ 1048576) (hbase : base ≤ w.heap.size) :
    Calls Tryd.prog 10 #[v, .int .i64 k] w (MarkedE base v k n w) := by
  unfold OwnE at hown
  rw [hl] at hown
  rcases hown.2 with ⟨rfl, h0⟩ | ⟨g, cap, cur, rfl, hbg, hg, hnc, hcm, hcs, htake⟩
  · subst h0
    have hx : es = [] := List.eq_nil_of_length_eq_zero hl
    subst hx
    go_enter Tryd.func10, Tryd.ntmps10
    go_wp2
    refine wp_loop_rounds 1 ?_
    rw [rounds_succ]
    go_wp2
    go_ret
    exact ⟨ret_int (by simp), ownE_nil _ _, World.grownBy.refl _ _, rfl, Below.refl _ _⟩
  · clear hcs htake hcm hnc
    have hgs := (World.ownsRow.lt hown g rfl).2
    have HN := Lib.hid hl; clear hl
    have hdrop : flatE es = flatE (marksE k 0 ++ es.drop 0) := by simp [marksE]
    rw [hdrop] at hown
    clear hdrop hg
    go_enter Tryd.func10, Tryd.ntmps10
    go_wp2
    go_loopw [1, 5] (fun sk si wr => ∃ j : Nat, j ≤ n ∧ si = .int .i64 j ∧ sk = .int .i64 (k + 4 * j) ∧ wr.ownsRow base 38 4 (.slice (some ⟨g, 0, none⟩) n cap) n (flatE (marksE k j ++ es.drop j)) ∧ Only g w wr) (fun _ si _ => n - (intOf si).toNat)
    case atStart => exact ⟨0, Nat.zero_le _, rfl, by simp, hown, Only.refl _ _⟩
    case round =>
      obtain ⟨j, hj, rfl, rfl, how, hon⟩ := hrel
      by_cases hlt : j < n
      · have hll : (marksE k j ++ es.drop j).length = n := by have := HN.out; rw [List.length_append, marksE_len, List.length_drop]; omega
        obtain ⟨q0, q1, q2, q3⟩ := OwnE.ent4 how hll j hlt
        generalize E (marksE k j ++ es.drop j) j = x at q0 q1 q2 q3
        have f0 := how.frozenAt (j * 4); have f1 := how.frozenAt (j * 4 + 1); have f2 := how.frozenAt (j * 4 + 2); have f3 := how.frozenAt (j * 4 + 3)
        have hst := OwnE.store how hll j hlt (markE k j)
        rw [markE_step es k j (by have := HN.out; omega)] at hst
        have HST := Lib.hid hst; clear hst how hll
        have i1 : (0 : Int) ≤ j := by omega
        have i2 : (j : Int) < n := by omega
        have ho4 := Lib.hid ((((hon.setCell (j * 4) (.int .i64 (markE k j).o)).setCell (j * 4 + 1) (.int .i64 (markE k j).s)).setCell (j * 4 + 2) (.int .i64 (markE k j).a)).setCell (j * 4 + 3) (.int .i64 (markE k j).d))
        go_wp2
        go_roundw
        case rel => exact ⟨j + 1, by omega, by go_num, by go_num, HST.out, ho4.out⟩
        case measure => simp [intOf]; omega
      · have ej : j = n := by omega
        subst ej
        have hl := HN.out
        rw [List.drop_of_length_le (by omega), List.append_nil] at how
        go_wp2
        go_ret
        refine ⟨rfl, by unfold OwnE; rw [marksE_len]; exact how, hon.grown, hon.size, hon.below hbg hbase⟩

end Go.Proofs.YtccaakgfhclebaaDoor

/-
  laws.heldEntryS finds what was marked.
-/
namespace Go.Proofs.YtccaakgfhclebaaDoor
open Go.RowKit

set_option maxHeartbeats 1000000 in
theorem heldEntryS_any (B : Nat) (ao : Option Addr) (n cap : Nat) (k : Int) (w : World) (hx : Ents B w ao n cap (marksE k n)) (hk0 : 0 ≤ k) (hk : k ≤ 1152921504606846976) (hn : n ≤ 1048576) :
    Calls Tryd.prog 11 #[.slice ao n cap, .int .i64 k] w fun e w' => e = .returned (.int .i64 (k + 4 * n)) ∧ w' = w := by
  go_enter Tryd.func11, Tryd.ntmps11
  go_wp2
  go_loop [1, 5] (fun sk si => ∃ j : Nat, j ≤ n ∧ si = .int .i64 j ∧ sk = .int .i64 (k + 4 * j)) (fun _ si => n - (intOf si).toNat)
  case atStart => exact ⟨0, Nat.zero_le _, rfl, by simp⟩
  case round =>
    obtain ⟨j, hj, rfl, rfl⟩ := hrel
    by_cases hlt : j < n
    · obtain ⟨b, off, rfl, hbB, hcell⟩ := hx.at j hlt
      have g1 := hcell j hlt
      rw [marksE_get k n j hlt] at g1
      obtain ⟨q0, q1, q2, q3⟩ := g1
      simp only [markE] at q0 q1 q2 q3
      clear hcell
      have i1 : (0 : Int) ≤ j := by omega
      have i2 : (j : Int) < n := by omega
      go_wp2
      go_round
      case rel => exact ⟨j + 1, by omega, by go_num, by go_num⟩
      case measure => simp [intOf]; omega
    · have ej : j = n := by omega
      subst ej
      go_wp2
      go_ret
      exact ⟨rfl, rfl⟩

end Go.Proofs.YtccaakgfhclebaaDoor

/-
  What the exact laws share that write into rows of entries.
-/
namespace Go.Proofs.YtccaakgfhclebaaDoor
open Go.RowKit

/-- Another, older row was written: this one stays. -/
theorem OwnE.older {base base' : Nat} {w w' w1 : World} {v v' : Value} {xs ys : List Ent} (h : OwnE base w v xs) (h' : OwnE base' w1 v' ys) (hs : w1.heap.size ≤ base) (hg : w.grownBy w' v'.ownBlock) : OwnE base w' v xs := by
  refine World.ownsRow.kept h hg ?_
  cases hv : v.ownBlock with
  | none => exact .inl rfl
  | some k =>
    right
    intro e
    have h1 := (World.ownsRow.lt h k hv).1
    have h2 := (World.ownsRow.lt h' k e.symm).2
    omega

theorem OwnE.ents_at {base : Nat} {w : World} {a : Option Addr} {n c : Nat} {es : List Ent} (h : OwnE base w (.slice a n c) es) (hx : AllE es) : Ents w.heap.size w a n c es := by
  obtain ⟨a', c', e, hi, -⟩ := h.ents hx
  simp only [Value.slice.injEq] at e
  obtain ⟨rfl, rfl, rfl⟩ := e
  exact hi

theorem Ents.cast {B : Nat} {w : World} {ao : Option Addr} {n m cap : Nat} {es : List Ent} (h : Ents B w ao n cap es) (e : n = m) : Ents B w ao m cap es := e ▸ h

end Go.Proofs.YtccaakgfhclebaaDoor

/-
  A block that is known whole: its cells, none frozen.
-/
namespace Go.Proofs.YtccaakgfhclebaaDoor
open Go.RowKit

/-- Block g is just the cells cs, of element type t; none is frozen. -/
def Blk (w : World) (g : Nat) (t : TypeId) (cs : Array Value) : Prop := w.heap[g]? = some (.cells cs t (0, 0))

theorem Blk.lt {w : World} {g : Nat} {t : TypeId} {cs : Array Value} (h : Blk w g t cs) : g < w.heap.size := (Array.getElem?_eq_some_iff.1 h).1
theorem Blk.cell {w : World} {g : Nat} {t : TypeId} {cs : Array Value} (h : Blk w g t cs) (i : Nat) : w.cell? ⟨g, i, none⟩ = cs[i]? := cell_of_row w g i cs t (0, 0) h
theorem Blk.frozen {w : World} {g : Nat} {t : TypeId} {cs : Array Value} (h : Blk w g t cs) (i : Nat) : w.frozen? ⟨g, i, none⟩ = false := by
  unfold Blk at h
  simp [World.frozen?, h]
theorem Blk.new (w : World) (t : TypeId) (cs : Array Value) : Blk (w.alloc (.cells cs t)) w.heap.size t cs := heap_alloc_new w _
theorem Blk.drewN {w : World} {g : Nat} {t : TypeId} {cs : Array Value} (h : Blk w g t cs) (n : Nat) : Blk (w.drewN n) g t cs := h
theorem Blk.alloc {w : World} {g : Nat} {t : TypeId} {cs : Array Value} (h : Blk w g t cs) (o : Obj) : Blk (w.alloc o) g t cs := (Below.heap_alloc w o g h.lt).trans h
theorem Blk.below {w w' : World} {g B : Nat} {t : TypeId} {cs : Array Value} (h : Blk w g t cs) (hb : Below B w w') (hg : g < B) : Blk w' g t cs := (hb.block g hg).trans h
theorem Blk.keeps {w w' : World} {g k : Nat} {t : TypeId} {cs : Array Value} (h : Blk w g t cs) (hb : Keeps k w w') (hne : g ≠ k) : Blk w' g t cs :=
  (hb.block g h.lt (fun e => hne (Option.some.inj e))).trans h
theorem Blk.set_ {w : World} {g : Nat} {t : TypeId} {cs : Array Value} (h : Blk w g t cs) (i : Nat) (u : Value) : Blk (w.setCell ⟨g, i, none⟩ u) g t (cs.setIfInBounds i u) := by
  unfold Blk at h ⊢
  simp [World.setCell, Array.getElem?_modify, h]
theorem Blk.far {w : World} {g : Nat} {t : TypeId} {cs : Array Value} (h : Blk w g t cs) {p : Addr} (hp : g ≠ p.block) (u : Value) : Blk (w.setCell p u) g t cs := (Below.heap_setCell w p u g hp).trans h

theorem Blk.set4 {w : World} {g : Nat} {t : TypeId} {a b c d : Value} (h : Blk w g t #[a, b, c, d]) (a' b' c' d' : Value) : Blk ((((w.setCell ⟨g, 0, none⟩ a').setCell ⟨g, 1, none⟩ b').setCell ⟨g, 2, none⟩ c').setCell ⟨g, 3, none⟩ d') g t #[a', b', c', d'] := by
  have h4 := (((h.set_ 0 a').set_ 1 b').set_ 2 c').set_ 3 d'
  simpa using h4

end Go.Proofs.YtccaakgfhclebaaDoor

/-
  The errors of chapter 8: closed facts on the model's entries, what the package-level errors hold (Errs).
-/
namespace Go.Proofs.YtccaakgfhclebaaDoor
open Go.RowKit Go.Extern.Stop Go.Stop Go.Extern

/-! Facts for errors.Is -/
theorem Tryd.isTypeOf (v : Value) (w : World) : (Extern.ReflectliteType.typeOf #[.iface 124 v]).run Tryd.prog w = .ok (.iface 104 (.agg #[.pointer (some ⟨3, 124, none⟩)])) w := by kernel_rfl
theorem Tryd.isComparable (w : World) : ((Extern.ReflectliteType.method fun t => do Rtype.noPackHeld "Comparable" t; (fun a => Value.bool a.comparable) <$> typeInfo t) #[.agg #[.pointer (some ⟨3, 124, none⟩)]]).run Tryd.prog w = .ok (.bool true) w := by kernel_rfl
theorem Tryd.isMethodComparable (v : Value) (w : World) : (Go.method 258 104 v "Comparable").run Tryd.prog w = .ok (96, v) w := by kernel_rfl
theorem Tryd.isComp : (Tryd.prog.info? 124).map (·.comparable) = some true := by kernel_rfl
theorem Tryd.isSize : (Tryd.prog.info? 146).map (·.size) = some 1 := by kernel_rfl
theorem Tryd.noIsE (v : Value) (xT : TypeId) (w : World) : (Instr.typeAssert (.iface 124 v) xT 106 true).run Tryd.prog w = .ok (.tuple #[.nilIface, .bool false]) w := run_typeAssert_lacksB Tryd.underlying106 (by kernel_rfl) (by kernel_rfl) v xT w
theorem Tryd.noUnwrapE (v : Value) (xT : TypeId) (w : World) : (Instr.typeAssert (.iface 124 v) xT 109 true).run Tryd.prog w = .ok (.tuple #[.nilIface, .bool false]) w := run_typeAssert_lacksB Tryd.underlying109 (by kernel_rfl) (by kernel_rfl) v xT w
theorem Tryd.noUnwrapsE (v : Value) (xT : TypeId) (w : World) : (Instr.typeAssert (.iface 124 v) xT 111 true).run Tryd.prog w = .ok (.tuple #[.nilIface, .bool false]) w := run_typeAssert_lacksB Tryd.underlying111 (by kernel_rfl) (by kernel_rfl) v xT w
theorem Tryd.noAsE (v : Value) (xT : TypeId) (w : World) : (Instr.typeAssert (.iface 124 v) xT 116 true).run Tryd.prog w = .ok (.tuple #[.nilIface, .bool false]) w := run_typeAssert_lacksB Tryd.underlying116 (by kernel_rfl) (by kernel_rfl) v xT w
theorem Tryd.noIsL (v : Value) (xT : TypeId) (w : World) : (Instr.typeAssert (.iface 67 v) xT 106 true).run Tryd.prog w = .ok (.tuple #[.nilIface, .bool false]) w := run_typeAssert_lacksB Tryd.underlying106 (by kernel_rfl) (by kernel_rfl) v xT w
theorem Tryd.noUnwrapL (v : Value) (xT : TypeId) (w : World) : (Instr.typeAssert (.iface 67 v) xT 109 true).run Tryd.prog w = .ok (.tuple #[.nilIface, .bool false]) w := run_typeAssert_lacksB Tryd.underlying109 (by kernel_rfl) (by kernel_rfl) v xT w
theorem Tryd.noUnwrapsL (v : Value) (xT : TypeId) (w : World) : (Instr.typeAssert (.iface 67 v) xT 111 true).run Tryd.prog w = .ok (.tuple #[.nilIface, .bool false]) w := run_typeAssert_lacksB Tryd.underlying111 (by kernel_rfl) (by kernel_rfl) v xT w
theorem Tryd.noIsR (v : Value) (xT : TypeId) (w : World) : (Instr.typeAssert (.iface 61 v) xT 106 true).run Tryd.prog w = .ok (.tuple #[.nilIface, .bool false]) w := run_typeAssert_lacksB Tryd.underlying106 (by kernel_rfl) (by kernel_rfl) v xT w
theorem Tryd.noAsR (v : Value) (xT : TypeId) (w : World) : (Instr.typeAssert (.iface 61 v) xT 116 true).run Tryd.prog w = .ok (.tuple #[.nilIface, .bool false]) w := run_typeAssert_lacksB Tryd.underlying116 (by kernel_rfl) (by kernel_rfl) v xT w
theorem Tryd.hasUnwrapR (v : Value) (xT : TypeId) (w : World) : (Instr.typeAssert (.iface 61 v) xT 109 true).run Tryd.prog w = .ok (.tuple #[.iface 61 v, .bool true]) w := run_typeAssert_hasB Tryd.underlying109 (by kernel_rfl) v xT w
theorem Tryd.methodUnwrapR (v : Value) (w : World) : (Go.method 258 61 v "Unwrap").run Tryd.prog w = .ok (89, v) w := by kernel_rfl

/-! Facts for errors.As: the target is a *overLimit -/
theorem Tryd.valueOfT (t : Addr) (w : World) : (ReflectliteValue.unpack (.iface 70 (.pointer (some t)))).run Tryd.prog w
    = .ok (.agg #[.pointer (some ⟨3, 70, none⟩), .pointer (some ⟨w.heap.size, 0, none⟩), .int .u64 150]) (w.alloc (.cells #[.pointer (some t)] 70)) := by kernel_rfl
theorem Tryd.typeT (a : Addr) (w : World) : (ReflectliteValue.methodAny (ReflectliteValue.valueError "reflectlite.Value.Type" 0) (fun t _ _ _ => ReflectliteType.toType t) #[.agg #[.pointer (some ⟨3, 70, none⟩), .pointer (some a), .int .u64 150]]).run Tryd.prog w
    = .ok (.iface 104 (.agg #[.pointer (some ⟨3, 70, none⟩)])) w := by kernel_rfl
theorem Tryd.methodKind (h : Value) (w : World) : (Go.method 258 104 (.agg #[h]) "Kind").run Tryd.prog w = .ok (85, h) w := by kernel_rfl
theorem Tryd.kindT (w : World) : ((ReflectliteType.abiMethod fun t => (fun a : Nat => Value.int IntKind.u8 (a : Int)) <$> Rtype.kind t) #[.pointer (some ⟨3, 70, none⟩)]).run Tryd.prog w = .ok (.int .u8 22) w := by kernel_rfl
theorem Tryd.kindL (w : World) : ((ReflectliteType.abiMethod fun t => (fun a : Nat => Value.int IntKind.u8 (a : Int)) <$> Rtype.kind t) #[.pointer (some ⟨3, 67, none⟩)]).run Tryd.prog w = .ok (.int .u8 25) w := by kernel_rfl
theorem Tryd.partsT (a : Addr) (w : World) : (ReflectliteValue.parts (.agg #[.pointer (some ⟨3, 70, none⟩), .pointer (some a), .int .u64 150])).run Tryd.prog w = .ok (some (70, a, 150)) w := by kernel_rfl
theorem Tryd.isNilT (a p : Addr) (W : World) (ha : W.cell? a = some (.pointer (some p))) :
    (ReflectliteValue.method (ReflectliteValue.valueError "reflectlite.Value.IsNil" 0) ReflectliteValue.isNil #[.agg #[.pointer (some ⟨3, 70, none⟩), .pointer (some a), .int .u64 150]]).run Tryd.prog W = .ok (.bool false) W := by
  rw [show ∀ z f v, ReflectliteValue.method z f #[v] = Bind.bind (ReflectliteValue.parts v) _ from fun _ _ _ => rfl]
  simp only [Sem.run_bind, Tryd.partsT, Result.andThen]
  simp [ReflectliteValue.isNil, loadVar, isAgg, underlying, Tryd.underlying70, ha, Result.andThen]
theorem Tryd.methodElem (h : Value) (w : World) : (Go.method 258 104 (.agg #[h]) "Elem").run Tryd.prog w = .ok (97, .agg #[h]) w := by kernel_rfl
theorem Tryd.methodImplements (h : Value) (w : World) : (Go.method 258 104 (.agg #[h]) "Implements").run Tryd.prog w = .ok (98, .agg #[h]) w := by kernel_rfl
theorem Tryd.methodAssignableTo (h : Value) (w : World) : (Go.method 258 104 (.agg #[h]) "AssignableTo").run Tryd.prog w = .ok (95, .agg #[h]) w := by kernel_rfl
theorem Tryd.elemT (w : World) : (ReflectliteType.method ReflectliteType.elem #[.agg #[.pointer (some ⟨3, 70, none⟩)]]).run Tryd.prog w = .ok (.iface 104 (.agg #[.pointer (some ⟨3, 67, none⟩)])) w := by kernel_rfl
theorem Tryd.implementsL (w : World) : (ReflectliteType.relation "Implements" ReflectliteType.implements_ #[.agg #[.pointer (some ⟨3, 67, none⟩)], .iface 104 (.agg #[.pointer (some ⟨3, 42, none⟩)])]).run Tryd.prog w = .ok (.bool true) w := by kernel_rfl
theorem Tryd.typeOfL (v : Value) (w : World) : (ReflectliteType.typeOf #[.iface 67 v]).run Tryd.prog w = .ok (.iface 104 (.agg #[.pointer (some ⟨3, 67, none⟩)])) w := by kernel_rfl
theorem Tryd.typeOfR (v : Value) (w : World) : (ReflectliteType.typeOf #[.iface 61 v]).run Tryd.prog w = .ok (.iface 104 (.agg #[.pointer (some ⟨3, 61, none⟩)])) w := by kernel_rfl
theorem Tryd.assignL (w : World) : (ReflectliteType.relation "AssignableTo" ReflectliteType.assignableTo #[.agg #[.pointer (some ⟨3, 67, none⟩)], .iface 104 (.agg #[.pointer (some ⟨3, 67, none⟩)])]).run Tryd.prog w = .ok (.bool true) w := by kernel_rfl
theorem Tryd.assignR (w : World) : (ReflectliteType.relation "AssignableTo" ReflectliteType.assignableTo #[.agg #[.pointer (some ⟨3, 61, none⟩)], .iface 104 (.agg #[.pointer (some ⟨3, 67, none⟩)])]).run Tryd.prog w = .ok (.bool false) w := by kernel_rfl
theorem Tryd.assignE (w : World) : (ReflectliteType.relation "AssignableTo" ReflectliteType.assignableTo #[.agg #[.pointer (some ⟨3, 124, none⟩)], .iface 104 (.agg #[.pointer (some ⟨3, 67, none⟩)])]).run Tryd.prog w = .ok (.bool false) w := by kernel_rfl
theorem Tryd.valueOfL (x y : Value) (w : World) : (ReflectliteValue.unpack (.iface 67 (.agg #[x, y]))).run Tryd.prog w
    = .ok (.agg #[.pointer (some ⟨3, 67, none⟩), .pointer (some ⟨w.heap.size, 0, none⟩), .int .u64 153]) (w.alloc (.cells #[x, y] 67)) := by kernel_rfl
theorem Tryd.elemOfT (w : World) : (Rtype.elem? 70).run Tryd.prog w = .ok (some 67) w := by kernel_rfl
theorem Tryd.mkL (p : Addr) (w : World) : (ReflectliteValue.mk 67 p ReflectliteValue.flagAddr).run Tryd.prog w = .ok (.agg #[.pointer (some ⟨3, 67, none⟩), .pointer (some p), .int .u64 409]) w := by kernel_rfl
theorem Tryd.elemVT (a p : Addr) (W : World) (ha : W.cell? a = some (.pointer (some p))) :
    (ReflectliteValue.method (ReflectliteValue.valueError "reflectlite.Value.Elem" 0) ReflectliteValue.elem #[.agg #[.pointer (some ⟨3, 70, none⟩), .pointer (some a), .int .u64 150]]).run Tryd.prog W
      = .ok (.agg #[.pointer (some ⟨3, 67, none⟩), .pointer (some p), .int .u64 409]) W := by
  rw [show ∀ z f v, ReflectliteValue.method z f #[v] = Bind.bind (ReflectliteValue.parts v) _ from fun _ _ _ => rfl]
  simp only [Sem.run_bind, Tryd.partsT, Result.andThen]
  simp [ReflectliteValue.elem, loadVar, isAgg, underlying, Tryd.underlying70, ha, Result.andThen, Tryd.elemOfT, Tryd.mkL]
theorem Tryd.partsLa (a : Addr) (w : World) : (ReflectliteValue.parts (.agg #[.pointer (some ⟨3, 67, none⟩), .pointer (some a), .int .u64 409])).run Tryd.prog w = .ok (some (67, a, 409)) w := by kernel_rfl
theorem Tryd.partsL (a : Addr) (w : World) : (ReflectliteValue.parts (.agg #[.pointer (some ⟨3, 67, none⟩), .pointer (some a), .int .u64 153])).run Tryd.prog w = .ok (some (67, a, 153)) w := by kernel_rfl
theorem Tryd.directL (w : World) : (Rtype.directlyAssignable 67 67).run Tryd.prog w = .ok true w := by kernel_rfl
theorem Tryd.sizeL (w : World) : (sizeOf 67).run Tryd.prog w = .ok 2 w := by kernel_rfl
/-- What the package-level errors, and errors' own type of errors, hold. -/
structure Errs (w : World) (a0 a1 : Addr) : Prop where
  short : w.cell? ⟨0, 0, none⟩ = some (.iface 124 (.pointer (some a0)))
  bad : w.cell? ⟨1, 0, none⟩ = some (.iface 124 (.pointer (some a1)))
  type : w.cell? ⟨2, 0, none⟩ = some (.iface 104 (.agg #[.pointer (some ⟨3, 42, none⟩)]))
  ne : a0 ≠ a1
  row0 : ∃ c t, w.heap[a0.block]? = some (.cells c t (0, 0))
  row1 : ∃ c t, w.heap[a1.block]? = some (.cells c t (0, 0))

theorem cell_lt {w : World} {a : Addr} {v : Value} (h : w.cell? a = some v) : a.block < w.heap.size := by
  rcases Nat.lt_or_ge a.block w.heap.size with h1 | h1
  · exact h1
  · simp [World.cell?, Array.getElem?_eq_none h1] at h
theorem Errs.below {w w' : World} {a0 a1 : Addr} {B : Nat} (h : Errs w a0 a1) (hb : Below B w w') (hB : w.heap.size ≤ B) : Errs w' a0 a1 := by
  obtain ⟨h1, h2, h3, h4, ⟨c0, t0, h5⟩, ⟨c1, t1, h6⟩⟩ := h
  have l1 := cell_lt h1
  have l2 := cell_lt h2
  have l3 := cell_lt h3
  have l5 := (Array.getElem?_eq_some_iff.1 h5).1
  have l6 := (Array.getElem?_eq_some_iff.1 h6).1
  exact ⟨(hb.cell (by exact Nat.lt_of_lt_of_le l1 hB)).trans h1, (hb.cell (by exact Nat.lt_of_lt_of_le l2 hB)).trans h2, (hb.cell (by exact Nat.lt_of_lt_of_le l3 hB)).trans h3, h4,
    ⟨c0, t0, (hb.block _ (by omega)).trans h5⟩, ⟨c1, t1, (hb.block _ (by omega)).trans h6⟩⟩

end Go.Proofs.YtccaakgfhclebaaDoor

/-
  Deeds (chapter 8): spec.DeedOk, l8Slot.
-/
namespace Go.Proofs.YtccaakgfhclebaaDoor
open Go.RowKit

def deedOk (k n t m : Int) : Bool := inB n 0 3 && inB m 1 1000000 && (if k = 1 ∨ k = 3 then t == 0 else if k = 2 then inB t 0 3 && !(t == n) else false)
def slotOf (k n t : Int) : Int := if k = 1 then n else if k = 2 then t else 4

theorem deedOk_n {k n t m : Int} (h : inB n 0 3 = false) : deedOk k n t m = false := by simp [deedOk, h]
theorem deedOk_m {k n t m : Int} (h : inB m 1 1000000 = false) : deedOk k n t m = false := by simp [deedOk, h]
theorem deedOk_at {k n t m : Int} (h : inB n 0 3 = true) (h2 : inB m 1 1000000 = true) : deedOk k n t m = (if k = 1 ∨ k = 3 then t == 0 else if k = 2 then inB t 0 3 && !(t == n) else false) := by simp [deedOk, h, h2]

set_option maxHeartbeats 2000000 in
set_option maxRecDepth 100000 in
theorem specDeedOk_any (k n t m : Int) (w : World) :
    Calls Tryd.prog 13 #[.agg #[.int .i64 k, .int .i64 n, .int .i64 t, .int .i64 m]] w (Says (.bool (deedOk k n t m)) w) := by
  have h1 := fun w => l3Node_any n w
  have h2 := fun w => l1In_any m 1 1000000 w
  have h3 := fun w => l3Node_any t w
  have hb0 : Below w.heap.size w (w.alloc (.cells #[.int .i64 k, .int .i64 n, .int .i64 t, .int .i64 m] 30)) := (Below.refl _ _).alloc (Nat.le_refl _) _
  have e1 : inB n 0 3 = false → deedOk k n t m = false := deedOk_n
  have e2 : inB m 1 1000000 = false → deedOk k n t m = false := deedOk_m
  have e3 : inB n 0 3 = true → inB m 1 1000000 = true → deedOk k n t m = (if k = 1 ∨ k = 3 then t == 0 else if k = 2 then inB t 0 3 && !(t == n) else false) := deedOk_at
  generalize deedOk k n t m = r at e1 e2 e3
  generalize inB n 0 3 = b1 at h1 e1 e3
  generalize inB m 1 1000000 = b2 at h2 e2 e3
  generalize inB t 0 3 = b3 at h3 e3
  rcases b1 with _ | _
  · have hr := e1 rfl
    subst hr
    clear e1 e2 e3
    go_enter Tryd.func13, Tryd.ntmps13
    go_wp2_with fail
    refine (h1 _).mono ?_
    rintro e w' ⟨rfl, rfl⟩
    go_wp2_with fail
    go_ret
    exact ⟨rfl, hb0⟩
  rcases b2 with _ | _
  · have hr := e2 rfl
    subst hr
    clear e1 e2 e3
    go_enter Tryd.func13, Tryd.ntmps13
    go_wp2_with fail
    refine (h1 _).mono ?_
    rintro e w' ⟨rfl, rfl⟩
    go_wp2_with fail
    refine (h2 _).mono ?_
    rintro e w' ⟨rfl, rfl⟩
    go_wp2_with fail
    go_ret
    exact ⟨rfl, hb0⟩
  have hr := e3 rfl rfl
  clear e1 e2 e3
  by_cases k1 : k = 1
  · subst k1
    rw [if_pos (.inl rfl)] at hr
    have HR := Lib.hid hr; clear hr
    go_enter Tryd.func13, Tryd.ntmps13
    go_wp2_with fail
    refine (h1 _).mono ?_
    rintro e w' ⟨rfl, rfl⟩
    go_wp2_with fail
    refine (h2 _).mono ?_
    rintro e w' ⟨rfl, rfl⟩
    go_wp2_with fail
    go_ret
    exact ⟨ret_bool HR.out.symm, hb0⟩
  by_cases k3 : k = 3
  · subst k3
    rw [if_pos (.inr rfl)] at hr
    have HR := Lib.hid hr; clear hr k1
    go_enter Tryd.func13, Tryd.ntmps13
    go_wp2_with fail
    refine (h1 _).mono ?_
    rintro e w' ⟨rfl, rfl⟩
    go_wp2_with fail
    refine (h2 _).mono ?_
    rintro e w' ⟨rfl, rfl⟩
    go_wp2_with fail
    go_ret
    exact ⟨ret_bool HR.out.symm, hb0⟩
  rw [if_neg (fun h => h.elim k1 k3)] at hr
  have k1' : (k == 1) = false := by simpa using k1
  have k3' : (k == 3) = false := by simpa using k3
  by_cases k2 : k = 2
  · subst k2
    rw [if_pos rfl] at hr
    have HR := Lib.hid hr; clear hr k1 k3 k1' k3'
    go_enter Tryd.func13, Tryd.ntmps13
    go_wp2_with fail
    refine (h1 _).mono ?_
    rintro e w' ⟨rfl, rfl⟩
    go_wp2_with fail
    refine (h2 _).mono ?_
    rintro e w' ⟨rfl, rfl⟩
    go_wp2_with fail
    refine (h3 _).mono ?_
    rintro e w' ⟨rfl, rfl⟩
    rcases b3 with _ | _
    · go_wp2_with fail
      go_ret
      exact ⟨ret_bool HR.out.symm, hb0⟩
    · go_wp2_with fail
      go_ret
      exact ⟨ret_bool (by rw [HR.out]; simp [bne]), hb0⟩
  · rw [if_neg k2] at hr
    have k2' : (k == 2) = false := by simpa using k2
    subst hr
    clear k1 k2 k3
    go_enter Tryd.func13, Tryd.ntmps13
    go_wp2_with fail
    refine (h1 _).mono ?_
    rintro e w' ⟨rfl, rfl⟩
    go_wp2_with fail
    refine (h2 _).mono ?_
    rintro e w' ⟨rfl, rfl⟩
    go_wp2_with fail
    go_ret
    exact ⟨rfl, hb0⟩

set_option maxHeartbeats 1000000 in
theorem l8Slot_any (k n t m : Int) (w : World) :
    Calls Tryd.prog 26 #[.agg #[.int .i64 k, .int .i64 n, .int .i64 t, .int .i64 m]] w (Says (.int .i64 (slotOf k n t)) w) := by
  have hb0 : Below w.heap.size w (w.alloc (.cells #[.int .i64 k, .int .i64 n, .int .i64 t, .int .i64 m] 30)) := (Below.refl _ _).alloc (Nat.le_refl _) _
  by_cases k1 : k = 1
  · subst k1
    have hv : slotOf 1 n t = n := rfl
    rw [hv]
    go_enter Tryd.func26, Tryd.ntmps26
    go_wp2
    go_ret
    exact ⟨rfl, hb0⟩
  · have k1' : (k == 1) = false := by simpa using k1
    by_cases k2 : k = 2
    · subst k2
      have hv : slotOf 2 n t = t := rfl
      rw [hv]
      clear k1 k1'
      go_enter Tryd.func26, Tryd.ntmps26
      go_wp2
      go_ret
      exact ⟨rfl, hb0⟩
    · have k2' : (k == 2) = false := by simpa using k2
      have hv : slotOf k n t = 4 := by rw [slotOf, if_neg k1, if_neg k2]
      rw [hv]
      clear k1 k2 hv
      go_enter Tryd.func26, Tryd.ntmps26
      go_wp2
      go_ret
      exact ⟨rfl, hb0⟩

end Go.Proofs.YtccaakgfhclebaaDoor

/-
  Keys of entries: impl.KeyOf, spec.KeyOf.
-/
namespace Go.Proofs.YtccaakgfhclebaaDoor
open Go.RowKit

theorem keyOf_ok {o s a d : Int} (h : entryOk o s a d = true) : keyOf o s a d = 5 * o + s ∧ 0 ≤ o ∧ o ≤ 3 ∧ 0 ≤ s ∧ s ≤ 4 := by
  refine ⟨by rw [keyOf, if_pos h], ?_⟩
  simp only [entryOk, decide_eq_true_eq] at h
  omega
theorem keyOf_no {o s a d : Int} (h : entryOk o s a d = false) : keyOf o s a d = -1 := by rw [keyOf, h]; rfl

set_option maxHeartbeats 1000000 in
theorem implKeyOf_any (o s a d : Int) (w : World) :
    Calls Tryd.prog 44 #[.agg #[.int .i64 o, .int .i64 s, .int .i64 a, .int .i64 d]] w (Says (.int .i64 (keyOf o s a d)) w) := by
  have h0 := fun w => implEntryOk_any o s a d w
  have hy : entryOk o s a d = true → keyOf o s a d = 5 * o + s ∧ 0 ≤ o ∧ o ≤ 3 ∧ 0 ≤ s ∧ s ≤ 4 := keyOf_ok
  have hn : entryOk o s a d = false → keyOf o s a d = -1 := keyOf_no
  generalize entryOk o s a d = b at h0 hy hn
  generalize keyOf o s a d = k at hy hn
  rcases b with _ | _
  · have e := hn rfl
    subst e
    clear hy hn
    go_enter Tryd.func44, Tryd.ntmps44
    go_wp2_with fail
    refine (h0 _).mono ?_
    rintro e w1 ⟨rfl, hb1⟩
    have hbb := ((Below.refl w.heap.size w).alloc (Nat.le_refl _) (Obj.cells #[.int .i64 o, .int .i64 s, .int .i64 a, .int .i64 d] 38)).trans (hb1.mono (by simp))
    go_wp2_with fail
    go_ret
    exact ⟨rfl, hbb⟩
  · obtain ⟨rfl, ho0, ho1, hs0, hs1⟩ := hy rfl
    clear hn
    go_enter Tryd.func44, Tryd.ntmps44
    go_wp2_with fail
    refine (h0 _).mono ?_
    rintro e w1 ⟨rfl, hb1⟩
    have hbb := ((Below.refl w.heap.size w).alloc (Nat.le_refl _) (Obj.cells #[.int .i64 o, .int .i64 s, .int .i64 a, .int .i64 d] 38)).trans (hb1.mono (by simp))
    have hc0 := (hb1.cell (p := ⟨w.heap.size, 0, none⟩) (by simp)).trans (show _ = some (Value.int .i64 o) by go_simp)
    have hc1 := (hb1.cell (p := ⟨w.heap.size, 1, none⟩) (by simp)).trans (show _ = some (Value.int .i64 s) by go_simp)
    clear hb1
    go_wp2_with fail
    go_ret
    exact ⟨ret_int (by omega), hbb⟩

set_option maxHeartbeats 1000000 in
theorem specKeyOf_any (o s a d : Int) (w : World) :
    Calls Tryd.prog 21 #[.agg #[.int .i64 o, .int .i64 s, .int .i64 a, .int .i64 d]] w (Says (.int .i64 (keyOf o s a d)) w) := by
  have h0 := fun w => specEntryOk_any o s a d w
  have hy : entryOk o s a d = true → keyOf o s a d = 5 * o + s ∧ 0 ≤ o ∧ o ≤ 3 ∧ 0 ≤ s ∧ s ≤ 4 := keyOf_ok
  have hn : entryOk o s a d = false → keyOf o s a d = -1 := keyOf_no
  generalize entryOk o s a d = b at h0 hy hn
  generalize keyOf o s a d = k at hy hn
  rcases b with _ | _
  · have e := hn rfl
    subst e
    clear hy hn
    go_enter Tryd.func21, Tryd.ntmps21
    go_wp2_with fail
    refine (h0 _).mono ?_
    rintro e w1 ⟨rfl, hb1⟩
    have hbb := ((Below.refl w.heap.size w).alloc (Nat.le_refl _) (Obj.cells #[.int .i64 o, .int .i64 s, .int .i64 a, .int .i64 d] 38)).trans (hb1.mono (by simp))
    go_wp2_with fail
    go_ret
    exact ⟨rfl, hbb⟩
  · obtain ⟨rfl, ho0, ho1, hs0, hs1⟩ := hy rfl
    clear hn
    go_enter Tryd.func21, Tryd.ntmps21
    go_wp2_with fail
    refine (h0 _).mono ?_
    rintro e w1 ⟨rfl, hb1⟩
    have hbb := ((Below.refl w.heap.size w).alloc (Nat.le_refl _) (Obj.cells #[.int .i64 o, .int .i64 s, .int .i64 a, .int .i64 d] 38)).trans (hb1.mono (by simp))
    have hc0 := (hb1.cell (p := ⟨w.heap.size, 0, none⟩) (by simp)).trans (show _ = some (Value.int .i64 o) by go_simp)
    have hc1 := (hb1.cell (p := ⟨w.heap.size, 1, none⟩) (by simp)).trans (show _ = some (Value.int .i64 s) by go_simp)
    clear hb1
    go_wp2_with fail
    go_ret
    exact ⟨ret_int (by omega), hbb⟩

end Go.Proofs.YtccaakgfhclebaaDoor
