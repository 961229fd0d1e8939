/- Texts of this claim, put together: MathHeld, Rise, Dots, ImplBookOk, AllOf, Changes, ImplRight. -/
import Derived.Test.YtccaakgfhclebaaDoorPk2
import Derived.Test.YtccaakgfhclebaaDoorPk3
import Derived.Test.YtccaakgfhclebaaDoorPk4
import Derived.Test.YtccaakgfhclebaaDoorPk6
import Derived.Laws.EntriesVeiled
import Derived.RangeFuncNested
import Derived.RangeFuncBound
import Derived.RangeFuncCalls
import Derived.RangeFuncLeaves
import Derived.Shelf.Abstract
import Derived.Shelf.RegionOpen
import Derived.OwnWalkIn
import Derived.TacticsInMore
import Derived.LoopNIn
import Derived.LoopIn

/-
  What all hold together is what was made, less what was spent.
-/
namespace Go.Proofs.YtccaakgfhclebaaDoor

def contrib (e : Ent) (node : Int) : Int := if e.s = node then e.a else if e.o = node then -e.a else 0
def hsum : List Ent → Int → Int
  | [], _ => 0
  | e :: r, node => contrib e node + hsum r node
theorem held_hsum (es : List Ent) (node : Int) : held es node = hsum es node := by
  have : ∀ acc, es.foldl (heldStep node) acc = acc + hsum es node := by
    induction es with
    | nil => intro acc; simp [hsum]
    | cons e r ih =>
      intro acc
      rw [List.foldl_cons, ih, hsum]
      unfold heldStep contrib
      split
      · omega
      · split <;> omega
  unfold held
  rw [this]
  omega

theorem contrib_all {e : Ent} (h : e.ok = true) : contrib e 0 + contrib e 1 + contrib e 2 + contrib e 3 = (if e.s = e.o then e.a else 0) - (if e.s = 4 then e.a else 0) := by
  have hh := Ent.ok_all h
  have ho : e.o = 0 ∨ e.o = 1 ∨ e.o = 2 ∨ e.o = 3 := by omega
  have hs : e.s = 0 ∨ e.s = 1 ∨ e.s = 2 ∨ e.s = 3 ∨ e.s = 4 := by omega
  unfold contrib
  rcases ho with h1 | h1 | h1 | h1 <;> rcases hs with h2 | h2 | h2 | h2 | h2 <;> rw [h1, h2] <;> simp <;> omega

theorem amount_zero {es : List Ent} {o s : Int} (h : ∀ x ∈ es, ¬ (x.o = o ∧ x.s = s)) : amount es o s = 0 := by
  induction es with
  | nil => rfl
  | cons x r ih => rw [amount, if_neg (h x (List.mem_cons_self ..)), ih (fun y hy => h y (List.mem_cons_of_mem _ hy))]

theorem made_cons {x : Ent} {r : List Ent} (hx : x.ok = true) (hn : ∀ y ∈ r, ¬ (y.o = x.o ∧ y.s = x.s)) : madeTo (x :: r) 4 = (if x.s = x.o then x.a else 0) + madeTo r 4 := by
  have hh := Ent.ok_all hx
  have hz := amount_zero hn
  have ho : x.o = 0 ∨ x.o = 1 ∨ x.o = 2 ∨ x.o = 3 := by omega
  have hs : x.s = 0 ∨ x.s = 1 ∨ x.s = 2 ∨ x.s = 3 ∨ x.s = 4 := by omega
  simp only [madeTo, amount]
  rcases ho with h1 | h1 | h1 | h1 <;> rcases hs with h2 | h2 | h2 | h2 | h2 <;> rw [h1, h2] at hz ⊢ <;> simp <;> omega
theorem spent_cons {x : Ent} {r : List Ent} (hx : x.ok = true) (hn : ∀ y ∈ r, ¬ (y.o = x.o ∧ y.s = x.s)) : spentTo (x :: r) 4 = (if x.s = 4 then x.a else 0) + spentTo r 4 := by
  have hh := Ent.ok_all hx
  have hz := amount_zero hn
  have ho : x.o = 0 ∨ x.o = 1 ∨ x.o = 2 ∨ x.o = 3 := by omega
  have hs : x.s = 0 ∨ x.s = 1 ∨ x.s = 2 ∨ x.s = 3 ∨ x.s = 4 := by omega
  simp only [spentTo, amount]
  rcases ho with h1 | h1 | h1 | h1 <;> rcases hs with h2 | h2 | h2 | h2 | h2 <;> rw [h1, h2] at hz ⊢ <;> simp <;> omega

theorem held_sum {es : List Ent} (hall : ∀ x ∈ es, x.ok = true) (hp : es.Pairwise (fun a b => a.key < b.key)) : hsum es 0 + hsum es 1 + hsum es 2 + hsum es 3 = madeTo es 4 - spentTo es 4 := by
  induction es with
  | nil => rfl
  | cons x r ih =>
    have hx := hall x (List.mem_cons_self ..)
    have hr := fun y hy => hall y (List.mem_cons_of_mem _ hy)
    rw [List.pairwise_cons] at hp
    have hn : ∀ y ∈ r, ¬ (y.o = x.o ∧ y.s = x.s) := fun y hy h => by
      have h1 := hp.1 y hy
      have h2 := Ent.key_ok hx; have h3 := Ent.key_ok (hr y hy)
      omega
    have h1 := ih hr hp.2
    have h2 := contrib_all hx
    rw [made_cons hx hn, spent_cons hx hn]
    simp only [hsum]
    omega

theorem right_lt {es : List Ent} {n : Nat} (h : Right es n) : ∀ j i, i < j → j < n → (E es i).key < (E es j).key := by
  intro j
  induction j with
  | zero => intro i hi; omega
  | succ j ih =>
    intro i hi hj
    have h1 := (h (j + 1) hj).2.1 (by omega)
    rw [Nat.add_sub_cancel] at h1
    by_cases e : i = j
    · subst e; exact h1
    · have := ih i (by omega) (by omega)
      omega
theorem book_sorted {es : List Ent} (h : bookOk es = true) : es.Pairwise (fun a b => a.key < b.key) := by
  rw [List.pairwise_iff_getElem]
  intro i j hi hj hij
  have := right_lt (book_right h) j i hij hj
  rwa [E_get hi, E_get hj] at this

theorem held_total {es : List Ent} (h : bookOk es = true) : heldBy es 0 + heldBy es 1 + heldBy es 2 + heldBy es 3 = madeIn es - spentIn es := by
  rw [heldBy_yes h rfl, heldBy_yes h rfl, heldBy_yes h rfl, heldBy_yes h rfl, madeIn_yes h, spentIn_yes h, held_hsum, held_hsum, held_hsum, held_hsum]
  exact held_sum (book_all6 h) (book_sorted h)

theorem held_range {es : List Ent} (h : bookOk es = true) (node : Int) : -20000000 ≤ held es node ∧ held es node ≤ 20000000 := by
  have hl := book_len h
  have hall := book_all6 h
  have : ∀ (xs : List Ent), (∀ x ∈ xs, x.ok = true) → -(1000000 * (xs.length : Int)) ≤ hsum xs node ∧ hsum xs node ≤ 1000000 * (xs.length : Int) := by
    intro xs
    induction xs with
    | nil => intro _; simp [hsum]
    | cons x r ih =>
      intro hx
      have h1 := ih (fun y hy => hx y (List.mem_cons_of_mem _ hy))
      have h2 := Ent.ok_all (hx x (List.mem_cons_self ..))
      simp only [hsum, contrib, List.length_cons]
      push_cast
      split
      · omega
      · split <;> omega
  have h2 := this es hall
  rw [held_hsum]
  omega
theorem heldBy_range (es : List Ent) (node : Int) : -20000000 ≤ heldBy es node ∧ heldBy es node ≤ 20000000 := by
  unfold heldBy
  split
  · rename_i h; exact held_range h.1 node
  · omega
theorem madeIn_range (es : List Ent) : -1 ≤ madeIn es ∧ madeIn es ≤ 4000000 := by
  unfold madeIn
  split
  · rename_i h
    have hr := amount_range (book_all6 h)
    have h0 := hr 0 0; have h1 := hr 1 1; have h2 := hr 2 2; have h3 := hr 3 3
    simp only [madeTo]
    push_cast
    omega
  · omega
theorem spentIn_range (es : List Ent) : -1 ≤ spentIn es ∧ spentIn es ≤ 4000000 := by
  unfold spentIn
  split
  · rename_i h
    have hr := amount_range (book_all6 h)
    have h0 := hr 0 4; have h1 := hr 1 4; have h2 := hr 2 4; have h3 := hr 3 4
    simp only [spentTo]
    push_cast
    omega
  · omega

end Go.Proofs.YtccaakgfhclebaaDoor

/-
  The list by key (impl.keyed at entries): its rise; Dots that differ; impl.BookOk.
-/
namespace Go.Proofs.YtccaakgfhclebaaDoor
open Go.RowKit

/-- The key of the one ahead; -1 ahead of all. -/
def lastKey (es : List Ent) (i : Nat) : Int := if i = 0 then -1 else (E es (i - 1)).key
def Rise (es : List Ent) (k : Nat) : Prop := ∀ i, i < k → lastKey es i < (E es i).key
instance (es : List Ent) (k : Nat) : Decidable (Rise es k) := by unfold Rise; infer_instance
def rises (es : List Ent) : Bool := decide (Rise es es.length)
theorem rise_zero (es : List Ent) : Rise es 0 := fun i hi => absurd hi (by omega)
theorem rise_succ {es : List Ent} {k : Nat} (h : Rise es k) (hg : lastKey es k < (E es k).key) : Rise es (k + 1) := fun i hi => by
  by_cases e : i = k
  · subst e; exact hg
  · exact h i (by omega)
theorem rise_bad {es : List Ent} {k : Nat} (hk : k < es.length) (h : ¬ lastKey es k < (E es k).key) : rises es = false := decide_eq_false (fun hr => h (hr k hk))
theorem lastKey_succ (es : List Ent) (k : Nat) : lastKey es (k + 1) = (E es k).key := by simp [lastKey]

/-- A list by key, as a value. -/
def keyedV (ao : Option Addr) (n cap : Nat) : Value := .agg #[.slice ao n cap, .func (.func 44) #[] #[]]

set_option maxHeartbeats 1000000 in
set_option maxRecDepth 100000 in
theorem rises_any (B : Nat) (ao : Option Addr) (n cap : Nat) (es : List Ent) (w : World) (hx : Ents B w ao n cap es) (hB : B ≤ w.heap.size) :
    Calls Tryd.prog 55 #[.agg #[.slice ao n cap, .func (.func 44) #[] #[]]] w (Says (.bool (rises es)) w) := by
  have hx0 := hx.hlen; have hx1 := hx.hcap; have hx2 := hx.hmax
  unfold maxLen at hx2
  have HX := Lib.hid hx0; clear hx0
  generalize hb : rises es = bb
  have HB := Lib.hid hb; clear hb
  have hb0 : Below w.heap.size w (w.alloc (.cells #[.slice ao n cap, .func (.func 44) #[] #[]] 63)) := (Below.refl _ _).alloc (Nat.le_refl _) _
  have hk0 : Blk (w.alloc (.cells #[.slice ao n cap, .func (.func 44) #[] #[]] 63)) w.heap.size 63 #[.slice ao n cap, .func (.func 44) #[] #[]] := Blk.new _ _ _
  go_enter Tryd.func55, Tryd.ntmps55
  go_wp2
  go_loopw [3, 10] (fun sl si wr => ∃ i : Nat, i ≤ n ∧ si = .int .i64 i ∧ sl = .int .i64 (lastKey es i) ∧ Hid (Rise es i) ∧ Below w.heap.size w wr ∧ Blk wr w.heap.size 63 #[.slice ao n cap, .func (.func 44) #[] #[]]) (fun _ si _ => n - (intOf si).toNat)
  case atStart => exact ⟨0, Nat.zero_le _, rfl, rfl, Lib.hid (rise_zero es), hb0, hk0⟩
  case round =>
    obtain ⟨i, hi, rfl, rfl, hr, hbel, hblk⟩ := hrel
    by_cases hlt : i < n
    · have hxr := hx.below hbel hB hB
      obtain ⟨b, off, rfl, hbB, hc⟩ := hxr.at i hlt
      have g1 := hc i hlt
      clear hc
      have hK := fun w => implKeyOf_any (E es i).o (E es i).s (E es i).a (E es i).d w
      have hkE : keyOf (E es i).o (E es i).s (E es i).a (E es i).d = (E es i).key := rfl
      rw [hkE] at hK
      clear hkE
      have hbad : ¬ lastKey es i < (E es i).key → bb = false := fun h => by rw [← HB.out]; exact rise_bad (by have := HX.out; omega) h
      have hgood : lastKey es i < (E es i).key → Rise es (i + 1) := rise_succ hr.out
      have hlast := lastKey_succ es i
      generalize lastKey es i = lk at hbad hgood
      generalize (E es i).key = ky at hK hbad hgood hlast
      generalize E es i = x at g1 hK
      have HBAD := Lib.hid hbad; have HGOOD := Lib.hid hgood; have HLAST := Lib.hid hlast; clear hbad hgood hlast
      obtain ⟨c0, c1, c2, c3⟩ := g1
      have hsz := hbel.size
      have hkl := hblk.lt
      have f0 := hblk.cell 0
      have f1 := hblk.cell 1
      have i1 : (0 : Int) ≤ i := by omega
      have i2 : (i : Int) < n := by omega
      go_wp2_with fail
      refine (hK _).mono ?_
      rintro e w1 ⟨rfl, hb1⟩
      have hB1 : Below w.heap.size w w1 := (hbel.alloc hsz _).trans (hb1.mono (by simp; omega))
      have hk1 := (hblk.alloc (.cells #[.int .i64 x.o, .int .i64 x.s, .int .i64 x.a, .int .i64 x.d] 38)).below hb1 (by simp; omega)
      clear hb1 hblk hbel f0 f1 c0 c1 c2 c3 hK hb0 hk0
      by_cases hlk : lk < ky
      · have d1 : decide (ky ≤ lk) = false := decide_eq_false (by omega)
        have hnext := Lib.hid (HGOOD.out hlk)
        clear HGOOD HBAD
        go_wp2
        go_roundw
        case rel => exact ⟨i + 1, by omega, by go_num, by rw [HLAST.out], hnext, hB1, hk1⟩
        case measure => simp [intOf]; omega
      · have d1 : decide (ky ≤ lk) = true := decide_eq_true (by omega)
        have hbb := Lib.hid (HBAD.out (by omega))
        clear HGOOD HBAD HLAST
        go_wp2
        go_ret
        exact ⟨ret_bool hbb.out.symm, hB1⟩
    · have ei : i = n := by omega
      subst ei
      have hgo : rises es = true := decide_eq_true (by rw [HX.out]; exact hr.out)
      rw [HB.out] at hgo
      go_wp2
      go_ret
      exact ⟨ret_bool hgo.symm, hbel⟩

end Go.Proofs.YtccaakgfhclebaaDoor

/-
  impl.dotsDiffer.
-/
namespace Go.Proofs.YtccaakgfhclebaaDoor
open Go.RowKit

/-- None of the first k entries has the Owner and the Dot of one ahead of it. -/
def Differ (es : List Ent) (k : Nat) : Prop := ∀ i, i < k → ∀ j, j < i → ¬ ((E es j).o = (E es i).o ∧ (E es j).d = (E es i).d)
instance (es : List Ent) (k : Nat) : Decidable (Differ es k) := by unfold Differ; infer_instance
def differ (es : List Ent) : Bool := decide (Differ es es.length)
theorem differ_zero (es : List Ent) : Differ es 0 := fun i hi => absurd hi (by omega)
theorem differ_succ {es : List Ent} {k : Nat} (h : Differ es k) (hg : ∀ j, j < k → ¬ ((E es j).o = (E es k).o ∧ (E es j).d = (E es k).d)) : Differ es (k + 1) := fun i hi => by
  by_cases e : i = k
  · subst e; exact hg
  · exact h i (by omega)

set_option maxHeartbeats 1000000 in
set_option maxRecDepth 100000 in
theorem dotsDiffer_any (B : Nat) (ao : Option Addr) (n cap : Nat) (es : List Ent) (w : World) (hx : Ents B w ao n cap es) (hB : B ≤ w.heap.size) :
    Calls Tryd.prog 56 #[.slice ao n cap] w (Says (.bool (differ es)) w) := by
  have hx0 := hx.hlen; have hx1 := hx.hcap; have hx2 := hx.hmax
  unfold maxLen at hx2
  have HX := Lib.hid hx0; clear hx0
  generalize hb : differ es = bb
  have HB := Lib.hid hb; clear hb
  go_enter Tryd.func56, Tryd.ntmps56
  go_wp2
  go_loopw [9] (fun si wr => ∃ i : Nat, i ≤ n ∧ si = .int .i64 i ∧ Hid (Differ es i) ∧ Below w.heap.size w wr) (fun si _ => n - (intOf si).toNat)
  case atStart => exact ⟨0, Nat.zero_le _, rfl, Lib.hid (differ_zero es), Below.refl _ _⟩
  case round =>
    obtain ⟨i, hi, rfl, hr, hbel⟩ := hrel
    by_cases hlt : i < n
    · have hxr := hx.below hbel hB hB
      obtain ⟨b, off, rfl, hbB, hc⟩ := hxr.at i hlt
      obtain ⟨c0, c1, c2, c3⟩ := hc i hlt
      have HC := Lib.hid hc; clear hc
      have hsz := hbel.size
      have hbad : ∀ j, j < i → ((E es j).o = (E es i).o ∧ (E es j).d = (E es i).d) → bb = false := fun j hj h => by
        rw [← HB.out]; exact decide_eq_false (fun hd => hd i (by have := HX.out; omega) j hj h)
      have hgood : (∀ j, j < i → ¬ ((E es j).o = (E es i).o ∧ (E es j).d = (E es i).d)) → Differ es (i + 1) := differ_succ hr.out
      generalize E es i = x at c0 c1 c2 c3 hbad hgood
      have HBAD := Lib.hid hbad; have HGOOD := Lib.hid hgood; clear hbad hgood
      have i1 : (0 : Int) ≤ i := by omega
      have i2 : (i : Int) < n := by omega
      have i3 : (i : Int) ≤ cap := by omega
      obtain ⟨W, hW⟩ : ∃ W, W = wr.alloc (.cells #[.int .i64 x.o, .int .i64 x.s, .int .i64 x.a, .int .i64 x.d] 38) := ⟨_, rfl⟩
      have hk0 : Blk W wr.heap.size 38 #[.int .i64 x.o, .int .i64 x.s, .int .i64 x.a, .int .i64 x.d] := by rw [hW]; exact Blk.new _ _ _
      have hWb : Below w.heap.size w W := by rw [hW]; exact hbel.alloc hsz _
      have hWr : Below wr.heap.size wr W := by rw [hW]; exact (Below.refl _ _).alloc (Nat.le_refl _) _
      go_wp2
      rw [← hW]
      go_loopw [18] (fun sj wq => ∃ j : Nat, j ≤ i ∧ sj = .int .i64 j ∧ Hid (∀ k, k < j → ¬ ((E es k).o = x.o ∧ (E es k).d = x.d)) ∧ Below w.heap.size w wq ∧ Blk wq wr.heap.size 38 #[.int .i64 x.o, .int .i64 x.s, .int .i64 x.a, .int .i64 x.d]) (fun sj _ => i - (intOf sj).toNat)
      case atStart => exact ⟨0, Nat.zero_le _, rfl, Lib.hid (fun k hk => absurd hk (by omega)), hWb, hk0⟩
      case round =>
        obtain ⟨j, hj, rfl, hno, hbq, hkq⟩ := hrel
        by_cases hji : j < i
        · have hxq := hx.below hbq hB hB
          obtain ⟨b', off', e', hbB', hc'⟩ := hxq.at j (by omega)
          cases e'
          obtain ⟨a0, a1, a2, a3⟩ := hc' j (by omega)
          clear hc'
          have htwin := HBAD.out j hji
          have hstep : ¬ ((E es j).o = x.o ∧ (E es j).d = x.d) → ∀ k, k < j + 1 → ¬ ((E es k).o = x.o ∧ (E es k).d = x.d) := fun h k hk => by
            by_cases e : k = j
            · subst e; exact h
            · exact hno.out k (by omega)
          generalize E es j = y at a0 a1 a2 a3 htwin hstep
          have HT := Lib.hid htwin; have HST := Lib.hid hstep; clear htwin hstep
          have hsq := hbq.size
          have hkl := hkq.lt
          have hkq2 := hkq.alloc (.cells #[.int .i64 y.o, .int .i64 y.s, .int .i64 y.a, .int .i64 y.d] 38)
          have hbq2 := hbq.alloc hsq (.cells #[.int .i64 y.o, .int .i64 y.s, .int .i64 y.a, .int .i64 y.d] 38)
          have f0 := hkq2.cell 0
          have f3 := hkq2.cell 3
          have k1 : (0 : Int) ≤ j := by omega
          have k2 : (j : Int) < i := by omega
          by_cases ho : x.o = y.o
          · have ho' : (x.o == y.o) = true := by simpa using ho
            by_cases hd : x.d = y.d
            · have hd' : (x.d == y.d) = true := by simpa using hd
              have hbb := Lib.hid (HT.out ⟨ho.symm, hd.symm⟩)
              clear ho hd HT HST HBAD HGOOD
              go_wp2
              go_ret
              exact ⟨ret_bool hbb.out.symm, hbq2⟩
            · have hd' : (x.d == y.d) = false := by simpa using hd
              have hs := Lib.hid (HST.out (fun h => hd h.2.symm))
              clear ho hd HT HST HBAD HGOOD
              go_wp2
              go_roundw
              case rel => exact ⟨j + 1, by omega, by go_num, hs, hbq2, hkq2⟩
              case measure => simp [intOf]; omega
          · have ho' : (x.o == y.o) = false := by simpa using ho
            have hs := Lib.hid (HST.out (fun h => ho h.1.symm))
            clear ho HT HST HBAD HGOOD
            go_wp2
            go_roundw
            case rel => exact ⟨j + 1, by omega, by go_num, hs, hbq2, hkq2⟩
            case measure => simp [intOf]; omega
        · have ej : j = i := by omega
          have hgo := Lib.hid (HGOOD.out (fun k hk => hno.out k (by omega)))
          subst ej
          clear HBAD HGOOD
          go_wp2
          go_roundw
          case rel => exact ⟨j + 1, by omega, by go_num, hgo, hbq⟩
          case measure => simp [intOf]; omega
    · have ei : i = n := by omega
      subst ei
      have hgo : differ es = true := decide_eq_true (by rw [HX.out]; exact hr.out)
      rw [HB.out] at hgo
      go_wp2
      go_ret
      exact ⟨ret_bool hgo.symm, hbel⟩

end Go.Proofs.YtccaakgfhclebaaDoor

/-
  impl.entriesByKey, impl.BookOk.
-/
namespace Go.Proofs.YtccaakgfhclebaaDoor
open Go.RowKit

theorem good_parts {es : List Ent} {i : Nat} (hr : Rise es (i + 1)) (hd : Differ es (i + 1)) : Good es i := by
  have h1 := hr i (by omega)
  refine ⟨?_, fun h0 => ?_, fun j hj => hd i (by omega) j hj⟩
  · have hge : 0 ≤ lastKey es i + 1 := by
      unfold lastKey
      split
      · omega
      · have h2 := hr (i - 1) (by omega)
        have h3 : -1 ≤ lastKey es (i - 1) := by
          clear h1 h2
          generalize i - 1 = k
          unfold lastKey
          split
          · omega
          · unfold Ent.key keyOf
            split
            · rename_i h
              have := Ent.ok_all (e := E es (k - 1)) h
              omega
            · omega
        omega
    cases hk : (E es i).ok with
    | true => rfl
    | false =>
      have h4 : (E es i).key = -1 := by unfold Ent.key; exact keyOf_no hk
      omega
  · unfold lastKey at h1
    rw [if_neg (by omega)] at h1
    exact h1

theorem parts_right {es : List Ent} {k : Nat} (h : Right es k) : Rise es k ∧ Differ es k := by
  refine ⟨fun i hi => ?_, fun i hi j hj => (h i hi).2.2 j hj⟩
  have h1 := Ent.key_ok (h i hi).1
  unfold lastKey
  split
  · omega
  · exact (h i hi).2.1 (by omega)

theorem book_parts (es : List Ent) : bookOk es = (rises es && differ es) := by
  rw [Bool.eq_iff_iff, Bool.and_eq_true]
  unfold bookOk rises differ
  rw [decide_eq_true_eq, decide_eq_true_eq, decide_eq_true_eq]
  refine ⟨fun h => parts_right h, fun ⟨h1, h2⟩ i hi => good_parts (fun j hj => h1 j (by omega)) (fun j hj => h2 j (by omega))⟩

set_option maxHeartbeats 400000 in
theorem entriesByKey_any (ao : Option Addr) (n cap : Nat) (w : World) :
    Calls Tryd.prog 31 #[.slice ao n cap] w (Says (.agg #[.slice ao n cap, .func (.func 44) #[] #[]]) w) := by
  go_enter Tryd.func31, Tryd.ntmps31
  go_wp2_with fail
  refine bodyPost_ret (v := .agg #[.slice ao n cap, .func (.func 44) #[] #[]]) (by simp [results, Tryd.results31, go_sem]) rfl ?_
  exact ⟨rfl, (Below.refl _ _).alloc (Nat.le_refl _) _⟩

set_option maxHeartbeats 400000 in
theorem implBookOk_any (B : Nat) (ao : Option Addr) (n cap : Nat) (es : List Ent) (w : World) (hx : Ents B w ao n cap es) (hB : B ≤ w.heap.size) :
    Calls Tryd.prog 39 #[.slice ao n cap] w (Says (.bool (bookOk es)) w) := by
  have h0 := fun w => entriesByKey_any ao n cap w
  have e1 : rises es = false → bookOk es = false := fun h => by rw [book_parts, h]; rfl
  have e2 : rises es = true → bookOk es = differ es := fun h => by rw [book_parts, h]; rfl
  generalize bookOk es = bb at e1 e2
  have E1 := Lib.hid e1; have E2 := Lib.hid e2; clear e1 e2
  go_enter Tryd.func39, Tryd.ntmps39
  go_wp2_with fail
  refine (h0 _).mono ?_
  rintro e w1 ⟨rfl, hb1⟩
  have hx1 := hx.below hb1 hB (Nat.le_refl B)
  have hs1 := hb1.size
  have h1 := rises_any B ao n cap es w1 hx1 (by omega)
  generalize rises es = b1 at h1 E1 E2
  go_wp2_with fail
  refine h1.mono ?_
  rintro e w2 ⟨rfl, hb2⟩
  have hb2' := hb1.trans (hb2.mono hs1)
  rcases b1 with _ | _
  · go_wp2_with fail
    go_ret
    exact ⟨ret_bool (E1.out (by first | rfl | trivial)).symm, hb2'⟩
  · have hx2 := hx.below hb2' hB (Nat.le_refl B)
    have hs2 := hb2'.size
    have h2 := dotsDiffer_any B ao n cap es w2 hx2 (by omega)
    have HE := Lib.hid (E2.out (by first | rfl | trivial)); clear E1 E2
    generalize differ es = b2 at h2 HE
    go_wp2_with fail
    refine h2.mono ?_
    rintro e w3 ⟨rfl, hb3⟩
    have hb3' := hb2'.trans (hb3.mono hs2)
    go_wp2_with fail
    go_ret
    exact ⟨ret_bool HE.out.symm, hb3'⟩

end Go.Proofs.YtccaakgfhclebaaDoor

/-
  impl.allOf: how much of one kind there is in a book; impl.MadeIn, impl.SpentIn.
-/
namespace Go.Proofs.YtccaakgfhclebaaDoor
open Go.RowKit

def kindStep (k acc : Int) (e : Ent) : Int := if kindOf e.o e.s = k then acc + e.a else acc
def kindTo (es : List Ent) (k : Int) : Int := es.foldl (kindStep k) 0
theorem kindTo_snoc (es : List Ent) (e : Ent) (k : Int) : kindTo (es ++ [e]) k = kindStep k (kindTo es k) e := by simp [kindTo, List.foldl_append]
theorem kindTo_take {es : List Ent} {i : Nat} (h : i < es.length) (k : Int) : kindTo (es.take (i + 1)) k = kindStep k (kindTo (es.take i) k) (E es i) := by
  rw [List.take_succ_eq_append_getElem h, ← E_get h, kindTo_snoc]
def ksum : List Ent → Int → Int
  | [], _ => 0
  | e :: r, k => (if kindOf e.o e.s = k then e.a else 0) + ksum r k
theorem kindTo_ksum (es : List Ent) (k : Int) : kindTo es k = ksum es k := by
  have : ∀ acc, es.foldl (kindStep k) acc = acc + ksum es k := by
    induction es with
    | nil => intro acc; simp [ksum]
    | cons e r ih =>
      intro acc
      rw [List.foldl_cons, ih, ksum]
      unfold kindStep
      split <;> omega
  unfold kindTo
  rw [this]
  omega
theorem kind_made {e : Ent} (h : e.ok = true) : kindOf e.o e.s = 0 ↔ e.s = e.o := by
  have hh := Ent.ok_all h
  unfold kindOf
  split
  · omega
  · split <;> omega
theorem kind_spent (e : Ent) : kindOf e.o e.s = 2 ↔ e.s = 4 := by
  unfold kindOf
  split
  · omega
  · split <;> omega
theorem ksum_made {es : List Ent} (hall : ∀ x ∈ es, x.ok = true) (hp : es.Pairwise (fun a b => a.key < b.key)) : ksum es 0 = madeTo es 4 ∧ ksum es 2 = spentTo es 4 := by
  induction es with
  | nil => exact ⟨rfl, rfl⟩
  | cons x r ih =>
    have hx := hall x (List.mem_cons_self ..)
    have hr := fun y hy => hall y (List.mem_cons_of_mem _ hy)
    rw [List.pairwise_cons] at hp
    have hn : ∀ y ∈ r, ¬ (y.o = x.o ∧ y.s = x.s) := fun y hy h => by
      have h1 := hp.1 y hy
      have h2 := Ent.key_ok hx; have h3 := Ent.key_ok (hr y hy)
      omega
    obtain ⟨h1, h2⟩ := ih hr hp.2
    rw [made_cons hx hn, spent_cons hx hn, ksum, ksum, h1, h2]
    simp only [kind_made hx, kind_spent x]
    exact ⟨trivial, trivial⟩
theorem kindTo_made {es : List Ent} (h : bookOk es = true) : madeIn es = kindTo es 0 := by
  rw [madeIn_yes h, kindTo_ksum, (ksum_made (book_all6 h) (book_sorted h)).1]
theorem kindTo_spent {es : List Ent} (h : bookOk es = true) : spentIn es = kindTo es 2 := by
  rw [spentIn_yes h, kindTo_ksum, (ksum_made (book_all6 h) (book_sorted h)).2]

end Go.Proofs.YtccaakgfhclebaaDoor

/-
  impl.tellChanges, impl.changesOf and the iterator that it hands back: what an entry changes, of whom.
-/
namespace Go.Proofs.YtccaakgfhclebaaDoor
open Go.RowKit Go.Shelf
attribute [local go_sem] Oper.semAt_some

/-- What an entry changes: of whom, by how much. -/
def changes (e : Ent) : List (Int × Int) :=
  if kindOf e.o e.s = 0 then [(e.o, e.a)] else if kindOf e.o e.s = 1 then [(e.o, -e.a), (e.s, e.a)] else [(e.o, -e.a)]
def allChanges (es : List Ent) : List (Int × Int) := es.flatMap changes
theorem allChanges_take {es : List Ent} {i : Nat} (h : i < es.length) : allChanges (es.take (i + 1)) = allChanges (es.take i) ++ changes (E es i) := by
  rw [List.take_succ_eq_append_getElem h, ← E_get h]
  simp [allChanges]
theorem allChanges_split (es : List Ent) (i : Nat) : allChanges (es.take i) ++ allChanges (es.drop i) = allChanges es := by
  unfold allChanges
  rw [← List.flatMap_append, List.take_append_drop]
theorem allChanges_pre (es : List Ent) {i : Nat} (h : i < es.length) : allChanges (es.take i) ++ changes (E es i) <+: allChanges es := by
  rw [← allChanges_take h]
  exact ⟨allChanges (es.drop (i + 1)), allChanges_split es (i + 1)⟩
def encs2 (p : Int × Int) : Array Value := #[.int .i64 p.1, .int .i64 p.2]

/-- Whatever is cells lies as it lay, but for block g. -/
structure KeepC (g : Nat) (W W' : World) : Prop where
  size : W.heap.size ≤ W'.heap.size
  same : ∀ (k : Nat) (o : Obj), k ≠ g → W.heap[k]? = some o → o.isCells = true → W'.heap[k]? = some o
theorem KeepC.refl (g : Nat) (W : World) : KeepC g W W := ⟨Nat.le_refl _, fun _ _ _ h _ => h⟩
theorem KeepC.trans {g : Nat} {A B C : World} (h : KeepC g A B) (k : KeepC g B C) : KeepC g A C :=
  ⟨Nat.le_trans h.size k.size, fun j o hj ho hc => k.same j o hj (h.same j o hj ho hc) hc⟩
theorem KeepC.below {g : Nat} {W W' : World} (h : Below W.heap.size W W') : KeepC g W W' :=
  ⟨h.size, fun k _ _ hk _ => (h.block k (Array.getElem?_eq_some_iff.1 hk).1).trans hk⟩
theorem KeepC.setCell {g : Nat} (W : World) (i : Nat) (u : Value) : KeepC g W (W.setCell ⟨g, i, none⟩ u) :=
  ⟨by simp, fun k o hk ho _ => (Below.heap_setCell W ⟨g, i, none⟩ u k hk).trans ho⟩
theorem KeepC.put {g : Nat} {W : World} {l : Nat} {o o' : Obj} (h : W.heap[l]? = some o) (hc : o.isCells = false) : KeepC g W (W.putObj l o') :=
  ⟨by simp [World.putObj], fun k p _ hk hp => by
    have hne : k ≠ l := fun e => by subst e; rw [h] at hk; cases hk; rw [hc] at hp; cases hp
    exact (World.putObj_heap_other hne).trans hk⟩
theorem KeepC.cell {g : Nat} {W W' : World} {p : Addr} {v : Value} (h : KeepC g W W') (hp : p.block ≠ g) (hc : W.cell? p = some v) : W'.cell? p = some v := by
  obtain ⟨o, ho, hk⟩ := cells_of_cell hc
  exact (World.cell?_of_block ((h.same _ o hp ho hk).trans ho.symm)).trans hc
theorem Ents.keepC {B g : Nat} {w w' : World} {ao : Option Addr} {n cap : Nat} {es : List Ent} (h : Ents B w ao n cap es) (hk : KeepC g w w') (hB : B ≤ g) : Ents B w' ao n cap es :=
  ⟨h.hlen, h.hcap, h.hmax, fun j hj => by
    obtain ⟨b, off, e, hlt, h4⟩ := h.cell j hj
    have hne : b ≠ g := by omega
    exact ⟨b, off, e, hlt, hk.cell (p := ⟨b, _, none⟩) hne h4.h0, hk.cell (p := ⟨b, _, none⟩) hne h4.h1, hk.cell (p := ⟨b, _, none⟩) hne h4.h2, hk.cell (p := ⟨b, _, none⟩) hne h4.h3⟩, h.wf⟩

theorem grown_below {w w' : World} (h : Below w.heap.size w w') : w.grownBy w' none := ⟨h.os, h.tape, h.output, h.size, fun k hk _ => h.block k hk⟩
theorem abides_below {β : Type} {B : Nat} {J : β → World → Prop} (hJ : AbidesFrom B J) {s : β} {w w' : World} (h : J s w) (hb : Below w.heap.size w w') : J s w' :=
  hJ s w w' none h (grown_below hb) (fun r e => by cases e)

/-- No depth is asked: a round at one depth is a round at any. -/
theorem room_any {F : Fence} (hd : F.depth = none) (k : Nat) : F.room k := fun d h => by rw [hd] at h; cases h
theorem yield_any {F : Fence} (hd : F.depth = none) {m : Nat} (m' : Nat) {P : Program} {l : Nat} {args : Array Value} {W : World} {R : Ending → World → Prop} (h : YieldAt F m P l args W R) : YieldAt F m' P l args W R := by
  obtain ⟨fn, tmps, assign, body, hy, hR⟩ := h
  exact ⟨fn, tmps, assign, body, hy, hR.1, fun c cs _ => hR.2 c cs (room_any hd _)⟩

/-- What a call of tell says: more is to be told and J holds, or it is not and Jx holds. -/
def Told (g : Nat) (J Jx : List (Int × Int) → World → Prop) (W : World) (xs : List (Int × Int)) (e : Ending) (W' : World) : Prop :=
  (e = .returned (.bool true) ∧ J xs W' ∧ KeepC g W W') ∨ (e = .returned (.bool false) ∧ Jx xs W')

set_option maxRecDepth 100000 in
set_option maxHeartbeats 2000000 in
theorem tellChanges_in (F : Fence) (hd : F.depth = none) (hro : F.round = none) (hfn : ∀ k, F.fn k)
    (hkind : ∀ n o s a d w, CallsIn F n Tryd.prog 69 #[.agg #[.int .i64 o, .int .i64 s, .int .i64 a, .int .i64 d]] w (Says (.int .i64 (kindOf o s)) w))
    (l g N B : Nat) (J Jx : List (Int × Int) → World → Prop) (hJ : AbidesFrom B J)
    (hY : ∀ m pre x W, J pre W → pre.length < N → YieldAt F m Tryd.prog l (encs2 x) W (Told g J Jx W (pre ++ [x])))
    (x : Ent) (ha : 1 ≤ x.a ∧ x.a ≤ 1000000) (n : Nat) (pre : List (Int × Int)) (W : World) (hg : g < W.heap.size) (h0 : J pre W) (hN : pre.length + (changes x).length ≤ N) :
    CallsIn F n Tryd.prog 67 #[.agg #[.int .i64 x.o, .int .i64 x.s, .int .i64 x.a, .int .i64 x.d], .func (.yield l) #[] #[]] W fun e W' =>
      (e = .returned (.bool true) ∧ J (pre ++ changes x) W' ∧ KeepC g W W') ∨ (e = .returned (.bool false) ∧ ∃ q, q <+: changes x ∧ Jx (pre ++ q) W') := by
  have hdd : ∀ k : Nat, (F.depth.isSome = true → 1 ≤ k) := fun k h => by rw [hd] at h; cases h
  obtain ⟨W1, hW1⟩ : ∃ W1, W1 = W.alloc (.cells #[.int .i64 x.o, .int .i64 x.s, .int .i64 x.a, .int .i64 x.d] 38) := ⟨_, rfl⟩
  have hb1 : Below W.heap.size W W1 := by rw [hW1]; exact (Below.refl _ _).alloc (Nat.le_refl _) _
  have hk1 : Blk W1 W.heap.size 38 #[.int .i64 x.o, .int .i64 x.s, .int .i64 x.a, .int .i64 x.d] := by rw [hW1]; exact Blk.new _ _ _
  have hkd := hkind (n - 1) x.o x.s x.a x.d W1
  have e0 := hk1.cell 0; have e1 := hk1.cell 1; have e2 := hk1.cell 2; have e3 := hk1.cell 3
  have a1 := ha.1; have a2 := ha.2
  obtain ⟨cs, hcs⟩ : ∃ cs, cs = changes x := ⟨_, rfl⟩
  rw [← hcs] at hN ⊢
  refine callsIn_of_wp Tryd.func67 rfl (hfn _) ?_ hro
  simp only [Tryd.ntmps67, List.size_toArray, List.length_cons, List.length_nil, Nat.reduceAdd, Nat.reduceSub, Array.replicate_succ, Array.replicate_zero, List.push_toArray, List.append_toArray, List.nil_append, List.cons_append]
  gi_wp2_with fail
  rw [← hW1]
  clear hW1
  gi_wp2_with fail
  gi_at_call 69
  refine hkd.mono ?_
  rintro e W2 ⟨rfl, hb2⟩
  have hk2 := hk1.below hb2 hk1.lt
  have hb := hb1.trans (hb2.mono hb1.size)
  have hJ2 := abides_below hJ h0 hb
  have f0 := hk2.cell 0; have f1 := hk2.cell 1; have f2 := hk2.cell 2; have f3 := hk2.cell 3
  have kb := KeepC.below (g := g) hb
  have hne : W.heap.size ≠ g := by omega
  clear hkd e0 e1 e2 e3 hb2 hb1 hk1 hkind
  have ew : IntKind.i64.wrap (-x.a) = -x.a := by rw [IntKind.wrap_i64]; omega
  unfold changes at hcs
  generalize hkk : kindOf x.o x.s = kk at hcs ⊢
  have hkk3 : kk = 0 ∨ kk = 1 ∨ kk = 2 := by
    rw [← hkk]
    unfold kindOf
    split
    · omega
    · split <;> omega
  clear hkk
  rcases hkk3 with rfl | rfl | rfl
  · have hcs' : cs = [(x.o, x.a)] := hcs
    obtain ⟨fn, tmps, assign, body, hy, hR⟩ := hY (n - 1) pre (x.o, x.a) W2 hJ2 (by rw [hcs'] at hN; simp at hN; omega)
    dsimp only [encs2] at hy
    clear hcs
    gi_wp2
    refine hR.mono ?_
    rintro e W3 (⟨rfl, h3, k3⟩ | ⟨rfl, h3⟩)
    · gi_wp2
      go_ret
      exact .inl ⟨rfl, by rw [hcs']; exact h3, kb.trans k3⟩
    · gi_wp2
      go_ret
      exact .inr ⟨rfl, _, List.prefix_refl _, by rw [hcs']; exact h3⟩
  · have hcs' : cs = [(x.o, -x.a), (x.s, x.a)] := hcs
    have hN' : pre.length + 2 ≤ N := by rw [hcs'] at hN; simpa using hN
    obtain ⟨fn, tmps, assign, body, hy, hR⟩ := hY (n - 1) pre (x.o, -x.a) W2 hJ2 (by omega)
    dsimp only [encs2] at hy
    clear hcs
    gi_wp2_with fail
    refine hR.mono ?_
    clear hR hy
    rintro e W3 (⟨rfl, h3, k3⟩ | ⟨rfl, h3⟩)
    · have g1 := k3.cell (p := ⟨W.heap.size, 1, none⟩) hne f1
      have g2 := k3.cell (p := ⟨W.heap.size, 2, none⟩) hne f2
      clear f0 f1 f2 f3 hk2
      obtain ⟨fn2, tmps2, assign2, body2, hy2, hR2⟩ := hY (n - 1) _ (x.s, x.a) W3 h3 (by rw [List.length_append]; simp; omega)
      dsimp only [encs2] at hy2
      gi_wp2_with fail
      refine hR2.mono ?_
      clear hR2 hy2
      rintro e W4 (⟨rfl, h4, k4⟩ | ⟨rfl, h4⟩)
      · gi_wp2
        go_ret
        exact .inl ⟨rfl, by rw [hcs']; simpa using h4, (kb.trans k3).trans k4⟩
      · gi_wp2
        go_ret
        exact .inr ⟨rfl, _, List.prefix_refl _, by rw [hcs']; simpa using h4⟩
    · gi_wp2
      go_ret
      exact .inr ⟨rfl, [(x.o, -x.a)], by rw [hcs']; exact ⟨[(x.s, x.a)], rfl⟩, h3⟩
  · have hcs' : cs = [(x.o, -x.a)] := hcs
    obtain ⟨fn, tmps, assign, body, hy, hR⟩ := hY (n - 1) pre (x.o, -x.a) W2 hJ2 (by rw [hcs'] at hN; simp at hN; omega)
    dsimp only [encs2] at hy
    clear hcs
    gi_wp2
    refine hR.mono ?_
    rintro e W3 (⟨rfl, h3, k3⟩ | ⟨rfl, h3⟩)
    · gi_wp2
      go_ret
      exact .inl ⟨rfl, by rw [hcs']; exact h3, kb.trans k3⟩
    · gi_wp2
      go_ret
      exact .inr ⟨rfl, _, List.prefix_refl _, by rw [hcs']; exact h3⟩

set_option maxRecDepth 100000 in
set_option maxHeartbeats 2000000 in
/-- The iterator over what a book's entries change. -/
theorem changes_stops (F : Fence) (hd : F.depth = none) (hro : F.round = none) (hfn : ∀ k, F.fn k)
    (hkind : ∀ n o s a d w, CallsIn F n Tryd.prog 69 #[.agg #[.int .i64 o, .int .i64 s, .int .i64 a, .int .i64 d]] w (Says (.int .i64 (kindOf o s)) w))
    (n0 g B Bn : Nat) (ao : Option Addr) (n cap : Nat) (es : List Ent) (w : World) (hx : Ents B w ao n cap es) (hB : B ≤ g) (hg : g < w.heap.size)
    (hbn : w.cell? ⟨Bn, 0, none⟩ = some (.slice ao n cap)) (hlt : Bn < w.heap.size) (hok : ∀ i, i < n → 1 ≤ (E es i).a ∧ (E es i).a ≤ 1000000) :
    SeqStopsK F n0 Tryd.prog 66 #[.pointer (some ⟨Bn, 0, none⟩)] encs2 (KeepC g) (fun xs => xs = allChanges es) (fun pre => pre <+: allChanges es) (allChanges es).length w := fun l J Jx W hW hJ _ hY0 h0 => by
  have hY : ∀ m pre x W, J pre W → pre.length < (allChanges es).length → YieldAt F m Tryd.prog l (encs2 x) W (Told g J Jx W (pre ++ [x])) := fun m pre x W h1 h2 => yield_any hd m (hY0 pre x W h1 h2)
  clear hY0
  have hdd : ∀ k : Nat, (F.depth.isSome = true → 1 ≤ k) := fun k h => by rw [hd] at h; cases h
  have hx0 := hx.hlen; have hx1 := hx.hcap; have hx2 := hx.hmax
  unfold maxLen at hx2
  have hbn1 := (hW.cell (p := ⟨Bn, 0, none⟩) hlt).trans hbn
  have hxW := hx.below hW (by omega) (Nat.le_refl B)
  have hsW := hW.size
  have HX := Lib.hid hx0; have HO := Lib.hid hok; clear hx0 hok
  refine callsIn_of_wp Tryd.func66 rfl (hfn _) ?_ hro
  simp only [Tryd.ntmps66, List.size_toArray, List.length_cons, List.length_nil, Nat.reduceAdd, Nat.reduceSub, Array.replicate_succ, Array.replicate_zero, List.push_toArray, List.append_toArray, List.nil_append, List.cons_append]
  gi_wp2
  gi_loopw [7] (fun si wr => ∃ i : Nat, i ≤ n ∧ si = .int .i64 i ∧ Ents B wr ao n cap es ∧ g < wr.heap.size ∧ J (allChanges (es.take i)) wr) (fun si _ => n - (intOf si).toNat)
  case atStart => exact ⟨0, Nat.zero_le _, rfl, hxW, by omega, by simpa [allChanges] using h0⟩
  case round =>
    obtain ⟨i, hi, rfl, hxr, hgr, hJr⟩ := hrel
    by_cases hin : i < n
    · obtain ⟨b, off, rfl, hbB, hc⟩ := hxr.at i hin
      obtain ⟨c0, c1, c2, c3⟩ := hc i hin
      have hrange := HO.out i hin
      have hpre := allChanges_pre es (i := i) (by have := HX.out; omega)
      have htake := allChanges_take (es := es) (i := i) (by have := HX.out; omega)
      clear hc
      generalize E es i = x at c0 c1 c2 c3 hrange hpre htake
      have i1 : (0 : Int) ≤ i := by omega
      have i2 : (i : Int) < n := by omega
      have i3 : (i : Int) ≤ cap := by omega
      obtain ⟨W1, hW1⟩ : ∃ W1, W1 = wr.alloc (.cells #[.int .i64 x.o, .int .i64 x.s, .int .i64 x.a, .int .i64 x.d] 38) := ⟨_, rfl⟩
      have hb1 : Below wr.heap.size wr W1 := by rw [hW1]; exact (Below.refl _ _).alloc (Nat.le_refl _) _
      have hk1 : Blk W1 wr.heap.size 38 #[.int .i64 x.o, .int .i64 x.s, .int .i64 x.a, .int .i64 x.d] := by rw [hW1]; exact Blk.new _ _ _
      have hJ1 := abides_below hJ hJr hb1
      have hs1 := hb1.size
      have kb := KeepC.below (g := g) hb1
      have hlen := hpre.length_le
      rw [List.length_append] at hlen
      have ht := tellChanges_in F hd hro hfn hkind l g (allChanges es).length W.heap.size J Jx hJ hY x hrange (n0 - 1) _ W1 (by omega) hJ1 hlen
      rw [← htake] at ht hpre
      have e0 := hk1.cell 0; have e1 := hk1.cell 1; have e2 := hk1.cell 2; have e3 := hk1.cell 3
      have HT := Lib.hid htake; have HP := Lib.hid hpre; clear htake hpre
      gi_wp2_with fail
      rw [← hW1]
      clear hW1
      gi_wp2_with fail
      gi_at_call 67
      refine ht.mono ?_
      clear ht
      rintro e W2 (⟨rfl, h2, k2⟩ | ⟨rfl, q, hq, h2⟩)
      · have hx2 := hxr.keepC (kb.trans k2) hB
        have hs2 := k2.size
        gi_wp2
        go_roundw
        case rel => exact ⟨i + 1, by omega, by go_num, hx2, by omega, h2⟩
        case measure => simp [intOf]; omega
      · gi_wp2
        refine bodyPost_ret (results_none rfl _ _ _) rfl ?_
        exact ⟨⟨_, rfl⟩, .inr ⟨_, ((List.prefix_append_right_inj _).2 hq).trans (HT.out ▸ HP.out), h2⟩⟩
    · have ei : i = n := by omega
      subst ei
      have hall : es.take i = es := List.take_of_length_le (by have := HX.out; omega)
      rw [hall] at hJr
      gi_wp2
      go_end0
      exact ⟨⟨_, rfl⟩, .inl ⟨_, rfl, hJr⟩⟩

end Go.Proofs.YtccaakgfhclebaaDoor

/-
  impl.HeldBy.
-/
namespace Go.Proofs.YtccaakgfhclebaaDoor
open Go.RowKit Go.Shelf
attribute [local go_sem] Oper.semAt_some

def netStep (node acc : Int) (p : Int × Int) : Int := if p.1 = node then IntKind.i64.wrap (acc + p.2) else acc
def net (node : Int) (xs : List (Int × Int)) : Int := xs.foldl (netStep node) 0
theorem net_snoc (node : Int) (xs : List (Int × Int)) (p : Int × Int) : net node (xs ++ [p]) = netStep node (net node xs) p := by simp [net, List.foldl_append]

theorem net_entry {e : Ent} {node acc : Int} {k : Nat} (hok : e.ok = true) (hn : 0 ≤ node ∧ node ≤ 3) (hs : Small acc k) (hk : k ≤ 20) :
    (changes e).foldl (netStep node) acc = heldStep node acc e := by
  have hh := Ent.ok_all hok
  unfold Small at hs
  have w1 : IntKind.i64.wrap (acc + e.a) = acc + e.a := by rw [IntKind.wrap_i64]; omega
  have w2 : IntKind.i64.wrap (acc + -e.a) = acc - e.a := by rw [IntKind.wrap_i64]; omega
  unfold changes kindOf heldStep
  by_cases h4 : e.s = 4
  · rw [if_pos h4]
    simp only [show ¬ ((2 : Int) = 0) by decide, show ¬ ((2 : Int) = 1) by decide, if_false, List.foldl_cons, List.foldl_nil, netStep, w2]
    rw [if_neg (show ¬ e.s = node by omega)]
  · rw [if_neg h4]
    by_cases ho : e.s = e.o
    · rw [if_pos ho, if_pos rfl]
      simp only [List.foldl_cons, List.foldl_nil, netStep, w1, ho]
      split <;> rfl
    · rw [if_neg ho, if_neg (show ¬ ((1 : Int) = 0) by decide), if_pos rfl]
      simp only [List.foldl_cons, List.foldl_nil, netStep]
      by_cases h1 : e.o = node
      · rw [if_pos h1, w2, if_neg (show ¬ e.s = node by omega), if_neg (show ¬ e.s = node by omega), if_pos h1]
      · rw [if_neg h1, w1]
        split
        · rfl
        · rfl

theorem net_held {es : List Ent} (h : bookOk es = true) {node : Int} (hn : 0 ≤ node ∧ node ≤ 3) : net node (allChanges es) = held es node := by
  have hr := book_right h
  have hl := book_len h
  have : ∀ k, k ≤ es.length → net node (allChanges (es.take k)) = held (es.take k) node ∧ Small (held (es.take k) node) k := by
    intro k
    induction k with
    | zero => intro _; exact ⟨rfl, by simp [Small, held]⟩
    | succ k ih =>
      intro hk
      obtain ⟨h1, h2⟩ := ih (by omega)
      have hok := (hr k (by omega)).1
      have hh := Ent.ok_all hok
      rw [held_take (by omega)]
      refine ⟨?_, small_step h2 ⟨hh.2.2.2.2.1, hh.2.2.2.2.2.1⟩⟩
      rw [← net_entry hok hn h2 (by omega), ← h1, allChanges_take (by omega)]
      simp [net, List.foldl_append]
  have hf := (this es.length (Nat.le_refl _)).1
  rwa [List.take_length] at hf

theorem Blk.turned {W W' : World} {row : Option Nat} {g : Nat} {t : TypeId} {cs : Array Value} (h : Blk W g t cs) (hg : W.grownBy W' row) (hr : ∀ r, row = some r → ∃ o : Obj, W.heap[r]? = some o ∧ o.isCells = false) : Blk W' g t cs :=
  (grownBy_keeps_cells hg hr (show W.heap[g]? = some (.cells cs t (0, 0)) from h) rfl).trans h
theorem Blk.putObj {W : World} {g l : Nat} {t : TypeId} {cs : Array Value} {o : Obj} (h : Blk W g t cs) (hl : W.heap[l]? = some o) (ho : o.isCells = false) (o' : Obj) : Blk (W.putObj l o') g t cs :=
  h.turned (grownBy_putObj' W l o') (fun r e => by cases e; exact ⟨o, hl, ho⟩)

set_option maxHeartbeats 400000 in
theorem changesOf_any (ao : Option Addr) (n cap : Nat) (w : World) :
    Calls Tryd.prog 57 #[.slice ao n cap] w fun e w' =>
      e = .returned (.func (.func 66) #[] #[.pointer (some ⟨w.heap.size, 0, none⟩)]) ∧ w' = w.alloc (.cells #[.slice ao n cap] 26) := by
  go_enter Tryd.func57, Tryd.ntmps57
  go_wp2
  go_ret
  exact ⟨rfl, rfl⟩

set_option maxRecDepth 100000 in
set_option maxHeartbeats 2000000 in
theorem heldBy_wide (B : Nat) (ao : Option Addr) (n cap : Nat) (es : List Ent) (node : Int) (w : World) (hx : Ents B w ao n cap es) (hB : B ≤ w.heap.size) (hok : bookOk es = true) (hn : inB node 0 3 = true) :
    CallsIn Fence.wide 9 Tryd.prog 40 #[.slice ao n cap, .int .i64 node] w (Says (.int .i64 (held es node)) w) := by
  have hbound : 0 ≤ node ∧ node ≤ 3 := by simpa [inB] using hn
  obtain ⟨res, hres⟩ : ∃ res, net node (allChanges es) = res := ⟨_, rfl⟩
  have hv : held es node = res := by rw [← hres, net_held hok hbound]
  rw [hv]
  have hr : ∀ i, i < n → 1 ≤ (E es i).a ∧ (E es i).a ≤ 1000000 := fun i hi => by
    have h1 := Ent.ok_all (book_right hok i (by have := hx.hlen; omega)).1
    exact ⟨h1.2.2.2.2.1, h1.2.2.2.2.2.1⟩
  obtain ⟨W1, hW1⟩ : ∃ W1, W1 = w.alloc (.cells #[.int .i64 node] 2) := ⟨_, rfl⟩
  have hb0 : Below w.heap.size w W1 := by rw [hW1]; exact (Below.refl _ _).alloc (Nat.le_refl _) _
  have k1 : Blk W1 w.heap.size 2 #[.int .i64 node] := by rw [hW1]; exact Blk.new _ _ _
  have h2 := callsIn_wide (n := 8).2 (isNode_any node W1)
  have h3 := callsIn_wide (n := 8).2 (implBookOk_any B ao n cap es _ (hx.below hb0 hB (Nat.le_refl B)) (by have := hb0.size; omega))
  rw [hn] at h2
  rw [hok] at h3
  have HV := Lib.hid hv; have HR := Lib.hid hr; have HRES := Lib.hid hres
  clear hv hr hn hok hres
  have e0 := k1.cell 0
  refine callsIn_of_wp_marks Tryd.func40 rfl trivial ?_ rfl
  simp only [Tryd.ntmps40, List.size_toArray, List.length_cons, List.length_nil, Nat.reduceAdd, Nat.reduceSub, Array.replicate_succ, Array.replicate_zero, List.push_toArray, List.append_toArray, List.nil_append, List.cons_append]
  gi_wp2_with fail
  rw [← hW1]
  clear hW1
  gi_wp2_with fail
  refine ⟨trivial, h2.mono ?_⟩
  rintro e w' ⟨rfl, rfl⟩
  gi_wp2_with fail
  refine ⟨trivial, h3.mono ?_⟩
  rintro e w2 ⟨rfl, hb2⟩
  have k2 := k1.below hb2 k1.lt
  have hbw := hb0.trans (hb2.mono hb0.size)
  have hs2 := hbw.size
  have hl2 := k2.lt
  obtain ⟨W3, hW3⟩ : ∃ W3, W3 = w2.alloc (.cells #[.int .i64 0] 2) := ⟨_, rfl⟩
  have hb3 : Below w2.heap.size w2 W3 := by rw [hW3]; exact (Below.refl _ _).alloc (Nat.le_refl _) _
  have k3 : Blk W3 w2.heap.size 2 #[.int .i64 0] := by rw [hW3]; exact Blk.new _ _ _
  have h4 := callsIn_wide (n := 8).2 (changesOf_any ao n cap W3)
  clear h2 h3 k1 e0 hb0
  gi_wp2_with fail
  rw [← hW3]
  clear hW3
  gi_wp2_with fail
  refine ⟨trivial, h4.mono ?_⟩
  rintro e w4 ⟨rfl, hw4⟩
  have hs3 := hb3.size
  have hl3 := k3.lt
  have hb4 : Below W3.heap.size W3 w4 := by rw [hw4]; exact (Below.refl _ _).alloc (Nat.le_refl _) _
  have kb : Blk w4 W3.heap.size 26 #[.slice ao n cap] := by rw [hw4]; exact Blk.new _ _ _
  have kh := k3.below hb4 hl3
  have kn := (k2.below hb3 hl2).below hb4 (by omega)
  have hs4 := hb4.size
  have hlb := kb.lt
  have hbw4 := (hbw.trans (hb3.mono hs2)).trans (hb4.mono (by omega))
  have hx4 := hx.below hbw4 hB (Nat.le_refl B)
  have eb := kb.cell 0
  clear hw4 h4 k2 k3 hb2 hb3
  gi_wp2_with fail
  refine wpIn_rangeFunc_ownF rfl (by decide) (gf := 66) (lb := #[.pointer (some ⟨W3.heap.size, 0, none⟩)]) rfl trivial (enters_of Tryd.func66 (by kernel_rfl) rfl)
    (changes_stops Fence.wide rfl rfl (fun _ => trivial) (fun _ o s a d w => callsIn_wide.2 (kindOf_any o s a d w)) (9 - 1) w2.heap.size B W3.heap.size ao n cap es w4 hx4 (by omega) (by omega) eb hlb HR.out)
    KeepC.trans (fun W l o o' _ h hc _ => KeepC.put h hc) (Below.refl _ _) (fun _ => rfl)
    (fun pre W => (Blk W w.heap.size 2 #[.int .i64 node] ∧ Blk W w2.heap.size 2 #[.int .i64 (net node pre)]) ∧ Below w.heap.size w W)
    (fun _ _ _ => False)
    (OwnFrom.and (fun s A B row hs hg hr => ⟨hs.1.turned hg (fun r e => (hr r e).2), hs.2.turned hg (fun r e => (hr r e).2)⟩) (ownFrom_below (Nat.le_refl _) (by omega)))
    (fun _ _ _ _ _ hs _ _ => hs)
    ⟨⟨kn, kh⟩, hbw4⟩
    (fun x => { tmps := #[.slice ao n cap, .int .i64 node, undef, .pointer (some ⟨w.heap.size, 0, none⟩), .int .i64 0, .pointer (some ⟨w2.heap.size, 0, none⟩), .int .i64 x.1, .int .i64 x.2, .int .i64 node, .bool true, .bool false, .bool false, .slice ao n cap, .bool true, .bool false, .bool false, .slice ao n cap,
      .func (.func 66) #[] #[.pointer (some ⟨W3.heap.size, 0, none⟩)], .int .i64 x.1, .int .i64 x.2, undef, undef, undef, undef, undef, undef, undef], defers := [] }) ?assign ?body ?done ?stop
  case assign =>
    rintro l ⟨who, ch⟩ W K hK
    dsimp only [encs2] at hK ⊢
    gi_wp2
    exact hK
  case body =>
    rintro l pre ⟨who, ch⟩ W ⟨⟨kn', kh'⟩, hbel⟩ _
    have c0 := kn'.cell 0; have c1 := kh'.cell 0; have c2 := kh'.frozen 0
    have hsz := hbel.size
    have hnet := net_snoc node pre (who, ch)
    unfold netStep at hnet
    dsimp only at hnet ⊢
    by_cases hw : who = node
    · have hw' : (who == node) = true := by simpa using hw
      rw [if_pos hw] at hnet
      have HN := Lib.hid hnet; clear hnet hw
      gi_wp2
      refine ⟨KeepsOthers.setCell _ _ _, KeepC.setCell _ _ _, ⟨kn'.far (p := ⟨w2.heap.size, 0, none⟩) (by show w.heap.size ≠ w2.heap.size; omega) _, ?_⟩, hbel.setCell (p := ⟨w2.heap.size, 0, none⟩) (by show w.heap.size ≤ w2.heap.size; omega) _⟩
      rw [HN.out]
      rw [IntWalk.i64_left]
      exact kh'.set_ 0 (.int .i64 (wrap64 (net node pre + ch)))
    · have hw' : (who == node) = false := by simpa using hw
      rw [if_neg hw] at hnet
      have HN := Lib.hid hnet; clear hnet hw
      gi_wp2
      exact ⟨KeepsOthers.refl _, KeepC.refl _ _, ⟨kn', by rw [HN.out]; exact kh'⟩, hbel⟩
  case done =>
    rintro D ys W hD rfl ⟨⟨_, kh'⟩, hbel⟩ hK
    rw [HRES.out] at kh'
    have c1 := kh'.cell 0
    gi_wp2
    refine ⟨by simp, .inl ⟨_, _, rfl, run_takeDeferred hK, ?_⟩⟩
    exact ⟨_, results_tmp rfl _ _ _, rfl, hbel.trans (belowK_b (w := w) (Nat.le_refl _) W D _ _ (by omega) hK rfl rfl)⟩
  case stop =>
    rintro D c pre W _ _ h _
    exact h.elim

set_option maxHeartbeats 1000000 in
theorem implHeldBy_any (B : Nat) (ao : Option Addr) (n cap : Nat) (es : List Ent) (node : Int) (w : World) (hx : Ents B w ao n cap es) (hB : B ≤ w.heap.size) :
    Calls Tryd.prog 40 #[.slice ao n cap, .int .i64 node] w (Says (.int .i64 (heldBy es node)) w) := by
  cases hn : inB node 0 3 with
  | false =>
    have h2 := isNode_any node (w.alloc (.cells #[.int .i64 node] 2))
    rw [hn] at h2
    rw [heldBy_no (.inr hn)]
    clear hn
    go_enter Tryd.func40, Tryd.ntmps40
    go_wp2_with fail
    refine h2.mono ?_
    rintro e w1 ⟨rfl, rfl⟩
    go_wp2_with fail
    go_ret
    exact ⟨rfl, (Below.refl _ _).alloc (Nat.le_refl _) _⟩
  | true =>
    cases hok : bookOk es with
    | true =>
      rw [heldBy_yes hok hn]
      exact callsIn_wide.1 (heldBy_wide B ao n cap es node w hx hB hok hn)
    | false =>
      have hb0 : Below w.heap.size w (w.alloc (.cells #[.int .i64 node] 2)) := (Below.refl _ _).alloc (Nat.le_refl _) _
      have h2 := isNode_any node (w.alloc (.cells #[.int .i64 node] 2))
      have h3 := implBookOk_any B ao n cap es _ (hx.below hb0 hB (Nat.le_refl B)) (by simp; omega)
      rw [hn] at h2
      rw [hok] at h3
      rw [heldBy_no (.inl hok)]
      clear hn hok
      go_enter Tryd.func40, Tryd.ntmps40
      go_wp2_with fail
      refine h2.mono ?_
      rintro e w1 ⟨rfl, rfl⟩
      go_wp2_with fail
      refine h3.mono ?_
      rintro e w2 ⟨rfl, hb2⟩
      go_wp2_with fail
      go_ret
      exact ⟨rfl, hb0.trans (hb2.mono (by simp))⟩

end Go.Proofs.YtccaakgfhclebaaDoor
