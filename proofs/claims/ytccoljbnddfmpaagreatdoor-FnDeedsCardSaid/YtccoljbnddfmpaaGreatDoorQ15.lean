/- Texts of this claim, put together. -/
import Derived.Test.YtccoljbnddfmpaaGreatDoorQ1
import Derived.Test.YtccoljbnddfmpaaGreatDoorQ2
import Derived.Test.YtccoljbnddfmpaaGreatDoorQ4
import Derived.Test.YtccoljbnddfmpaaGreatDoorQ7
import Derived.Test.YtccoljbnddfmpaaGreatDoorQ10
import Derived.Test.YtccoljbnddfmpaaGreatDoorQ11
import Derived.Test.YtccoljbnddfmpaaGreatDoorQ13
import Derived.Deep.WholeRow
import Derived.Laws.StructEq
import Derived.BigRegion

namespace Go.Proofs.YtccoljbnddfmpaaGreatDoor
open Go.RowKit
def cmpI (x y : Int) : Int := if x < y then -1 else if x > y then 1 else 0
theorem cmpI_neg {x y : Int} (h : cmpI x y < 0) : x < y := by
  unfold cmpI at h
  split at h
  · assumption
  · split at h <;> omega
theorem cmpI_nneg {x y : Int} (h : ¬ cmpI x y < 0) : y ≤ x := by
  unfold cmpI at h
  split at h
  · omega
  · omega
theorem cmpI_zero {x y : Int} : cmpI x y = 0 ↔ x = y := by
  unfold cmpI
  split
  · omega
  · split <;> omega
set_option maxHeartbeats 400000 in
theorem isNaN_any (x : Int) (w : World) :
    Calls Tryz.prog 121 #[.int .i64 x] w fun e w' => e = .returned (.bool false) ∧ w' = w := by
  go_enter Tryz.func121, Tryz.ntmps121
  go_wp2
  go_ret
  exact ⟨ret_bool (by simp), rfl⟩
set_option maxHeartbeats 400000 in
theorem compare_any (x y : Int) (w : World) :
    Calls Tryz.prog 112 #[.int .i64 x, .int .i64 y] w fun e w' => e = .returned (.int .i64 (cmpI x y)) ∧ w' = w := by
  go_enter Tryz.func112, Tryz.ntmps112
  go_wp2_with (go_at_call 121; refine (isNaN_any _ _).mono ?_; rintro e w' ⟨rfl, hw⟩; rw [hw])
  all_goals (go_ret; refine ⟨?_, rfl⟩; unfold cmpI; (repeat' split) <;> first | rfl | (exfalso; omega))
set_option maxHeartbeats 400000 in
theorem placeCmp_any (g : Nat) (sl : Value) (x : Ent) (key : Int) (w : World) (hk : Blk w g 93 #[sl, .func (.func 85) #[] #[]]) :
    Calls Tryz.prog 111 #[.agg #[.int .i64 x.o, .int .i64 x.s, .int .i64 x.a, .int .i64 x.d], .int .i64 key, .pointer (some ⟨g, 0, none⟩)] w (Says (.int .i64 (cmpI x.key key)) w) := by
  have hK := fun w => implKeyOf_any x.o x.s x.a x.d w
  have hkE : keyOf x.o x.s x.a x.d = x.key := rfl
  rw [hkE] at hK
  clear hkE
  have hC := fun w => compare_any x.key key w
  generalize x.key = kx at hK hC ⊢
  have hlt := hk.lt
  have f1 := (hk.alloc (.cells #[.int .i64 x.o, .int .i64 x.s, .int .i64 x.a, .int .i64 x.d] 47)).cell 1
  have hb0 : Below w.heap.size w (w.alloc (.cells #[.int .i64 x.o, .int .i64 x.s, .int .i64 x.a, .int .i64 x.d] 47)) := (Below.refl _ _).alloc (Nat.le_refl _) _
  clear hk
  go_enter Tryz.func111, Tryz.ntmps111
  go_wp2_with fail
  refine (hK _).mono ?_
  rintro e w1 ⟨rfl, hb1⟩
  have hb2 := hb0.trans (hb1.mono hb0.size)
  go_wp2_with fail
  refine (hC _).mono ?_
  rintro e w2 ⟨rfl, rfl⟩
  go_wp2_with fail
  go_ret
  exact ⟨rfl, hb2⟩
theorem rise_mono {es : List Ent} (h : Rise es es.length) : ∀ a b, a ≤ b → b < es.length → (E es a).key ≤ (E es b).key := by
  intro a b hab
  induction b with
  | zero => intro _; have : a = 0 := by omega
            subst this; exact Int.le_refl _
  | succ b ih =>
    intro hb
    by_cases e : a = b + 1
    · subst e; exact Int.le_refl _
    · have h1 := ih (by omega) (by omega)
      have h2 := h (b + 1) hb
      rw [lastKey_succ] at h2
      omega
def PlaceR (es : List Ent) (key : Int) (w : World) (e : Ending) (w' : World) : Prop :=
  ∃ p : Nat, e = .returned (.tuple #[.int .i64 p, .bool (decide (p < es.length ∧ (E es p).key = key))]) ∧ p ≤ es.length ∧ (∀ i, i < p → (E es i).key < key) ∧ (∀ i, p ≤ i → i < es.length → key ≤ (E es i).key) ∧ Below w.heap.size w w'
set_option maxHeartbeats 2000000 in
set_option maxRecDepth 100000 in
theorem searchE_any (B g : Nat) (sl : Value) (ao : Option Addr) (n cap : Nat) (es : List Ent) (key : Int) (w : World) (hx : Ents B w ao n cap es) (hB : B ≤ w.heap.size) (hn : n ≤ 1000000) (hR : Rise es es.length)
    (hk : Blk w g 93 #[sl, .func (.func 85) #[] #[]]) :
    Calls Tryz.prog 110 #[.slice ao n cap, .int .i64 key, .func (.func 111) #[] #[.pointer (some ⟨g, 0, none⟩)]] w (PlaceR es key w) := by
  have hx0 := hx.hlen; have hx1 := hx.hcap; have hx2 := hx.hmax
  unfold maxLen at hx2
  have HX := Lib.hid hx0; clear hx0
  have M := Lib.hid (rise_mono hR); clear hR
  have hkl := hk.lt
  go_enter Tryz.func110, Tryz.ntmps110
  go_wp2
  go_loopw [9, 10] (fun s9 s10 wr => ∃ lo hi : Nat, s9 = .int .i64 lo ∧ s10 = .int .i64 hi ∧ lo ≤ hi ∧ hi ≤ n ∧ Hid ((∀ i, i < lo → (E es i).key < key) ∧ (∀ i, hi ≤ i → i < n → key ≤ (E es i).key)) ∧ Below w.heap.size w wr) (fun s9 s10 _ => (intOf s10).toNat - (intOf s9).toNat)
  case atStart => exact ⟨0, n, rfl, rfl, Nat.zero_le _, Nat.le_refl _, Lib.hid ⟨fun t ht => absurd ht (Nat.not_lt_zero _), fun t h1 h2 => by omega⟩, Below.refl _ _⟩
  case round =>
    obtain ⟨lo, hi, rfl, rfl, hlh, hin, I, hbel⟩ := hrel
    have hkr := hk.below hbel hkl
    have hsz := hbel.size
    by_cases hlt : lo < hi
    · have hxr := hx.below hbel hB hB
      obtain ⟨b, off, rfl, hbB, hc⟩ := hxr.at ((lo + hi) / 2) (by omega)
      obtain ⟨c0, c1, c2, c3⟩ := hc ((lo + hi) / 2) (by omega)
      clear hc
      have hup : (E es ((lo + hi) / 2)).key < key → ∀ i, i < (lo + hi) / 2 + 1 → (E es i).key < key := fun h i hi' => by
        have := M.out i ((lo + hi) / 2) (by omega) (by have := HX.out; omega)
        omega
      have hdn : ¬ (E es ((lo + hi) / 2)).key < key → ∀ i, (lo + hi) / 2 ≤ i → i < n → key ≤ (E es i).key := fun h i hi' hin' => by
        have := M.out ((lo + hi) / 2) i hi' (by have := HX.out; omega)
        omega
      have hcmp := fun w' (h : Blk w' g 93 #[sl, .func (.func 85) #[] #[]]) => placeCmp_any g sl (E es ((lo + hi) / 2)) key w' h
      have hcmp1 := hcmp wr hkr
      have e1 : cmpI (E es ((lo + hi) / 2)).key key < 0 → (E es ((lo + hi) / 2)).key < key := cmpI_neg
      have e2 : ¬ cmpI (E es ((lo + hi) / 2)).key key < 0 → ¬ (E es ((lo + hi) / 2)).key < key := fun h => by have := cmpI_nneg h; omega
      clear hcmp
      generalize cmpI (E es ((lo + hi) / 2)).key key = r at hcmp1 e1 e2
      have HUP := Lib.hid (fun h => hup (e1 h)); have HDN := Lib.hid (fun h => hdn (e2 h)); clear hup hdn e1 e2
      generalize E es ((lo + hi) / 2) = x at c0 c1 c2 c3 hcmp1
      by_cases hr : r < 0
      · have hn2 := Lib.hid (HUP.out hr)
        clear HUP HDN
        go_wp2_with fail
        refine hcmp1.mono ?_
        rintro e w1 ⟨rfl, hb1⟩
        have hB1 := hbel.trans (hb1.mono hsz)
        go_wp2
        go_roundw
        case rel =>
          exact ⟨(lo + hi) / 2 + 1, hi, by rw [show ((lo : Int) + (hi : Int)) / 2 + 1 = (((lo + hi) / 2 + 1 : Nat) : Int) by omega], rfl, by omega, hin, Lib.hid ⟨hn2.out, I.out.2⟩, hB1⟩
        case measure => simp [intOf]; omega
      · have hn2 := Lib.hid (HDN.out hr)
        clear HUP HDN
        go_wp2_with fail
        refine hcmp1.mono ?_
        rintro e w1 ⟨rfl, hb1⟩
        have hB1 := hbel.trans (hb1.mono hsz)
        go_wp2
        go_roundw
        case rel =>
          exact ⟨lo, (lo + hi) / 2, rfl, by rw [show ((lo : Int) + (hi : Int)) / 2 = (((lo + hi) / 2 : Nat) : Int) by omega], by omega, by omega, Lib.hid ⟨I.out.1, hn2.out⟩, hB1⟩
        case measure => simp [intOf]; omega
    · obtain rfl : hi = lo := by omega
      have hI := I.out
      have HI := Lib.hid hI; clear hI I
      by_cases hlt2 : hi < n
      · have hxr := hx.below hbel hB hB
        obtain ⟨b, off, rfl, hbB, hc⟩ := hxr.at hi hlt2
        obtain ⟨c0, c1, c2, c3⟩ := hc hi hlt2
        clear hc
        have hcmp1 := placeCmp_any g sl (E es hi) key wr hkr
        have e1 : (cmpI (E es hi).key key == 0) = decide (hi < es.length ∧ (E es hi).key = key) := by
          have h1 : hi < es.length := by have := HX.out; omega
          rw [Bool.eq_iff_iff, beq_iff_eq, decide_eq_true_eq, cmpI_zero]
          simp [h1]
        have E1 := Lib.hid e1; clear e1
        generalize cmpI (E es hi).key key = r at hcmp1 E1
        generalize hxi : E es hi = x at c0 c1 c2 c3 hcmp1
        clear hxi
        go_wp2_with fail
        refine hcmp1.mono ?_
        rintro e w1 ⟨rfl, hb1⟩
        have hB1 := hbel.trans (hb1.mono hsz)
        go_wp2
        go_ret2
        exact ⟨hi, by rw [← E1.out]; rfl, by have := HX.out; omega, HI.out.1, fun i h1 h2 => HI.out.2 i h1 (by have := HX.out; omega), hB1⟩
      · go_wp2
        go_ret2
        exact ⟨hi, by rw [decide_eq_false (fun h => hlt2 (by have := HX.out; omega))]; rfl, by have := HX.out; omega, HI.out.1, fun i h1 h2 => HI.out.2 i h1 (by have := HX.out; omega), hbel⟩
set_option maxHeartbeats 1000000 in
theorem place_any (B : Nat) (ao : Option Addr) (n cap : Nat) (es : List Ent) (key : Int) (w : World) (hx : Ents B w ao n cap es) (hB : B ≤ w.heap.size) (hn : n ≤ 1000000) (hR : Rise es es.length) :
    Calls Tryz.prog 86 #[.agg #[.slice ao n cap, .func (.func 85) #[] #[]], .int .i64 key] w (PlaceR es key w) := by
  have hmf : ∀ (fn : Fn) (first cap : Array Value) (w : World), (Instr.makeFunc fn first cap).run Tryz.prog w = .ok (.func fn first cap) w := fun _ _ _ _ => rfl
  have hb0 : Below w.heap.size w (w.alloc (.cells #[.slice ao n cap, .func (.func 85) #[] #[]] 93)) := (Below.refl _ _).alloc (Nat.le_refl _) _
  have hk0 : Blk (w.alloc (.cells #[.slice ao n cap, .func (.func 85) #[] #[]] 93)) w.heap.size 93 #[.slice ao n cap, .func (.func 85) #[] #[]] := Blk.new _ _ _
  have hs := searchE_any B w.heap.size (.slice ao n cap) ao n cap es key _ (hx.below hb0 hB (Nat.le_refl _)) (by simp; omega) hn hR hk0
  go_enter Tryz.func86, Tryz.ntmps86
  go_wp2_with fail
  refine hs.mono ?_
  rintro e w1 ⟨p, rfl, hp, hlo, hhi, hb1⟩
  have hB1 := hb0.trans (hb1.mono (by simp))
  generalize hq : decide (p < es.length ∧ (E es p).key = key) = q
  go_wp2_with fail
  go_ret2
  exact ⟨p, by rw [hq]; rfl, hp, hlo, hhi, hB1⟩
def amountAt (es : List Ent) (o s : Int) : Int := if bookOk es = true ∧ 0 ≤ o ∧ o ≤ 3 ∧ 0 ≤ s ∧ s ≤ 4 then amount es o s else -1
theorem amountAt_no {es : List Ent} {o s : Int} (h : bookOk es = false ∨ inB o 0 3 = false ∨ inB s 0 4 = false) : amountAt es o s = -1 := by
  rw [amountAt, if_neg]
  rintro ⟨h1, h2, h3, h4, h5⟩
  simp [inB] at h
  rcases h with h | h | h
  · rw [h1] at h; cases h
  · omega
  · omega
theorem amountAt_yes {es : List Ent} {o s : Int} (h1 : bookOk es = true) (h2 : inB o 0 3 = true) (h3 : inB s 0 4 = true) : amountAt es o s = amount es o s := by
  simp [inB] at h2 h3
  rw [amountAt, if_pos ⟨h1, h2.1, h2.2, h3.1, h3.2⟩]
theorem keyOf_one {o s : Int} (ho : inB o 0 3 = true) (hs : inB s 0 4 = true) : keyOf o s 1 1 = 5 * o + s := by
  simp only [inB, decide_eq_true_eq] at ho hs
  rw [keyOf, if_pos]
  simp only [entryOk, decide_eq_true_eq]
  omega
theorem keyOf_one_no {o s : Int} (h : inB o 0 3 = false ∨ inB s 0 4 = false) : keyOf o s 1 1 = -1 := by
  refine keyOf_no ?_
  simp only [inB, decide_eq_false_iff_not] at h
  simp only [entryOk, decide_eq_false_iff_not]
  omega
theorem key_nneg {o s : Int} (h : ¬ keyOf o s 1 1 < 0) : inB o 0 3 = true ∧ inB s 0 4 = true := by
  cases h1 : inB o 0 3 with
  | false => rw [keyOf_one_no (.inl h1)] at h; omega
  | true =>
    cases h2 : inB s 0 4 with
    | false => rw [keyOf_one_no (.inr h2)] at h; omega
    | true => exact ⟨rfl, rfl⟩
theorem key_sameE {e : Ent} {o s : Int} (h : e.ok = true) (ho : inB o 0 3 = true) (hs : inB s 0 4 = true) : e.key = keyOf o s 1 1 ↔ (e.o = o ∧ e.s = s) := by
  rw [keyOf_one ho hs]
  have h1 := Ent.key_ok h
  simp only [inB, decide_eq_true_eq] at ho hs
  omega
theorem amount_none {es : List Ent} {o s : Int} (h : ∀ i, i < es.length → ¬ ((E es i).o = o ∧ (E es i).s = s)) : amount es o s = 0 := by
  have hstep : ∀ k, k ≤ es.length → amount (es.drop k) o s = amount es o s := by
    intro k
    induction k with
    | zero => intro _; rfl
    | succ k ih =>
      intro hk
      rw [← ih (by omega), amount_miss (by omega) (h k (by omega))]
  rw [← hstep es.length (Nat.le_refl _), List.drop_of_length_le (Nat.le_refl _)]
  rfl
theorem amount_there {es : List Ent} {o s : Int} {p : Nat} (hp : p < es.length) (h : ∀ i, i < p → ¬ ((E es i).o = o ∧ (E es i).s = s)) (hh : (E es p).o = o ∧ (E es p).s = s) : amount es o s = (E es p).a := by
  have hstep : ∀ k, k ≤ p → amount (es.drop k) o s = amount es o s := by
    intro k
    induction k with
    | zero => intro _; rfl
    | succ k ih =>
      intro hk
      rw [← ih (by omega), amount_miss (by omega) (h k (by omega))]
  rw [← hstep p (Nat.le_refl _), amount_hit hp hh.1 hh.2]
theorem amount_place {es : List Ent} {o s : Int} {p : Nat} (hb : bookOk es = true) (ho : inB o 0 3 = true) (hs : inB s 0 4 = true)
    (hlo : ∀ i, i < p → (E es i).key < keyOf o s 1 1) (hhi : ∀ i, p ≤ i → i < es.length → keyOf o s 1 1 ≤ (E es i).key) :
    (p < es.length ∧ (E es p).key = keyOf o s 1 1 → amount es o s = (E es p).a) ∧ (¬ (p < es.length ∧ (E es p).key = keyOf o s 1 1) → amount es o s = 0) := by
  have hR := book_right hb
  have hok : ∀ i, i < es.length → (E es i).ok = true := fun i hi => (hR i hi).1
  have hlow : ∀ i, i < p → i < es.length → ¬ ((E es i).o = o ∧ (E es i).s = s) := fun i hi hi2 h => by
    have h1 := (key_sameE (hok i hi2) ho hs).2 h
    have h2 := hlo i hi
    omega
  refine ⟨fun ⟨h1, h2⟩ => amount_there h1 (fun i hi => hlow i hi (by omega)) ((key_sameE (hok p h1) ho hs).1 h2), fun h => amount_none fun i hi => ?_⟩
  by_cases hip : i < p
  · exact hlow i hip hi
  · intro h3
    have h4 := (key_sameE (hok i hi) ho hs).2 h3
    by_cases e : i = p
    · subst e; exact h ⟨hi, h4⟩
    · have h5 := rise_mono (parts_right hR).1 p i (by omega) hi
      have h6 := hhi p (Nat.le_refl _) (by omega)
      exact h ⟨by omega, by omega⟩
set_option maxHeartbeats 1000000 in
set_option maxRecDepth 100000 in
theorem implAmountAt_any (B : Nat) (ao : Option Addr) (n cap : Nat) (es : List Ent) (o s : Int) (w : World) (hx : Ents B w ao n cap es) (hB : B ≤ w.heap.size) :
    Calls Tryz.prog 83 #[.slice ao n cap, .int .i64 o, .int .i64 s] w (Says (.int .i64 (amountAt es o s)) w) := by
  have hx0 := hx.hlen; have hx1 := hx.hcap; have hx2 := hx.hmax
  unfold maxLen at hx2
  have hno : bookOk es = false ∨ inB o 0 3 = false ∨ inB s 0 4 = false → amountAt es o s = -1 := amountAt_no
  have hyes : bookOk es = true → inB o 0 3 = true → inB s 0 4 = true → amountAt es o s = amount es o s := amountAt_yes
  have hplace := fun (hb : bookOk es = true) (p : Nat) (ho : inB o 0 3 = true) (hs : inB s 0 4 = true) => amount_place (p := p) hb ho hs
  have hK := fun w => implKeyOf_any o s 1 1 w
  have hkn := fun h => key_nneg (o := o) (s := s) h
  have hky : keyOf o s 1 1 < 0 → inB o 0 3 = false ∨ inB s 0 4 = false := fun h => by
    cases h1 : inB o 0 3 with
    | false => exact .inl rfl
    | true =>
      cases h2 : inB s 0 4 with
      | false => exact .inr rfl
      | true =>
        rw [keyOf_one h1 h2] at h
        simp only [inB, decide_eq_true_eq] at h1 h2
        omega
  have hrise : bookOk es = true → Rise es es.length ∧ n ≤ 20 := fun h => ⟨(parts_right (book_right h)).1, by have := book_len h; omega⟩
  generalize amountAt es o s = v at hno hyes
  generalize keyOf o s 1 1 = k at hK hkn hky hplace
  generalize amount es o s = am at hyes hplace
  have HN := Lib.hid hno; have HY := Lib.hid hyes; have HP := Lib.hid hplace; have HKN := Lib.hid hkn; have HKY := Lib.hid hky; have HR := Lib.hid hrise; have HX := Lib.hid hx0
  clear hno hyes hplace hkn hky hrise hx0
  go_enter Tryz.func83, Tryz.ntmps83
  go_wp2_with fail
  refine (hK _).mono ?_
  rintro e w1 ⟨rfl, hb1⟩
  have hs1 := hb1.size
  by_cases hk0 : k < 0
  · have hv := Lib.hid (HN.out (.inr (HKY.out hk0)))
    clear HN HY HP HKN HKY HR
    go_wp2_with fail
    go_ret
    exact ⟨ret_int hv.out.symm, hb1⟩
  · obtain ⟨ho, hs⟩ := HKN.out (by omega)
    have HO := Lib.hid ho; have HS := Lib.hid hs; clear ho hs
    have hx1' := hx.below hb1 hB (Nat.le_refl B)
    have hbk := implBookOk_any B ao n cap es w1 hx1' (by omega)
    generalize hbe : bookOk es = b at hbk HN HY HR HP
    have HB := Lib.hid hbe; clear hbe
    go_wp2_with fail
    refine hbk.mono ?_
    rintro e w2 ⟨rfl, hb2⟩
    have hB2 := hb1.trans (hb2.mono hs1)
    have hs2 := hB2.size
    rcases b with _ | _
    · have hv := Lib.hid (HN.out (.inl (by first | rfl | trivial)))
      clear HN HY HP HKN HKY HR
      go_wp2_with fail
      go_ret
      exact ⟨ret_int hv.out.symm, hB2⟩
    · have hR := (HR.out (by first | rfl | trivial)).1
      have hn20 := (HR.out (by first | rfl | trivial)).2
      have hv := Lib.hid (HY.out (by first | rfl | trivial) HO.out HS.out)
      go_wp2_with fail
      refine (entriesByKey_any _ _ _ _).mono ?_
      rintro e w3 ⟨rfl, hb3⟩
      have hB3 := hB2.trans (hb3.mono hs2)
      have hs3 := hB3.size
      go_wp2_with fail
      refine (place_any B ao n cap es k w3 (hx.below hB3 hB (Nat.le_refl B)) (by omega) (by omega) hR).mono ?_
      rintro e w4 ⟨p, rfl, hp, hlo, hhi, hb4⟩
      have hB4 := hB3.trans (hb4.mono hs3)
      have hAP := HP.out (by first | rfl | trivial) p HO.out HS.out hlo hhi
      have HAP := Lib.hid hAP; clear hAP hlo hhi HP HKN HKY HN HY HR
      by_cases hq : p < es.length ∧ (E es p).key = k
      · have ha := HAP.out.1 hq
        have hpn : p < n := by have := HX.out; omega
        have hq' : decide (p < es.length ∧ (E es p).key = k) = true := decide_eq_true hq
        rw [hq']
        have HA := Lib.hid ha; clear ha HAP hq hq'
        have hx4 := hx.below hB4 hB (Nat.le_refl B)
        obtain ⟨b, off, rfl, hbB, hc⟩ := hx4.at p hpn
        obtain ⟨c0, c1, c2, c3⟩ := hc p hpn
        clear hc
        generalize (E es p).a = a at c2 HA
        have i1 : (0 : Int) ≤ p := by omega
        have i2 : (p : Int) < n := by omega
        go_wp2_with fail
        go_ret
        exact ⟨ret_int (by rw [hv.out, HA.out]), hB4⟩
      · have ha := HAP.out.2 hq
        have hq' : decide (p < es.length ∧ (E es p).key = k) = false := decide_eq_false hq
        rw [hq']
        have HA := Lib.hid ha; clear ha HAP hq hq'
        go_wp2_with fail
        go_ret
        exact ⟨ret_int (by rw [hv.out, HA.out]), hB4⟩


set_option maxHeartbeats 1000000 in
set_option maxRecDepth 100000 in
theorem clone4_any (g : Nat) (xs : List Int) (w : World) (hi : Ints w.heap.size w (some ⟨g, 0, none⟩) 4 4 xs) :
    Calls Tryz.prog 120 #[.slice (some ⟨g, 0, none⟩) 4 4] w (NewInts xs w) := by
  have hown := own_empty w
  have hb : Below w.heap.size w (w.alloc (.cells #[] 2)) := (Below.refl _ _).alloc (Nat.le_refl _) _
  have hsz : (w.alloc (.cells #[] 2)).heap.size = w.heap.size + 1 := by simp
  have hx' := hi.below hb (Nat.le_refl _) (Nat.le_refl _)
  have HSZ := Lib.hid hsz; clear hsz
  clear hi
  have hN : ∀ w : World, (binOp .eql 104 (.slice (some ⟨g, 0, none⟩) 4 4) (.slice none 0 0)).run Tryz.prog w = .ok (.bool false) w := fun _ => by kernel_rfl
  go_enter Tryz.func120, Tryz.ntmps120
  go_wp2_with (at_builtin; refine append_all rfl _ _ rfl w.heap.size _ _ [] xs _ _ _ rfl rfl hx' (fun h => by cases h) hown (by rw [HSZ.out]; omega) (by decide) ?_; intro vA wA hownA hbA)
  go_ret
  exact ⟨_, rfl, hownA, hb.trans hbA⟩
set_option maxHeartbeats 1000000 in
set_option maxRecDepth 100000 in
theorem vecList_any (a b c d : Int) (w : World) (h64 : AllI64 [a, b, c, d]) :
    Calls Tryz.prog 108 #[.agg #[.int .i64 a, .int .i64 b, .int .i64 c, .int .i64 d]] w (NewInts [a, b, c, d] w) := by
  have hb : Below w.heap.size w (w.alloc (.cells #[.int .i64 a, .int .i64 b, .int .i64 c, .int .i64 d] 153)) := (Below.refl _ _).alloc (Nat.le_refl _) _
  have hk : Blk (w.alloc (.cells #[.int .i64 a, .int .i64 b, .int .i64 c, .int .i64 d] 153)) w.heap.size 153 #[.int .i64 a, .int .i64 b, .int .i64 c, .int .i64 d] := Blk.new _ _ _
  have hi : Ints (w.alloc (.cells #[.int .i64 a, .int .i64 b, .int .i64 c, .int .i64 d] 153)).heap.size (w.alloc (.cells #[.int .i64 a, .int .i64 b, .int .i64 c, .int .i64 d] 153)) (some ⟨w.heap.size, 0, none⟩) 4 4 [a, b, c, d] := by
    refine ⟨rfl, Nat.le_refl _, by unfold maxLen; omega, fun j hj => ⟨_, _, rfl, hk.lt, ?_⟩, h64⟩
    rw [Nat.zero_add, hk.cell]
    have h : j = 0 ∨ j = 1 ∨ j = 2 ∨ j = 3 := by omega
    rcases h with rfl | rfl | rfl | rfl <;> rfl
  clear hk
  generalize hW : w.alloc (.cells #[.int .i64 a, .int .i64 b, .int .i64 c, .int .i64 d] 153) = W at hb hi
  have hs := hb.size
  go_enter Tryz.func108, Tryz.ntmps108
  go_wp2_with fail
  refine (clone4_any _ _ _ hi).mono ?_
  rintro e w1 ⟨v, rfl, hown, hb1⟩
  go_wp2_with fail
  refine bodyPost_ret (v := v) (by simp [results, Tryz.results108]) rfl ?_
  exact ⟨_, rfl, hown.mono hs, hb.trans (hb1.mono hs)⟩
def vecC (es : List Ent) : Array Value := #[.int .i64 (mx es 0), .int .i64 (mx es 1), .int .i64 (mx es 2), .int .i64 (mx es 3)]
theorem vecC_at (es : List Ent) {j : Nat} (h : j < 4) : (vecC es)[j]? = some (.int .i64 (mx es j)) := by
  have h : j = 0 ∨ j = 1 ∨ j = 2 ∨ j = 3 := by omega
  rcases h with rfl | rfl | rfl | rfl <;> rfl
theorem vecC_snoc (es : List Ent) (e : Ent) {j : Nat} (hj : j < 4) (ho : e.o = j) : (vecC es).setIfInBounds j (.int .i64 (max (mx es j) e.d)) = vecC (es ++ [e]) := by
  have h : j = 0 ∨ j = 1 ∨ j = 2 ∨ j = 3 := by omega
  rcases h with rfl | rfl | rfl | rfl <;> simp [vecC, mx_snoc, mxF, ho]
set_option maxHeartbeats 2000000 in
set_option maxRecDepth 100000 in
theorem implVecOf_any (B : Nat) (ao : Option Addr) (n cap : Nat) (es : List Ent) (w : World) (hx : Ents B w ao n cap es) (hB : B ≤ w.heap.size) :
    Calls Tryz.prog 84 #[.slice ao n cap] w (NewInts (vecOf es) w) := by
  have hx0 := hx.hlen; have hx1 := hx.hcap; have hx2 := hx.hmax
  unfold maxLen at hx2
  have HX := Lib.hid hx0; clear hx0
  have h1 := implBookOk_any B ao n cap es w hx hB
  obtain ⟨res, hres⟩ : ∃ res, res = vecOf es := ⟨_, rfl⟩
  rw [← hres]
  have HRES := Lib.hid hres; clear hres
  generalize hbk : bookOk es = b at h1
  have HBK := Lib.hid hbk; clear hbk
  go_enter Tryz.func84, Tryz.ntmps84
  go_wp2_with fail
  refine h1.mono ?_
  rintro e w1 ⟨rfl, hb1⟩
  have hs1 := hb1.size
  clear h1
  rcases b with _ | _
  · go_wp2_with fail
    go_ret
    exact ⟨_, rfl, by rw [HRES.out, vecOf_no HBK.out]; exact own_nil _ _, hb1⟩
  · have hright := book_right HBK.out
    rw [HX.out] at hright
    have HR := Lib.hid hright; clear hright
    have hres : res = vec es := by rw [HRES.out, vecOf_yes HBK.out]
    have h64 : AllI64 res := by rw [HRES.out]; exact vecOf_i64 es
    have HRV := Lib.hid hres; have H64 := Lib.hid h64; clear hres h64
    have hk0 : Blk (w1.alloc (.cells #[.int .i64 0, .int .i64 0, .int .i64 0, .int .i64 0] 153)) w1.heap.size 153 (vecC (es.take 0)) := Blk.new _ _ _
    have hb2 := hb1.alloc hs1 (.cells #[.int .i64 0, .int .i64 0, .int .i64 0, .int .i64 0] 153)
    go_wp2_with fail
    generalize w1.alloc (.cells #[.int .i64 0, .int .i64 0, .int .i64 0, .int .i64 0] 153) = w2 at hk0 hb2 ⊢
    generalize w1.heap.size = g at hk0 hs1 ⊢
    go_loopw [5, 11] (fun _ si wr => ∃ i : Nat, i ≤ n ∧ si = .int .i64 i ∧ Blk wr g 153 (vecC (es.take i)) ∧ Below w.heap.size w wr) (fun _ si _ => n - (intOf si).toNat)
    case atStart => exact ⟨0, Nat.zero_le _, rfl, hk0, hb2⟩
    case round =>
      obtain ⟨i, hi, rfl, hblk, hbel⟩ := hrel
      have hszr := hbel.size
      have hglt := hblk.lt
      by_cases hlt : i < n
      · obtain ⟨b, off, rfl, hbB, hc⟩ := (hx.below hbel hB (Nat.le_refl _)).at i hlt
        obtain ⟨c0, c1, c2, c3⟩ := hc i hlt
        have hgood := Ent.ok_all (HR.out i hlt).1
        have hsn : ∀ j : Nat, j < 4 → (E es i).o = j → (vecC (es.take i)).setIfInBounds j (.int .i64 (max (mx (es.take i) j) (E es i).d)) = vecC (es.take (i + 1)) := fun j hj ho => by
          have hl := HX.out
          rw [List.take_succ_eq_append_getElem (by omega), ← E_get (by omega)]
          exact vecC_snoc _ _ hj ho
        clear hc
        obtain ⟨j, hj⟩ : ∃ j : Nat, (E es i).o = j := ⟨(E es i).o.toNat, by omega⟩
        rw [hj] at c0 hgood
        have hj4 : j < 4 := by omega
        have hsn2 := hsn j hj4 hj
        generalize (E es i).d = d at c3 hsn2
        generalize (E es i).s = s at c1
        generalize (E es i).a = a at c2
        clear hsn hgood hj
        have hbE := hbel.alloc hszr (.cells #[.int .i64 j, .int .i64 s, .int .i64 a, .int .i64 d] 47)
        have hkE : Blk (wr.alloc (.cells #[.int .i64 j, .int .i64 s, .int .i64 a, .int .i64 d] 47)) wr.heap.size 47 #[.int .i64 j, .int .i64 s, .int .i64 a, .int .i64 d] := Blk.new _ _ _
        have hkV := hblk.alloc (.cells #[.int .i64 j, .int .i64 s, .int .i64 a, .int .i64 d] 47)
        have i1 : (0 : Int) ≤ i := by omega
        have i2 : (i : Int) < n := by omega
        have j1 : (0 : Int) ≤ j := by omega
        have j2 : (j : Int) < 4 := by omega
        go_wp2_with fail
        generalize wr.alloc (.cells #[.int .i64 j, .int .i64 s, .int .i64 a, .int .i64 d] 47) = wE at hbE hkE hkV ⊢
        have hset := hkV.set_ j (.int .i64 (max (mx (es.take i) j) d))
        have q0 : wE.cell? ⟨g, j, none⟩ = some (.int .i64 (mx (es.take i) j)) := by rw [hkV.cell, vecC_at _ hj4]
        have f0 := hkV.frozen j
        have hbS := (hbE.setCell (p := ⟨g, j, none⟩) hs1 (.int .i64 (max (mx (es.take i) j) d))).drew
        have e0 := hkE.cell 0; have e3 := hkE.cell 3
        simp at e0 e3
        rw [hsn2] at hset
        generalize mx (es.take i) j = m at q0 hset hbS
        have e : max m d = if m < d then d else m := by split <;> omega
        rw [e] at hset hbS
        have HSET := Lib.hid hset; have HBS := Lib.hid hbS
        have hne : g ≠ wr.heap.size := by omega
        clear hset hbS hsn2 e hkE hkV hblk c0 c1 c2 c3
        go_region
        go_wp2
        go_roundw
        case rel => exact ⟨i + 1, by omega, by go_num, HSET.out, HBS.out⟩
        case measure => simp [intOf]; omega
      · have ei : i = n := by omega
        subst ei
        rw [List.take_of_length_le (by have := HX.out; omega)] at hblk
        have hres : res = [mx es 0, mx es 1, mx es 2, mx es 3] := HRV.out
        have h64 := H64.out
        rw [hres] at h64
        unfold vecC at hblk
        have hL := fun wA => vecList_any (mx es 0) (mx es 1) (mx es 2) (mx es 3) wA h64
        clear h64
        generalize mx es 0 = x0 at hblk hL hres
        generalize mx es 1 = x1 at hblk hL hres
        generalize mx es 2 = x2 at hblk hL hres
        generalize mx es 3 = x3 at hblk hL hres
        subst hres
        have p0 := hblk.cell 0; have p1 := hblk.cell 1; have p2 := hblk.cell 2; have p3 := hblk.cell 3
        simp at p0 p1 p2 p3
        clear hblk
        go_wp2_with fail
        refine (hL _).mono ?_
        rintro e w4 ⟨v, rfl, hown, hb4⟩
        go_wp2_with fail
        go_ret
        exact ⟨_, rfl, hown.mono hszr, hbel.trans (hb4.mono hszr)⟩
end Go.Proofs.YtccoljbnddfmpaaGreatDoor
