/-
  impl.AmountAt.
-/
import Derived.Test.YtekkjfhmabefoaaImplBookOk
import Derived.Test.YtekkjfhmabefoaaPlace
import Derived.Test.YtekkjfhmabefoaaSpecAmount
namespace Go.Proofs.Ytekkjfhmabefoaa
open Go.RowKit

theorem keyOf_one {o s : Int} (ho : inB o 0 3 = true) (hs : inB s 0 4 = true) : keyOf o s 1 1 = 5 * o + s := by
  simp only [inB, decide_eq_true_eq] at ho hs
  rw [keyOf, if_pos]
  simp only [entryOk, decide_eq_true_eq]
  omega
theorem keyOf_one_no {o s : Int} (h : inB o 0 3 = false ∨ inB s 0 4 = false) : keyOf o s 1 1 = -1 := by
  refine keyOf_no ?_
  simp only [inB, decide_eq_false_iff_not] at h
  simp only [entryOk, decide_eq_false_iff_not]
  omega
theorem key_nneg {o s : Int} (h : ¬ keyOf o s 1 1 < 0) : inB o 0 3 = true ∧ inB s 0 4 = true := by
  cases h1 : inB o 0 3 with
  | false => rw [keyOf_one_no (.inl h1)] at h; omega
  | true =>
    cases h2 : inB s 0 4 with
    | false => rw [keyOf_one_no (.inr h2)] at h; omega
    | true => exact ⟨rfl, rfl⟩

theorem key_sameE {e : Ent} {o s : Int} (h : e.ok = true) (ho : inB o 0 3 = true) (hs : inB s 0 4 = true) : e.key = keyOf o s 1 1 ↔ (e.o = o ∧ e.s = s) := by
  rw [keyOf_one ho hs]
  have h1 := Ent.key_ok h
  simp only [inB, decide_eq_true_eq] at ho hs
  omega

/-- No entry of that key among those from k on: 0. -/
theorem amount_none {es : List Ent} {o s : Int} (h : ∀ i, i < es.length → ¬ ((E es i).o = o ∧ (E es i).s = s)) : amount es o s = 0 := by
  have hstep : ∀ k, k ≤ es.length → amount (es.drop k) o s = amount es o s := by
    intro k
    induction k with
    | zero => intro _; rfl
    | succ k ih =>
      intro hk
      rw [← ih (by omega), amount_miss (by omega) (h k (by omega))]
  rw [← hstep es.length (Nat.le_refl _), List.drop_of_length_le (Nat.le_refl _)]
  rfl
theorem amount_there {es : List Ent} {o s : Int} {p : Nat} (hp : p < es.length) (h : ∀ i, i < p → ¬ ((E es i).o = o ∧ (E es i).s = s)) (hh : (E es p).o = o ∧ (E es p).s = s) : amount es o s = (E es p).a := by
  have hstep : ∀ k, k ≤ p → amount (es.drop k) o s = amount es o s := by
    intro k
    induction k with
    | zero => intro _; rfl
    | succ k ih =>
      intro hk
      rw [← ih (by omega), amount_miss (by omega) (h k (by omega))]
  rw [← hstep p (Nat.le_refl _), amount_hit hp hh.1 hh.2]

theorem amount_place {es : List Ent} {o s : Int} {p : Nat} (hb : bookOk es = true) (ho : inB o 0 3 = true) (hs : inB s 0 4 = true)
    (hlo : ∀ i, i < p → (E es i).key < keyOf o s 1 1) (hhi : ∀ i, p ≤ i → i < es.length → keyOf o s 1 1 ≤ (E es i).key) :
    (p < es.length ∧ (E es p).key = keyOf o s 1 1 → amount es o s = (E es p).a) ∧ (¬ (p < es.length ∧ (E es p).key = keyOf o s 1 1) → amount es o s = 0) := by
  have hR := book_right hb
  have hok : ∀ i, i < es.length → (E es i).ok = true := fun i hi => (hR i hi).1
  have hlow : ∀ i, i < p → i < es.length → ¬ ((E es i).o = o ∧ (E es i).s = s) := fun i hi hi2 h => by
    have h1 := (key_sameE (hok i hi2) ho hs).2 h
    have h2 := hlo i hi
    omega
  refine ⟨fun ⟨h1, h2⟩ => amount_there h1 (fun i hi => hlow i hi (by omega)) ((key_sameE (hok p h1) ho hs).1 h2), fun h => amount_none fun i hi => ?_⟩
  by_cases hip : i < p
  · exact hlow i hip hi
  · intro h3
    have h4 := (key_sameE (hok i hi) ho hs).2 h3
    by_cases e : i = p
    · subst e; exact h ⟨hi, h4⟩
    · have h5 := rise_mono (parts_right hR).1 p i (by omega) hi
      have h6 := hhi p (Nat.le_refl _) (by omega)
      exact h ⟨by omega, by omega⟩

set_option maxHeartbeats 1000000 in
set_option maxRecDepth 100000 in
theorem implAmountAt_any (B : Nat) (ao : Option Addr) (n cap : Nat) (es : List Ent) (o s : Int) (w : World) (hx : Ents B w ao n cap es) (hB : B ≤ w.heap.size) :
    Calls Try.prog 14 #[.slice ao n cap, .int .i64 o, .int .i64 s] w (Says (.int .i64 (amountAt es o s)) w) := by
  have hx0 := hx.hlen; have hx1 := hx.hcap; have hx2 := hx.hmax
  unfold maxLen at hx2
  have hno : bookOk es = false ∨ inB o 0 3 = false ∨ inB s 0 4 = false → amountAt es o s = -1 := amountAt_no
  have hyes : bookOk es = true → inB o 0 3 = true → inB s 0 4 = true → amountAt es o s = amount es o s := amountAt_yes
  have hplace := fun (hb : bookOk es = true) (p : Nat) (ho : inB o 0 3 = true) (hs : inB s 0 4 = true) => amount_place (p := p) hb ho hs
  have hK := fun w => implKeyOf_any o s 1 1 w
  have hkn := fun h => key_nneg (o := o) (s := s) h
  have hky : keyOf o s 1 1 < 0 → inB o 0 3 = false ∨ inB s 0 4 = false := fun h => by
    cases h1 : inB o 0 3 with
    | false => exact .inl rfl
    | true =>
      cases h2 : inB s 0 4 with
      | false => exact .inr rfl
      | true =>
        rw [keyOf_one h1 h2] at h
        simp only [inB, decide_eq_true_eq] at h1 h2
        omega
  have hrise : bookOk es = true → Rise es es.length ∧ n ≤ 20 := fun h => ⟨(parts_right (book_right h)).1, by have := book_len h; omega⟩
  generalize amountAt es o s = v at hno hyes
  generalize keyOf o s 1 1 = k at hK hkn hky hplace
  generalize amount es o s = am at hyes hplace
  have HN := Lib.hid hno; have HY := Lib.hid hyes; have HP := Lib.hid hplace; have HKN := Lib.hid hkn; have HKY := Lib.hid hky; have HR := Lib.hid hrise; have HX := Lib.hid hx0
  clear hno hyes hplace hkn hky hrise hx0
  go_enter Try.func14, Try.ntmps14
  go_wp2_with fail
  refine (hK _).mono ?_
  rintro e w1 ⟨rfl, hb1⟩
  have hs1 := hb1.size
  by_cases hk0 : k < 0
  · have hv := Lib.hid (HN.out (.inr (HKY.out hk0)))
    clear HN HY HP HKN HKY HR
    go_wp2_with fail
    go_ret
    exact ⟨ret_int hv.out.symm, hb1⟩
  · obtain ⟨ho, hs⟩ := HKN.out (by omega)
    have HO := Lib.hid ho; have HS := Lib.hid hs; clear ho hs
    have hx1' := hx.below hb1 hB (Nat.le_refl B)
    have hbk := implBookOk_any B ao n cap es w1 hx1' (by omega)
    generalize hbe : bookOk es = b at hbk HN HY HR HP
    have HB := Lib.hid hbe; clear hbe
    go_wp2_with fail
    refine hbk.mono ?_
    rintro e w2 ⟨rfl, hb2⟩
    have hB2 := hb1.trans (hb2.mono hs1)
    have hs2 := hB2.size
    rcases b with _ | _
    · have hv := Lib.hid (HN.out (.inl (by first | rfl | trivial)))
      clear HN HY HP HKN HKY HR
      go_wp2_with fail
      go_ret
      exact ⟨ret_int hv.out.symm, hB2⟩
    · have hR := (HR.out (by first | rfl | trivial)).1
      have hn20 := (HR.out (by first | rfl | trivial)).2
      have hv := Lib.hid (HY.out (by first | rfl | trivial) HO.out HS.out)
      go_wp2_with fail
      refine (entriesByKey_any _ _ _ _).mono ?_
      rintro e w3 ⟨rfl, hb3⟩
      have hB3 := hB2.trans (hb3.mono hs2)
      have hs3 := hB3.size
      go_wp2_with fail
      refine (place_any B ao n cap es k w3 (hx.below hB3 hB (Nat.le_refl B)) (by omega) (by omega) hR).mono ?_
      rintro e w4 ⟨p, rfl, hp, hlo, hhi, hb4⟩
      have hB4 := hB3.trans (hb4.mono hs3)
      have hAP := HP.out (by first | rfl | trivial) p HO.out HS.out hlo hhi
      have HAP := Lib.hid hAP; clear hAP hlo hhi HP HKN HKY HN HY HR
      by_cases hq : p < es.length ∧ (E es p).key = k
      · have ha := HAP.out.1 hq
        have hpn : p < n := by have := HX.out; omega
        have hq' : decide (p < es.length ∧ (E es p).key = k) = true := decide_eq_true hq
        rw [hq']
        have HA := Lib.hid ha; clear ha HAP hq hq'
        have hx4 := hx.below hB4 hB (Nat.le_refl B)
        obtain ⟨b, off, rfl, hbB, hc⟩ := hx4.at p hpn
        obtain ⟨c0, c1, c2, c3⟩ := hc p hpn
        clear hc
        generalize (E es p).a = a at c2 HA
        have i1 : (0 : Int) ≤ p := by omega
        have i2 : (p : Int) < n := by omega
        go_wp2_with fail
        go_ret
        exact ⟨ret_int (by rw [hv.out, HA.out]), hB4⟩
      · have ha := HAP.out.2 hq
        have hq' : decide (p < es.length ∧ (E es p).key = k) = false := decide_eq_false hq
        rw [hq']
        have HA := Lib.hid ha; clear ha HAP hq hq'
        go_wp2_with fail
        go_ret
        exact ⟨ret_int (by rw [hv.out, HA.out]), hB4⟩

end Go.Proofs.Ytekkjfhmabefoaa
