/-
  spec.MadeIn, spec.SpentIn.
-/
import Derived.Test.YtedmcambijcmnaaSpecL4Amount
namespace Go.Proofs.Ytedmcambijcmnaa
open Go.RowKit

def madeTo (es : List Ent) : Nat → Int
  | 0 => 0
  | k + 1 => madeTo es k + amount es k k
def spentTo (es : List Ent) : Nat → Int
  | 0 => 0
  | k + 1 => spentTo es k + amount es k 4
def madeIn (es : List Ent) : Int := if bookOk es = true then madeTo es 4 else -1
def spentIn (es : List Ent) : Int := if bookOk es = true then spentTo es 4 else -1
theorem madeIn_no {es : List Ent} (h : bookOk es = false) : madeIn es = -1 := by rw [madeIn, h]; rfl
theorem madeIn_yes {es : List Ent} (h : bookOk es = true) : madeIn es = madeTo es 4 := by rw [madeIn, if_pos h]
theorem spentIn_no {es : List Ent} (h : bookOk es = false) : spentIn es = -1 := by rw [spentIn, h]; rfl
theorem spentIn_yes {es : List Ent} (h : bookOk es = true) : spentIn es = spentTo es 4 := by rw [spentIn, if_pos h]
theorem book_all6 {es : List Ent} (h : bookOk es = true) : ∀ x ∈ es, x.ok = true := by
  intro x hx
  obtain ⟨i, hi, rfl⟩ := List.mem_iff_getElem.1 hx
  have := (book_right h i hi).1
  rwa [E_get hi] at this
theorem amount_range {es : List Ent} (h : ∀ x ∈ es, x.ok = true) (o s : Int) : 0 ≤ amount es o s ∧ amount es o s ≤ 1000000 := by
  induction es with
  | nil => simp [amount]
  | cons x r ih =>
    have hx := Ent.ok_all (h x (List.mem_cons_self ..))
    have := ih (fun y hy => h y (List.mem_cons_of_mem _ hy))
    rw [amount]
    split <;> omega

set_option maxHeartbeats 1000000 in
set_option maxRecDepth 100000 in
theorem specMadeIn_any (B : Nat) (ao : Option Addr) (n cap : Nat) (es : List Ent) (w : World) (hx : Ents B w ao n cap es) (hB : B ≤ w.heap.size) :
    Calls Try.prog 14 #[.slice ao n cap] w (Says (.int .i64 (madeIn es)) w) := by
  have h1 := specBookOk_any B ao n cap es w hx hB
  have hno : bookOk es = false → madeIn es = -1 := madeIn_no
  have hyes : bookOk es = true → madeIn es = madeTo es 4 := madeIn_yes
  have hr : bookOk es = true → ∀ o s, 0 ≤ amount es o s ∧ amount es o s ≤ 1000000 := fun h o s => amount_range (book_all6 h) o s
  generalize madeIn es = v at hno hyes
  generalize bookOk es = b1 at h1 hno hyes hr
  have HN := Lib.hid hno; have HY := Lib.hid hyes; have HR := Lib.hid hr; clear hno hyes hr
  go_enter Try.func14, Try.ntmps14
  go_wp2_with fail
  refine h1.mono ?_
  rintro e w1 ⟨rfl, hb1⟩
  have hs1 := hb1.size
  have hx1 := hx.below hb1 hB (Nat.le_refl _)
  rcases b1 with _ | _
  · have hv := Lib.hid (HN.out (by first | rfl | trivial))
    clear HN HY HR
    go_wp2_with fail
    go_ret
    exact ⟨ret_int hv.out.symm, hb1⟩
  · have hv := Lib.hid (HY.out (by first | rfl | trivial))
    have HRR := Lib.hid (HR.out (by first | rfl | trivial))
    clear HN HY HR
    go_wp2
    go_loopw [3, 4] (fun sn si wr => ∃ (i : Nat) (m : Int), i ≤ 4 ∧ si = .int .i64 i ∧ sn = .int .i64 m ∧ Hid (madeTo es i = m) ∧ 0 ≤ m ∧ m ≤ 1000000 * (i : Int) ∧ Below w.heap.size w wr ∧ Drew w1 wr) (fun _ si _ => 4 - (intOf si).toNat)
    case atStart => exact ⟨0, 0, Nat.zero_le _, rfl, rfl, Lib.hid rfl, by omega, by omega, hb1, Drew.refl _⟩
    case round =>
      obtain ⟨i, m, hi, rfl, rfl, hm, hm0, hm1, hbel, nq, rfl⟩ := hrel
      by_cases hlt : i < 4
      · have hA := l4Amount_any B ao n cap es i i (w1.drewN nq) (hx.below hbel hB (Nat.le_refl _))
        have hra := HRR.out (i : Int) i
        have hstep : madeTo es (i + 1) = m + amount es i i := by rw [← hm.out]; rfl
        generalize amount es i i = a at hA hra hstep
        have HS := Lib.hid hstep; clear hstep
        obtain ⟨ha0, ha1⟩ := hra
        have i2 : (i : Int) < 4 := by omega
        go_wp2_with fail
        refine hA.mono ?_
        rintro e w2 ⟨rfl, hd2⟩
        have hbN := hbel.trans (hd2.below _)
        have hDN : Drew w1 w2 := by
          obtain ⟨q, rfl⟩ := hd2
          exact Drew.two _ _ _
        go_wp2
        go_roundw
        case rel => exact ⟨i + 1, m + a, by omega, by go_num, by go_num, HS, by omega, by omega, hbN, hDN⟩
        case measure => simp [intOf]; omega
      · have ei : i = 4 := by omega
        subst ei
        have hvv := Lib.hid (hv.out.trans hm.out)
        go_wp2
        go_ret
        exact ⟨ret_int hvv.out.symm, hbel⟩

set_option maxHeartbeats 1000000 in
set_option maxRecDepth 100000 in
theorem specSpentIn_any (B : Nat) (ao : Option Addr) (n cap : Nat) (es : List Ent) (w : World) (hx : Ents B w ao n cap es) (hB : B ≤ w.heap.size) :
    Calls Try.prog 16 #[.slice ao n cap] w (Says (.int .i64 (spentIn es)) w) := by
  have h1 := specBookOk_any B ao n cap es w hx hB
  have hno : bookOk es = false → spentIn es = -1 := spentIn_no
  have hyes : bookOk es = true → spentIn es = spentTo es 4 := spentIn_yes
  have hr : bookOk es = true → ∀ o s, 0 ≤ amount es o s ∧ amount es o s ≤ 1000000 := fun h o s => amount_range (book_all6 h) o s
  generalize spentIn es = v at hno hyes
  generalize bookOk es = b1 at h1 hno hyes hr
  have HN := Lib.hid hno; have HY := Lib.hid hyes; have HR := Lib.hid hr; clear hno hyes hr
  go_enter Try.func16, Try.ntmps16
  go_wp2_with fail
  refine h1.mono ?_
  rintro e w1 ⟨rfl, hb1⟩
  have hs1 := hb1.size
  have hx1 := hx.below hb1 hB (Nat.le_refl _)
  rcases b1 with _ | _
  · have hv := Lib.hid (HN.out (by first | rfl | trivial))
    clear HN HY HR
    go_wp2_with fail
    go_ret
    exact ⟨ret_int hv.out.symm, hb1⟩
  · have hv := Lib.hid (HY.out (by first | rfl | trivial))
    have HRR := Lib.hid (HR.out (by first | rfl | trivial))
    clear HN HY HR
    go_wp2
    go_loopw [3, 4] (fun sn si wr => ∃ (i : Nat) (m : Int), i ≤ 4 ∧ si = .int .i64 i ∧ sn = .int .i64 m ∧ Hid (spentTo es i = m) ∧ 0 ≤ m ∧ m ≤ 1000000 * (i : Int) ∧ Below w.heap.size w wr ∧ Drew w1 wr) (fun _ si _ => 4 - (intOf si).toNat)
    case atStart => exact ⟨0, 0, Nat.zero_le _, rfl, rfl, Lib.hid rfl, by omega, by omega, hb1, Drew.refl _⟩
    case round =>
      obtain ⟨i, m, hi, rfl, rfl, hm, hm0, hm1, hbel, nq, rfl⟩ := hrel
      by_cases hlt : i < 4
      · have hA := l4Amount_any B ao n cap es i 4 (w1.drewN nq) (hx.below hbel hB (Nat.le_refl _))
        have hra := HRR.out (i : Int) 4
        have hstep : spentTo es (i + 1) = m + amount es i 4 := by rw [← hm.out]; rfl
        generalize amount es i 4 = a at hA hra hstep
        have HS := Lib.hid hstep; clear hstep
        obtain ⟨ha0, ha1⟩ := hra
        have i2 : (i : Int) < 4 := by omega
        go_wp2_with fail
        refine hA.mono ?_
        rintro e w2 ⟨rfl, hd2⟩
        have hbN := hbel.trans (hd2.below _)
        have hDN : Drew w1 w2 := by
          obtain ⟨q, rfl⟩ := hd2
          exact Drew.two _ _ _
        go_wp2
        go_roundw
        case rel => exact ⟨i + 1, m + a, by omega, by go_num, by go_num, HS, by omega, by omega, hbN, hDN⟩
        case measure => simp [intOf]; omega
      · have ei : i = 4 := by omega
        subst ei
        have hvv := Lib.hid (hv.out.trans hm.out)
        go_wp2
        go_ret
        exact ⟨ret_int hvv.out.symm, hbel⟩

end Go.Proofs.Ytedmcambijcmnaa
