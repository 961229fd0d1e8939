/-
  spec.Sound.
-/
import Derived.Test.YtdinfpgnfofpbaaHeld
namespace Go.Proofs.Ytdinfpgnfofpbaa
open Go.RowKit

/-- The first k nodes hold nothing less than 0. -/
def HeldUp (es : List Ent) (k : Nat) : Prop := ∀ i : Nat, i < k → 0 ≤ held es i
instance (es : List Ent) (k : Nat) : Decidable (HeldUp es k) := by unfold HeldUp; infer_instance
def soundE (es : List Ent) : Bool := bookOk es && decide (HeldUp es 4)
theorem heldUp_succ {es : List Ent} {k : Nat} (h : HeldUp es k) (hk : 0 ≤ held es k) : HeldUp es (k + 1) := fun i hi => by
  by_cases e : i = k
  · subst e; exact hk
  · exact h i (by omega)
theorem sound_no {es : List Ent} (h : bookOk es = false) : soundE es = false := by simp [soundE, h]
theorem sound_yes {es : List Ent} (h : bookOk es = true) : soundE es = decide (HeldUp es 4) := by simp [soundE, h]

set_option maxHeartbeats 1000000 in
set_option maxRecDepth 100000 in
theorem specSound_any (B : Nat) (ao : Option Addr) (n cap : Nat) (es : List Ent) (w : World) (hx : Ents B w ao n cap es) (hB : B ≤ w.heap.size) :
    Calls Try.prog 5 #[.slice ao n cap] w (Says (.bool (soundE es)) w) := by
  have h1 := specBookOk_any B ao n cap es w hx hB
  have hh := fun (ok : bookOk es = true) (k : Nat) w' (hb : Below w.heap.size w w') => l6Held_any B ao n cap es k w' (hx.below hb hB (Nat.le_refl B)) (by have := hb.size; omega) ok
  have hno : bookOk es = false → soundE es = false := sound_no
  have hyes : bookOk es = true → soundE es = decide (HeldUp es 4) := sound_yes
  generalize soundE es = r at hno hyes
  generalize bookOk es = b1 at h1 hh hno hyes
  have HN := Lib.hid hno; have HY := Lib.hid hyes; have HH := Lib.hid hh; clear hno hyes hh
  go_enter Try.func5, Try.ntmps5
  go_wp2_with fail
  refine h1.mono ?_
  rintro e w1 ⟨rfl, hb1⟩
  rcases b1 with _ | _
  · have hr := HN.out (by first | rfl | trivial)
    subst hr
    go_wp2_with fail
    go_ret
    exact ⟨rfl, hb1⟩
  · have hr := HY.out (by first | rfl | trivial)
    have HR := Lib.hid hr; clear hr HN HY
    have HC : Hid (∀ (k : Nat) w', Below w.heap.size w w' → Calls Try.prog 10 #[.slice ao n cap, .int .i64 k] w' (Says (.int .i64 (held es k)) w')) := Lib.hid (fun k w' h => HH.out (by first | rfl | trivial) k w' h)
    clear HH
    go_wp2
    go_loopw [3] (fun sk wr => ∃ k : Nat, k ≤ 4 ∧ sk = .int .i64 k ∧ Hid (HeldUp es k) ∧ Below w.heap.size w wr) (fun sk _ => 4 - (intOf sk).toNat)
    case atStart => exact ⟨0, by omega, rfl, Lib.hid (fun i hi => absurd hi (by omega)), hb1⟩
    case round =>
      obtain ⟨k, hk, rfl, hup, hbel⟩ := hrel
      by_cases hlt : k < 4
      · have i1 : (k : Int) < 4 := by omega
        have hgo := fun h => heldUp_succ hup.out (k := k) h
        have hstop : ¬ 0 ≤ held es k → r = false := fun h => by rw [HR.out]; exact decide_eq_false (fun hu => h (hu k hlt))
        have HGO := Lib.hid hgo; have HST := Lib.hid hstop; clear hgo hstop
        have hc := HC.out k wr hbel
        generalize held es k = m at hc HGO HST
        go_wp2_with fail
        refine hc.mono ?_
        rintro e w2 ⟨rfl, hb2⟩
        have hB2 := hbel.trans (hb2.mono hbel.size)
        by_cases hm : m < 0
        · have hrf := HST.out (by omega)
          have HRF := Lib.hid hrf; clear hrf HGO HST hc
          go_wp2
          go_ret
          exact ⟨ret_bool HRF.out.symm, hB2⟩
        · have hn := Lib.hid (HGO.out (by omega))
          clear HGO HST hc
          go_wp2
          go_roundw
          case rel => exact ⟨k + 1, by omega, by go_num, hn, hB2⟩
          case measure => simp [intOf]; omega
      · have ek : k = 4 := by omega
        subst ek
        have hrt : r = true := by rw [HR.out]; exact decide_eq_true hup.out
        go_wp2
        go_ret
        exact ⟨ret_bool hrt.symm, hbel⟩

end Go.Proofs.Ytdinfpgnfofpbaa
