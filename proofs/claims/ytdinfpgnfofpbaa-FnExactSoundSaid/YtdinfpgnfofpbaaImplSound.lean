/-
  impl.Sound: an inquiry's two methods, as method values; the walk over them.
-/
import Derived.Test.YtdinfpgnfofpbaaSound
import Derived.Test.YtdinfpgnfofpbaaImplRight
namespace Go.Proofs.Ytdinfpgnfofpbaa
open Go.RowKit

set_option maxHeartbeats 1000000 in
theorem right_any (B : Nat) (ao : Option Addr) (n cap : Nat) (es : List Ent) (w : World) (hx : Ents B w ao n cap es) (hB : B ≤ w.heap.size) :
    Calls Try.prog 16 #[.agg #[.slice ao n cap]] w (Says (.bool (bookOk es)) w) := by
  obtain ⟨W1, hW1⟩ : ∃ W1, W1 = w.alloc (.cells #[.slice ao n cap] 36) := ⟨_, rfl⟩
  have hb0 : Below w.heap.size w W1 := by rw [hW1]; exact (Below.refl _ _).alloc (Nat.le_refl _) _
  have k1 : Blk W1 w.heap.size 36 #[.slice ao n cap] := by rw [hW1]; exact Blk.new _ _ _
  have h1 := implBookOk_any B ao n cap es W1 (hx.below hb0 hB (Nat.le_refl B)) (by have := hb0.size; omega)
  have e0 := k1.cell 0
  generalize bookOk es = r at h1
  go_enter Try.func16, Try.ntmps16
  go_upto_region 1 with fail
  rw [← hW1]
  clear hW1
  go_wp2_with fail
  refine h1.mono ?_
  rintro e w1 ⟨rfl, hb1⟩
  cases r
  all_goals
    go_wp2_with fail
    go_ret
    exact ⟨rfl, hb0.trans (hb1.mono hb0.size)⟩

set_option maxHeartbeats 1000000 in
set_option maxRecDepth 100000 in
theorem nobody_any (B : Nat) (ao : Option Addr) (n cap : Nat) (es : List Ent) (w : World) (hx : Ents B w ao n cap es) (hB : B ≤ w.heap.size) (ok : bookOk es = true) :
    Calls Try.prog 17 #[.agg #[.slice ao n cap]] w (Says (.bool (decide (HeldUp es 4))) w) := by
  obtain ⟨r, hr⟩ : ∃ r, decide (HeldUp es 4) = r := ⟨_, rfl⟩
  rw [hr]
  have HR := Lib.hid hr; clear hr
  have hh : ∀ (k : Nat), k < 4 → ∀ w', Below w.heap.size w w' → Calls Try.prog 22 #[.slice ao n cap, .int .i64 k] w' (Says (.int .i64 (held es k)) w') := fun k hk w' hb => by
    have h := implHeldBy_any B ao n cap es k w' (hx.below hb hB (Nat.le_refl B)) (by have := hb.size; omega)
    rwa [heldBy_yes ok (by simp [inB]; omega)] at h
  have HH := Lib.hid hh; clear hh
  obtain ⟨W1, hW1⟩ : ∃ W1, W1 = w.alloc (.cells #[.slice ao n cap] 36) := ⟨_, rfl⟩
  have hb0 : Below w.heap.size w W1 := by rw [hW1]; exact (Below.refl _ _).alloc (Nat.le_refl _) _
  have k1 : Blk W1 w.heap.size 36 #[.slice ao n cap] := by rw [hW1]; exact Blk.new _ _ _
  go_enter Try.func17, Try.ntmps17
  go_upto_region 1 with fail
  rw [← hW1]
  clear hW1
  go_wp2
  go_loopw [4] (fun sk wr => ∃ k : Nat, k ≤ 4 ∧ sk = .int .i64 k ∧ Hid (HeldUp es k) ∧ Below w.heap.size w wr ∧ Blk wr w.heap.size 36 #[.slice ao n cap]) (fun sk _ => 4 - (intOf sk).toNat)
  case atStart => exact ⟨0, by omega, rfl, Lib.hid (fun i hi => absurd hi (by omega)), hb0, k1⟩
  case round =>
    obtain ⟨k, hk, rfl, hup, hbel, hblk⟩ := hrel
    by_cases hlt : k < 4
    · have i1 : (k : Int) < 4 := by omega
      have hgo := fun h => heldUp_succ hup.out (k := k) h
      have hstop : ¬ 0 ≤ held es k → r = false := fun h => by rw [← HR.out]; exact decide_eq_false (fun hu => h (hu k hlt))
      have HGO := Lib.hid hgo; have HST := Lib.hid hstop; clear hgo hstop
      have hc := HH.out k hlt wr hbel
      generalize held es k = m at hc HGO HST
      have e0 := hblk.cell 0
      have hl := hblk.lt
      go_wp2_with fail
      refine hc.mono ?_
      rintro e w2 ⟨rfl, hb2⟩
      have hB2 := hbel.trans (hb2.mono hbel.size)
      have hk2 := hblk.below hb2 hl
      by_cases hm : m < 0
      · have hrf := HST.out (by omega)
        have HRF := Lib.hid hrf; clear hrf HGO HST hc
        go_wp2
        go_ret
        exact ⟨ret_bool HRF.out.symm, hB2⟩
      · have hn := Lib.hid (HGO.out (by omega))
        clear HGO HST hc
        go_wp2
        go_roundw
        case rel => exact ⟨k + 1, by omega, by go_num, hn, hB2, hk2⟩
        case measure => simp [intOf]; omega
    · have ek : k = 4 := by omega
      subst ek
      have hrt : r = true := by rw [← HR.out]; exact decide_eq_true hup.out
      go_wp2
      go_ret
      exact ⟨ret_bool hrt.symm, hbel⟩

/-- The two musts, each bound to its inquiry. -/
def mustRight (ao : Option Addr) (n cap : Nat) : Value := .func (.func 16) #[.agg #[.slice ao n cap]] #[]
def mustNobody (ao : Option Addr) (n cap : Nat) : Value := .func (.func 17) #[.agg #[.slice ao n cap]] #[]

set_option maxHeartbeats 1000000 in
theorem musts_any (ao : Option Addr) (n cap : Nat) (w : World) :
    Calls Try.prog 12 #[.agg #[.slice ao n cap]] w fun e w' =>
      ∃ g, e = .returned (.slice (some ⟨g, 0, none⟩) 2 2) ∧ w.heap.size ≤ g ∧ Blk w' g 38 #[mustRight ao n cap, mustNobody ao n cap] ∧ Below w.heap.size w w' := by
  have hmf : ∀ (fn : Fn) (first cap : Array Value) (w : World), (Instr.makeFunc fn first cap).run Try.prog w = .ok (.func fn first cap) w := fun _ _ _ _ => rfl
  obtain ⟨W1, hW1⟩ : ∃ W1, W1 = w.alloc (.cells #[.slice ao n cap] 36) := ⟨_, rfl⟩
  have hb0 : Below w.heap.size w W1 := by rw [hW1]; exact (Below.refl _ _).alloc (Nat.le_refl _) _
  have k1 : Blk W1 w.heap.size 36 #[.slice ao n cap] := by rw [hW1]; exact Blk.new _ _ _
  have e0 := k1.cell 0
  go_enter Try.func12, Try.ntmps12
  go_upto_region 1 with fail
  rw [← hW1]
  clear hW1
  go_wp2
  go_ret
  exact ⟨_, rfl, hb0.size, Blk.new _ _ _, hb0.alloc hb0.size _⟩

set_option maxHeartbeats 2000000 in
set_option maxRecDepth 100000 in
theorem implSound_any (B : Nat) (ao : Option Addr) (n cap : Nat) (es : List Ent) (w : World) (hx : Ents B w ao n cap es) (hB : B ≤ w.heap.size) :
    Calls Try.prog 7 #[.slice ao n cap] w (Says (.bool (soundE es)) w) := by
  have hno : bookOk es = false → soundE es = false := sound_no
  have hyes : bookOk es = true → soundE es = decide (HeldUp es 4) := sound_yes
  have hR := fun w' (hb : Below w.heap.size w w') => right_any B ao n cap es w' (hx.below hb hB (Nat.le_refl B)) (by have := hb.size; omega)
  have hN := fun (ok : bookOk es = true) w' (hb : Below w.heap.size w w') => nobody_any B ao n cap es w' (hx.below hb hB (Nat.le_refl B)) (by have := hb.size; omega) ok
  generalize soundE es = r at hno hyes
  generalize decide (HeldUp es 4) = u at hyes hN
  generalize bookOk es = b at hno hyes hR hN
  have HNO := Lib.hid hno; have HYES := Lib.hid hyes; have HR := Lib.hid hR; have HN := Lib.hid hN; clear hno hyes hR hN
  go_enter Try.func7, Try.ntmps7
  go_wp2_with fail
  refine (musts_any ao n cap _).mono ?_
  rintro e w1 ⟨g, rfl, hg, hk1, hb1⟩
  go_wp2
  go_loopw [9] (fun sk wr => ∃ k : Nat, k ≤ 2 ∧ sk = .int .i64 k ∧ (0 < k → Hid (b = true)) ∧ (1 < k → Hid (u = true)) ∧ Below w.heap.size w wr ∧ Blk wr g 38 #[mustRight ao n cap, mustNobody ao n cap]) (fun sk _ => 2 - (intOf sk).toNat)
  case atStart => exact ⟨0, by omega, rfl, fun h => absurd h (by omega), fun h => absurd h (by omega), hb1, hk1⟩
  case round =>
    obtain ⟨k, hk, rfl, hbt, hut, hbel, hblk⟩ := hrel
    match k, hk with
    | 0, _ =>
      have e0 := hblk.cell 0
      unfold mustRight at e0
      have hl := hblk.lt
      have hc := HR.out wr hbel
      clear hbt hut
      go_wp2_with fail
      refine hc.mono ?_
      rintro e w2 ⟨rfl, hb2⟩
      have hB2 := hbel.trans (hb2.mono hbel.size)
      have hk2 := hblk.below hb2 hl
      rcases b with _ | _
      · have hr := HNO.out rfl
        subst hr
        go_wp2
        go_ret
        exact ⟨rfl, hB2⟩
      · go_wp2
        go_roundw
        case rel => exact ⟨1, by omega, by go_num, fun _ => Lib.hid (by first | trivial | rfl), fun h => absurd h (by omega), hB2, hk2⟩
        case measure => simp [intOf]
    | 1, _ =>
      have e0 := hblk.cell 1
      unfold mustNobody at e0
      have hl := hblk.lt
      have hbt' := (hbt (by omega)).out
      have hc := HN.out hbt' wr hbel
      have hr := HYES.out hbt'
      subst hr
      have HB := Lib.hid hbt'
      clear hbt hut hbt'
      go_wp2_with fail
      refine hc.mono ?_
      rintro e w2 ⟨rfl, hb2⟩
      have hB2 := hbel.trans (hb2.mono hbel.size)
      have hk2 := hblk.below hb2 hl
      rcases r with _ | _
      · go_wp2
        go_ret
        exact ⟨rfl, hB2⟩
      · go_wp2
        go_roundw
        case rel => exact ⟨2, by omega, by go_num, fun _ => HB, fun _ => Lib.hid (by first | trivial | rfl), hB2, hk2⟩
        case measure => simp [intOf]
    | 2, _ =>
      have hr := HYES.out (hbt (by omega)).out
      rw [(hut (by omega)).out] at hr
      clear hbt hut
      go_wp2
      go_ret
      exact ⟨ret_bool hr.symm, hbel⟩

end Go.Proofs.Ytdinfpgnfofpbaa
