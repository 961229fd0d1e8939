/-
  The list by key (impl.keyed at entries): its rise; Dots that differ; impl.BookOk.
-/
import Derived.Test.YtekjhcckepkmnaaMath4
import Derived.Test.YtekjhcckepkmnaaBlk
namespace Go.Proofs.Ytekjhcckepkmnaa
open Go.RowKit

/-- The key of the one ahead; -1 ahead of all. -/
def lastKey (es : List Ent) (i : Nat) : Int := if i = 0 then -1 else (E es (i - 1)).key
def Rise (es : List Ent) (k : Nat) : Prop := ∀ i, i < k → lastKey es i < (E es i).key
instance (es : List Ent) (k : Nat) : Decidable (Rise es k) := by unfold Rise; infer_instance
def rises (es : List Ent) : Bool := decide (Rise es es.length)
theorem rise_zero (es : List Ent) : Rise es 0 := fun i hi => absurd hi (by omega)
theorem rise_succ {es : List Ent} {k : Nat} (h : Rise es k) (hg : lastKey es k < (E es k).key) : Rise es (k + 1) := fun i hi => by
  by_cases e : i = k
  · subst e; exact hg
  · exact h i (by omega)
theorem rise_bad {es : List Ent} {k : Nat} (hk : k < es.length) (h : ¬ lastKey es k < (E es k).key) : rises es = false := decide_eq_false (fun hr => h (hr k hk))
theorem lastKey_succ (es : List Ent) (k : Nat) : lastKey es (k + 1) = (E es k).key := by simp [lastKey]

/-- A list by key, as a value. -/
def keyedV (ao : Option Addr) (n cap : Nat) : Value := .agg #[.slice ao n cap, .func (.func 56) #[] #[]]

set_option maxHeartbeats 1000000 in
set_option maxRecDepth 100000 in
theorem rises_any (B : Nat) (ao : Option Addr) (n cap : Nat) (es : List Ent) (w : World) (hx : Ents B w ao n cap es) (hB : B ≤ w.heap.size) :
    Calls Try.prog 44 #[.agg #[.slice ao n cap, .func (.func 56) #[] #[]]] w (Says (.bool (rises es)) w) := by
  have hx0 := hx.hlen; have hx1 := hx.hcap; have hx2 := hx.hmax
  unfold maxLen at hx2
  have HX := Lib.hid hx0; clear hx0
  generalize hb : rises es = bb
  have HB := Lib.hid hb; clear hb
  have hb0 : Below w.heap.size w (w.alloc (.cells #[.slice ao n cap, .func (.func 56) #[] #[]] 68)) := (Below.refl _ _).alloc (Nat.le_refl _) _
  have hk0 : Blk (w.alloc (.cells #[.slice ao n cap, .func (.func 56) #[] #[]] 68)) w.heap.size 68 #[.slice ao n cap, .func (.func 56) #[] #[]] := Blk.new _ _ _
  go_enter Try.func44, Try.ntmps44
  go_wp2
  go_loopw [3, 10] (fun sl si wr => ∃ i : Nat, i ≤ n ∧ si = .int .i64 i ∧ sl = .int .i64 (lastKey es i) ∧ Hid (Rise es i) ∧ Below w.heap.size w wr ∧ Blk wr w.heap.size 68 #[.slice ao n cap, .func (.func 56) #[] #[]]) (fun _ si _ => n - (intOf si).toNat)
  case atStart => exact ⟨0, Nat.zero_le _, rfl, rfl, Lib.hid (rise_zero es), hb0, hk0⟩
  case round =>
    obtain ⟨i, hi, rfl, rfl, hr, hbel, hblk⟩ := hrel
    by_cases hlt : i < n
    · have hxr := hx.below hbel hB hB
      obtain ⟨b, off, rfl, hbB, hc⟩ := hxr.at i hlt
      have g1 := hc i hlt
      clear hc
      have hK := fun w => implKeyOf_any (E es i).o (E es i).s (E es i).a (E es i).d w
      have hkE : keyOf (E es i).o (E es i).s (E es i).a (E es i).d = (E es i).key := rfl
      rw [hkE] at hK
      clear hkE
      have hbad : ¬ lastKey es i < (E es i).key → bb = false := fun h => by rw [← HB.out]; exact rise_bad (by have := HX.out; omega) h
      have hgood : lastKey es i < (E es i).key → Rise es (i + 1) := rise_succ hr.out
      have hlast := lastKey_succ es i
      generalize lastKey es i = lk at hbad hgood
      generalize (E es i).key = ky at hK hbad hgood hlast
      generalize E es i = x at g1 hK
      have HBAD := Lib.hid hbad; have HGOOD := Lib.hid hgood; have HLAST := Lib.hid hlast; clear hbad hgood hlast
      obtain ⟨c0, c1, c2, c3⟩ := g1
      have hsz := hbel.size
      have hkl := hblk.lt
      have f0 := hblk.cell 0
      have f1 := hblk.cell 1
      have i1 : (0 : Int) ≤ i := by omega
      have i2 : (i : Int) < n := by omega
      go_wp2_with fail
      refine (hK _).mono ?_
      rintro e w1 ⟨rfl, hb1⟩
      have hB1 : Below w.heap.size w w1 := (hbel.alloc hsz _).trans (hb1.mono (by simp; omega))
      have hk1 := (hblk.alloc (.cells #[.int .i64 x.o, .int .i64 x.s, .int .i64 x.a, .int .i64 x.d] 33)).below hb1 (by simp; omega)
      clear hb1 hblk hbel f0 f1 c0 c1 c2 c3 hK hb0 hk0
      by_cases hlk : lk < ky
      · have d1 : decide (ky ≤ lk) = false := decide_eq_false (by omega)
        have hnext := Lib.hid (HGOOD.out hlk)
        clear HGOOD HBAD
        go_wp2
        go_roundw
        case rel => exact ⟨i + 1, by omega, by go_num, by rw [HLAST.out], hnext, hB1, hk1⟩
        case measure => simp [intOf]; omega
      · have d1 : decide (ky ≤ lk) = true := decide_eq_true (by omega)
        have hbb := Lib.hid (HBAD.out (by omega))
        clear HGOOD HBAD HLAST
        go_wp2
        go_ret
        exact ⟨ret_bool hbb.out.symm, hB1⟩
    · have ei : i = n := by omega
      subst ei
      have hgo : rises es = true := decide_eq_true (by rw [HX.out]; exact hr.out)
      rw [HB.out] at hgo
      go_wp2
      go_ret
      exact ⟨ret_bool hgo.symm, hbel⟩

end Go.Proofs.Ytekjhcckepkmnaa
