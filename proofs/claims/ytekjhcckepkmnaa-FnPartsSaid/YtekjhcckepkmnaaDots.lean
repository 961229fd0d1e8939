/-
  impl.dotsDiffer.
-/
import Derived.Test.YtekjhcckepkmnaaMath4
import Derived.Test.YtekjhcckepkmnaaBlk
namespace Go.Proofs.Ytekjhcckepkmnaa
open Go.RowKit

/-- None of the first k entries has the Owner and the Dot of one ahead of it. -/
def Differ (es : List Ent) (k : Nat) : Prop := ∀ i, i < k → ∀ j, j < i → ¬ ((E es j).o = (E es i).o ∧ (E es j).d = (E es i).d)
instance (es : List Ent) (k : Nat) : Decidable (Differ es k) := by unfold Differ; infer_instance
def differ (es : List Ent) : Bool := decide (Differ es es.length)
theorem differ_zero (es : List Ent) : Differ es 0 := fun i hi => absurd hi (by omega)
theorem differ_succ {es : List Ent} {k : Nat} (h : Differ es k) (hg : ∀ j, j < k → ¬ ((E es j).o = (E es k).o ∧ (E es j).d = (E es k).d)) : Differ es (k + 1) := fun i hi => by
  by_cases e : i = k
  · subst e; exact hg
  · exact h i (by omega)

set_option maxHeartbeats 1000000 in
set_option maxRecDepth 100000 in
theorem dotsDiffer_any (B : Nat) (ao : Option Addr) (n cap : Nat) (es : List Ent) (w : World) (hx : Ents B w ao n cap es) (hB : B ≤ w.heap.size) :
    Calls Try.prog 45 #[.slice ao n cap] w (Says (.bool (differ es)) w) := by
  have hx0 := hx.hlen; have hx1 := hx.hcap; have hx2 := hx.hmax
  unfold maxLen at hx2
  have HX := Lib.hid hx0; clear hx0
  generalize hb : differ es = bb
  have HB := Lib.hid hb; clear hb
  go_enter Try.func45, Try.ntmps45
  go_wp2
  go_loopw [9] (fun si wr => ∃ i : Nat, i ≤ n ∧ si = .int .i64 i ∧ Hid (Differ es i) ∧ Below w.heap.size w wr) (fun si _ => n - (intOf si).toNat)
  case atStart => exact ⟨0, Nat.zero_le _, rfl, Lib.hid (differ_zero es), Below.refl _ _⟩
  case round =>
    obtain ⟨i, hi, rfl, hr, hbel⟩ := hrel
    by_cases hlt : i < n
    · have hxr := hx.below hbel hB hB
      obtain ⟨b, off, rfl, hbB, hc⟩ := hxr.at i hlt
      obtain ⟨c0, c1, c2, c3⟩ := hc i hlt
      have HC := Lib.hid hc; clear hc
      have hsz := hbel.size
      have hbad : ∀ j, j < i → ((E es j).o = (E es i).o ∧ (E es j).d = (E es i).d) → bb = false := fun j hj h => by
        rw [← HB.out]; exact decide_eq_false (fun hd => hd i (by have := HX.out; omega) j hj h)
      have hgood : (∀ j, j < i → ¬ ((E es j).o = (E es i).o ∧ (E es j).d = (E es i).d)) → Differ es (i + 1) := differ_succ hr.out
      generalize E es i = x at c0 c1 c2 c3 hbad hgood
      have HBAD := Lib.hid hbad; have HGOOD := Lib.hid hgood; clear hbad hgood
      have i1 : (0 : Int) ≤ i := by omega
      have i2 : (i : Int) < n := by omega
      have i3 : (i : Int) ≤ cap := by omega
      obtain ⟨W, hW⟩ : ∃ W, W = wr.alloc (.cells #[.int .i64 x.o, .int .i64 x.s, .int .i64 x.a, .int .i64 x.d] 33) := ⟨_, rfl⟩
      have hk0 : Blk W wr.heap.size 33 #[.int .i64 x.o, .int .i64 x.s, .int .i64 x.a, .int .i64 x.d] := by rw [hW]; exact Blk.new _ _ _
      have hWb : Below w.heap.size w W := by rw [hW]; exact hbel.alloc hsz _
      have hWr : Below wr.heap.size wr W := by rw [hW]; exact (Below.refl _ _).alloc (Nat.le_refl _) _
      go_wp2
      rw [← hW]
      go_loopw [18] (fun sj wq => ∃ j : Nat, j ≤ i ∧ sj = .int .i64 j ∧ Hid (∀ k, k < j → ¬ ((E es k).o = x.o ∧ (E es k).d = x.d)) ∧ Below w.heap.size w wq ∧ Blk wq wr.heap.size 33 #[.int .i64 x.o, .int .i64 x.s, .int .i64 x.a, .int .i64 x.d]) (fun sj _ => i - (intOf sj).toNat)
      case atStart => exact ⟨0, Nat.zero_le _, rfl, Lib.hid (fun k hk => absurd hk (by omega)), hWb, hk0⟩
      case round =>
        obtain ⟨j, hj, rfl, hno, hbq, hkq⟩ := hrel
        by_cases hji : j < i
        · have hxq := hx.below hbq hB hB
          obtain ⟨b', off', e', hbB', hc'⟩ := hxq.at j (by omega)
          cases e'
          obtain ⟨a0, a1, a2, a3⟩ := hc' j (by omega)
          clear hc'
          have htwin := HBAD.out j hji
          have hstep : ¬ ((E es j).o = x.o ∧ (E es j).d = x.d) → ∀ k, k < j + 1 → ¬ ((E es k).o = x.o ∧ (E es k).d = x.d) := fun h k hk => by
            by_cases e : k = j
            · subst e; exact h
            · exact hno.out k (by omega)
          generalize E es j = y at a0 a1 a2 a3 htwin hstep
          have HT := Lib.hid htwin; have HST := Lib.hid hstep; clear htwin hstep
          have hsq := hbq.size
          have hkl := hkq.lt
          have hkq2 := hkq.alloc (.cells #[.int .i64 y.o, .int .i64 y.s, .int .i64 y.a, .int .i64 y.d] 33)
          have hbq2 := hbq.alloc hsq (.cells #[.int .i64 y.o, .int .i64 y.s, .int .i64 y.a, .int .i64 y.d] 33)
          have f0 := hkq2.cell 0
          have f3 := hkq2.cell 3
          have k1 : (0 : Int) ≤ j := by omega
          have k2 : (j : Int) < i := by omega
          by_cases ho : x.o = y.o
          · have ho' : (x.o == y.o) = true := by simpa using ho
            by_cases hd : x.d = y.d
            · have hd' : (x.d == y.d) = true := by simpa using hd
              have hbb := Lib.hid (HT.out ⟨ho.symm, hd.symm⟩)
              clear ho hd HT HST HBAD HGOOD
              go_wp2
              go_ret
              exact ⟨ret_bool hbb.out.symm, hbq2⟩
            · have hd' : (x.d == y.d) = false := by simpa using hd
              have hs := Lib.hid (HST.out (fun h => hd h.2.symm))
              clear ho hd HT HST HBAD HGOOD
              go_wp2
              go_roundw
              case rel => exact ⟨j + 1, by omega, by go_num, hs, hbq2, hkq2⟩
              case measure => simp [intOf]; omega
          · have ho' : (x.o == y.o) = false := by simpa using ho
            have hs := Lib.hid (HST.out (fun h => ho h.1.symm))
            clear ho HT HST HBAD HGOOD
            go_wp2
            go_roundw
            case rel => exact ⟨j + 1, by omega, by go_num, hs, hbq2, hkq2⟩
            case measure => simp [intOf]; omega
        · have ej : j = i := by omega
          have hgo := Lib.hid (HGOOD.out (fun k hk => hno.out k (by omega)))
          subst ej
          clear HBAD HGOOD
          go_wp2
          go_roundw
          case rel => exact ⟨j + 1, by omega, by go_num, hgo, hbq⟩
          case measure => simp [intOf]; omega
    · have ei : i = n := by omega
      subst ei
      have hgo : differ es = true := decide_eq_true (by rw [HX.out]; exact hr.out)
      rw [HB.out] at hgo
      go_wp2
      go_ret
      exact ⟨ret_bool hgo.symm, hbel⟩

end Go.Proofs.Ytekjhcckepkmnaa
