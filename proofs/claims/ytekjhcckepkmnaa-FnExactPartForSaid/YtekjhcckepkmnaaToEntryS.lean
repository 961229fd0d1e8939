/-
  laws.toEntryS, laws.szEntryS.
-/
import Derived.Test.YtekjhcckepkmnaaEntsSet
import Derived.Test.YtekjhcckepkmnaaToEntry
namespace Go.Proofs.Ytekjhcckepkmnaa
open Go.RowKit

theorem szEntryS_any (ao : Option Addr) (n cap : Nat) (left : Int) (w : World) (hn : n ≤ maxLen) (hl0 : 0 ≤ left) (hl1 : left ≤ 1048576) :
    Calls Try.prog 14 #[.slice ao n cap, .int .i64 left] w fun e w' => e = .returned (.int .i64 (if left < n then -1 else left - n)) ∧ w' = w := by
  unfold maxLen at hn
  by_cases h : left < n
  · rw [if_pos h]
    have h2 : left - n < 0 := by omega
    go_enter Try.func14, Try.ntmps14
    go_wp2
    go_ret
    exact ⟨rfl, rfl⟩
  · rw [if_neg h]
    have h2 : ¬ left - n < 0 := by omega
    go_enter Try.func14, Try.ntmps14
    go_wp2
    go_ret
    exact ⟨rfl, rfl⟩

/-- A fresh row of the entries es, nil where there are none is let in. -/
def CopiedE (es : List Ent) (n : Nat) (w : World) (e : Ending) (w' : World) : Prop :=
  ∃ a c, e = .returned (.slice a n c) ∧ OwnE w.heap.size w' (.slice a n c) es ∧ Ents w'.heap.size w' a n c es ∧ (a = none → c = 0) ∧ Below w.heap.size w w' ∧ w.heap.size ≤ w'.heap.size

set_option maxHeartbeats 1000000 in
set_option maxRecDepth 100000 in
theorem toEntryS_any (B : Nat) (ao : Option Addr) (n cap : Nat) (es : List Ent) (w : World) (hx : Ents B w ao n cap es) (hB : B ≤ w.heap.size) (hn : n ≤ 1048576) :
    Calls Try.prog 15 #[.slice ao n cap] w (CopiedE es n w) := by
  obtain ⟨i0, hi, hz0, hz1, hz2⟩ := info_parts infoE
  go_enter Try.func15, Try.ntmps15
  go_wp2_with (at_make; refine wpList_make_full _ rfl _ _ 24 rfl w.heap.size 33 i0 _ 4 Try.underlying24 hi hz0 hz1 _ _ _ _ n rfl rfl (by omega) (by omega) ?b2 ?b3 (Nat.le_refl _) ?_)
  case b2 => rw [hz2]; omega
  case b3 => unfold maxLen; omega
  intro w0 hown0 hgrow0
  go_wp2
  have hml : es.length = n := hx.hlen
  have e0 : (madeCells #[Value.int .i64 0, .int .i64 0, .int .i64 0, .int .i64 0] (n * 4)).toList = flatE (es.take 0 ++ List.replicate (es.length - 0) zeroE) := by
    rw [List.take_zero, List.nil_append, Nat.sub_zero, hml]
    exact flatE_zero n
  rw [e0] at hown0
  clear e0
  have HL := Lib.hid hml
  clear hml
  have hxwf := hx.wf
  go_loopw [4] (fun i wr => ∃ k : Nat, k ≤ n ∧ i = .int .i64 k ∧ wr.ownsRow w.heap.size 33 4 (.slice (some ⟨w.heap.size, 0, none⟩) n n) n (flatE (es.take k ++ List.replicate (es.length - k) zeroE)) ∧ Below w.heap.size w wr) (fun i _ => n - (intOf i).toNat)
  case atStart => exact ⟨0, Nat.zero_le _, rfl, hown0, (Below.refl _ _).grown hgrow0 (Nat.le_refl _) (fun k h => by cases h)⟩
  case round =>
    obtain ⟨k, hk, rfl, hown, hbel⟩ := hrel
    by_cases hlt : k < n
    · obtain ⟨b, off, rfl, hbB, hc⟩ := hx.at k hlt
      obtain ⟨g0, g1, g2, g3⟩ := (hc k hlt).below hbel (show b < w.heap.size by omega)
      have hT := fun w => toEntry_any (E es k).o (E es k).s (E es k).a (E es k).d w
      have hll : (es.take k ++ List.replicate (es.length - k) zeroE).length = n := by have := HL.out; simp; omega
      have hstep := copyE_step es k (by have := HL.out; omega)
      generalize hek : E es k = x at g0 g1 g2 g3 hT hstep
      have i1 : (0 : Int) ≤ k := by omega
      have i2 : (k : Int) < n := by omega
      have hszr := (World.ownsRow.lt hown w.heap.size rfl).2
      have HS := Lib.hid hstep; have HLL := Lib.hid hll
      clear hc hek hstep hll
      have HX := Lib.hid hx; have HWF := Lib.hid hxwf; clear hx hxwf
      go_wp2_with fail
      refine (hT _).mono ?_
      rintro e w1 ⟨rfl, hb1⟩
      have hown1 := hown.kept (row := none) (w' := w1) ⟨hb1.os, hb1.tape, hb1.output, hb1.size, fun k hk _ => hb1.block k hk⟩ (.inr (by simp [Value.ownBlock]))
      have q := OwnE.ent4 hown1 HLL.out k hlt
      obtain ⟨q0, q1, q2, q3⟩ := q
      have f0 := hown1.frozenAt (k * 4); have f1 := hown1.frozenAt (k * 4 + 1); have f2 := hown1.frozenAt (k * 4 + 2); have f3 := hown1.frozenAt (k * 4 + 3)
      have hst := OwnE.store hown1 HLL.out k hlt x
      rw [HS.out] at hst
      have HST := Lib.hid hst; clear hst hown1 hown
      have hB1 := hbel.trans (hb1.mono hbel.size)
      go_wp2
      go_roundw
      case rel => exact ⟨k + 1, by omega, by go_num, by simpa using HST.out, (((hB1.setCell (by exact Nat.le_refl _) _).setCell (by exact Nat.le_refl _) _).setCell (by exact Nat.le_refl _) _).setCell (by exact Nat.le_refl _) _⟩
      case measure => simp [intOf]; omega
    · have ek : k = n := by omega
      subst ek
      have eh := HL.out
      rw [List.take_of_length_le (by omega), eh, Nat.sub_self, List.replicate_zero, List.append_nil] at hown
      go_wp2
      go_ret
      have ho : OwnE w.heap.size wr (.slice (some ⟨w.heap.size, 0, none⟩) k k) es := by
        unfold OwnE; rw [eh]; exact hown
      obtain ⟨a', c', e', hi', hz'⟩ := ho.ents hxwf
      rw [eh] at e' hi'
      cases e'
      exact ⟨_, _, rfl, ho, hi', hz', hbel, hbel.size⟩

end Go.Proofs.Ytekjhcckepkmnaa
