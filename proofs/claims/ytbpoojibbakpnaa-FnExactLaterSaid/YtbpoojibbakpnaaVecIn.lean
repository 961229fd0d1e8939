/-
  The program's vectors as values: later, list (slices.Clone of an array's slice), covers.
-/
import Derived.Test.YtbpoojibbakpnaaVecFrom
import Derived.Test.YtbpoojibbakpnaaEntry
import Derived.Test.YtbpoojibbakpnaaVecEq
import Derived.Deep.RegionHeld3
namespace Go.Proofs.Ytbpoojibbakpnaa
open Go.RowKit

def mixAt (xs ys : List Int) (k j : Nat) : Int := if j < k then max (xs.getD j 0) (ys.getD j 0) else xs.getD j 0
def mix (xs ys : List Int) (k : Nat) : Array Value := #[.int .i64 (mixAt xs ys k 0), .int .i64 (mixAt xs ys k 1), .int .i64 (mixAt xs ys k 2), .int .i64 (mixAt xs ys k 3)]
theorem mix_at (xs ys : List Int) {k : Nat} (h : k < 4) : (mix xs ys k)[k]? = some (.int .i64 (xs.getD k 0)) := by
  have h : k = 0 ∨ k = 1 ∨ k = 2 ∨ k = 3 := by omega
  rcases h with rfl | rfl | rfl | rfl <;> simp [mix, mixAt]
theorem mix_set (xs ys : List Int) {k : Nat} (h : k < 4) : (mix xs ys k).setIfInBounds k (.int .i64 (max (xs.getD k 0) (ys.getD k 0))) = mix xs ys (k + 1) := by
  have h : k = 0 ∨ k = 1 ∨ k = 2 ∨ k = 3 := by omega
  rcases h with rfl | rfl | rfl | rfl <;> simp [mix, mixAt]

set_option maxHeartbeats 1000000 in
set_option maxRecDepth 100000 in
theorem vecLater_any (a b c d p q r s : Int) (w : World) :
    Calls Try.prog 33 #[.agg #[.int .i64 a, .int .i64 b, .int .i64 c, .int .i64 d], .agg #[.int .i64 p, .int .i64 q, .int .i64 r, .int .i64 s]] w
      (Says (.agg #[.int .i64 (max a p), .int .i64 (max b q), .int .i64 (max c r), .int .i64 (max d s)]) w) := by
  have hix : ∀ k : Nat, k < 4 → ∀ w : World, (Instr.index 45 (.agg #[.int .i64 p, .int .i64 q, .int .i64 r, .int .i64 s]) (.int .i64 k)).run Try.prog w = .ok (.int .i64 ([p, q, r, s].getD k 0)) w := fun k h => by
    have h : k = 0 ∨ k = 1 ∨ k = 2 ∨ k = 3 := by omega
    rcases h with rfl | rfl | rfl | rfl <;> exact fun _ => by kernel_rfl
  have HIX := Lib.hid hix; clear hix
  go_enter Try.func33, Try.ntmps33
  go_wp2
  go_loopw [5, 6, 9] (fun _ _ i wr => ∃ k : Nat, k ≤ 4 ∧ i = .int .i64 k ∧ Blk wr w.heap.size 47 (mix [a, b, c, d] [p, q, r, s] k) ∧ Blk wr (w.heap.size + 2) 47 #[.int .i64 0, .int .i64 0, .int .i64 0, .int .i64 0] ∧ Below w.heap.size w wr) (fun _ _ i _ => 4 - (intOf i).toNat)
  case atStart =>
    refine ⟨0, Nat.zero_le _, rfl, ?_, ?_, (((Below.refl _ _).alloc (Nat.le_refl _) _).alloc (by simp) _).alloc (by simp; omega) _⟩
    · exact (Blk.alloc (heap_alloc2_old _ _ _) _)
    · have e : w.heap.size + 2 = ((w.alloc (.cells #[.int .i64 a, .int .i64 b, .int .i64 c, .int .i64 d] 47)).alloc (.cells #[.int .i64 p, .int .i64 q, .int .i64 r, .int .i64 s] 47)).heap.size := by simp
      rw [e]
      exact Blk.new _ _ _
  case round =>
    obtain ⟨k, hk, rfl, hr0, hr2, hbel⟩ := hrel
    by_cases hlt : k < 4
    · have q1 : wr.cell? ⟨w.heap.size, k, none⟩ = some (.int .i64 ([a, b, c, d].getD k 0)) := by rw [hr0.cell, mix_at _ _ hlt]
      have f1 := hr0.frozen k
      have hi := HIX.out k hlt
      have hset := hr0.set_ k (.int .i64 (max ([a, b, c, d].getD k 0) ([p, q, r, s].getD k 0)))
      rw [mix_set _ _ hlt] at hset
      have hset2 := hr2.far (p := ⟨w.heap.size, k, none⟩) (by simp) (.int .i64 (max ([a, b, c, d].getD k 0) ([p, q, r, s].getD k 0)))
      generalize [a, b, c, d].getD k 0 = x at q1 hset hset2
      generalize [p, q, r, s].getD k 0 = y at hi hset hset2
      have e : max x y = if x < y then y else x := by split <;> omega
      rw [e] at hset hset2
      clear e
      have HSET := Lib.hid hset; have HSET2 := Lib.hid hset2; clear hset hset2
      clear hr0 hr2
      have i1 : (k : Int) < 4 := by omega
      have i2 : (0 : Int) ≤ k := by omega
      go_wp2
      go_roundw
      case rel => exact ⟨k + 1, by omega, by go_num, HSET.out, HSET2.out, hbel.setCell (by simp) _⟩
      case measure => simp [intOf]; omega
    · have ek : k = 4 := by omega
      subst ek
      have z0 := hr0.cell 0; have z1 := hr0.cell 1; have z2 := hr0.cell 2; have z3 := hr0.cell 3
      have q0 := hr2.cell 0; have q1 := hr2.cell 1; have q2 := hr2.cell 2; have q3 := hr2.cell 3
      have y0 := hr2.frozen 0; have y1 := hr2.frozen 1; have y2 := hr2.frozen 2; have y3 := hr2.frozen 3
      simp [mix, mixAt] at z0 z1 z2 z3
      simp at q0 q1 q2 q3
      clear hr0 hr2
      obtain ⟨xa, hxa⟩ : ∃ xa, xa = max a p := ⟨_, rfl⟩
      rw [← hxa] at z0
      have HXa := Lib.hid hxa; clear hxa
      obtain ⟨xb, hxb⟩ : ∃ xb, xb = max b q := ⟨_, rfl⟩
      rw [← hxb] at z1
      have HXb := Lib.hid hxb; clear hxb
      obtain ⟨xc, hxc⟩ : ∃ xc, xc = max c r := ⟨_, rfl⟩
      rw [← hxc] at z2
      have HXc := Lib.hid hxc; clear hxc
      obtain ⟨xd, hxd⟩ : ∃ xd, xd = max d s := ⟨_, rfl⟩
      rw [← hxd] at z3
      have HXd := Lib.hid hxd; clear hxd
      go_wp2
      refine bodyPost_ret (v := .agg #[.int .i64 xa, .int .i64 xb, .int .i64 xc, .int .i64 xd]) (by simp [results, Try.results33, go_sem, q0, q1, q2, q3]) rfl ?_
      exact ⟨by rw [HXa.out, HXb.out, HXc.out, HXd.out], ((((hbel.setCell (by simp; omega) _).setCell (by simp; omega) _).setCell (by simp; omega) _).setCell (by simp; omega) _)⟩

set_option maxHeartbeats 1000000 in
set_option maxRecDepth 100000 in
theorem clone4_any (g : Nat) (xs : List Int) (w : World) (hi : Ints w.heap.size w (some ⟨g, 0, none⟩) 4 4 xs) :
    Calls Try.prog 48 #[.slice (some ⟨g, 0, none⟩) 4 4] w (NewInts xs w) := by
  have hown := own_empty w
  have hb : Below w.heap.size w (w.alloc (.cells #[] 2)) := (Below.refl _ _).alloc (Nat.le_refl _) _
  have hsz : (w.alloc (.cells #[] 2)).heap.size = w.heap.size + 1 := by simp
  have hx' := hi.below hb (Nat.le_refl _) (Nat.le_refl _)
  have HSZ := Lib.hid hsz; clear hsz
  clear hi
  have hN : ∀ w : World, (binOp .eql 24 (.slice (some ⟨g, 0, none⟩) 4 4) (.slice none 0 0)).run Try.prog w = .ok (.bool false) w := fun _ => by kernel_rfl
  go_enter Try.func48, Try.ntmps48
  go_wp2_with (at_builtin; refine append_all rfl _ _ rfl w.heap.size _ _ [] xs _ _ _ rfl rfl hx' (fun h => by cases h) hown (by rw [HSZ.out]; omega) (by decide) ?_; intro vA wA hownA hbA)
  go_ret
  exact ⟨_, rfl, hownA, hb.trans hbA⟩

set_option maxHeartbeats 1000000 in
set_option maxRecDepth 100000 in
theorem vecList_any (a b c d : Int) (w : World) (h64 : AllI64 [a, b, c, d]) :
    Calls Try.prog 34 #[.agg #[.int .i64 a, .int .i64 b, .int .i64 c, .int .i64 d]] w (NewInts [a, b, c, d] w) := by
  have hb : Below w.heap.size w (w.alloc (.cells #[.int .i64 a, .int .i64 b, .int .i64 c, .int .i64 d] 47)) := (Below.refl _ _).alloc (Nat.le_refl _) _
  have hk : Blk (w.alloc (.cells #[.int .i64 a, .int .i64 b, .int .i64 c, .int .i64 d] 47)) w.heap.size 47 #[.int .i64 a, .int .i64 b, .int .i64 c, .int .i64 d] := Blk.new _ _ _
  have hi : Ints (w.alloc (.cells #[.int .i64 a, .int .i64 b, .int .i64 c, .int .i64 d] 47)).heap.size (w.alloc (.cells #[.int .i64 a, .int .i64 b, .int .i64 c, .int .i64 d] 47)) (some ⟨w.heap.size, 0, none⟩) 4 4 [a, b, c, d] := by
    refine ⟨rfl, Nat.le_refl _, by unfold maxLen; omega, fun j hj => ⟨_, _, rfl, hk.lt, ?_⟩, h64⟩
    rw [Nat.zero_add, hk.cell]
    have h : j = 0 ∨ j = 1 ∨ j = 2 ∨ j = 3 := by omega
    rcases h with rfl | rfl | rfl | rfl <;> rfl
  clear hk
  generalize hW : w.alloc (.cells #[.int .i64 a, .int .i64 b, .int .i64 c, .int .i64 d] 47) = W at hb hi
  have hs := hb.size
  go_enter Try.func34, Try.ntmps34
  go_wp2_with fail
  refine (clone4_any _ _ _ hi).mono ?_
  rintro e w1 ⟨v, rfl, hown, hb1⟩
  go_wp2_with fail
  refine bodyPost_ret (v := v) (by simp [results, Try.results34]) rfl ?_
  exact ⟨_, rfl, hown.mono hs, hb.trans (hb1.mono hs)⟩

set_option maxHeartbeats 1000000 in
set_option maxRecDepth 100000 in
theorem vecCovers_any (a b c d p q r s : Int) (w : World) :
    Calls Try.prog 38 #[.agg #[.int .i64 a, .int .i64 b, .int .i64 c, .int .i64 d], .agg #[.int .i64 p, .int .i64 q, .int .i64 r, .int .i64 s]] w
      (Says (.bool (decide (p ≤ a ∧ q ≤ b ∧ r ≤ c ∧ s ≤ d))) w) := by
  have hb : Below w.heap.size w ((w.alloc (.cells #[.int .i64 a, .int .i64 b, .int .i64 c, .int .i64 d] 47)).alloc (.cells #[.int .i64 p, .int .i64 q, .int .i64 r, .int .i64 s] 47)) := ((Below.refl _ _).alloc (Nat.le_refl _) _).alloc (by simp) _
  have hk1 : Blk ((w.alloc (.cells #[.int .i64 a, .int .i64 b, .int .i64 c, .int .i64 d] 47)).alloc (.cells #[.int .i64 p, .int .i64 q, .int .i64 r, .int .i64 s] 47)) w.heap.size 47 #[.int .i64 a, .int .i64 b, .int .i64 c, .int .i64 d] := heap_alloc2_old _ _ _
  have hk2 : Blk ((w.alloc (.cells #[.int .i64 a, .int .i64 b, .int .i64 c, .int .i64 d] 47)).alloc (.cells #[.int .i64 p, .int .i64 q, .int .i64 r, .int .i64 s] 47)) (w.heap.size + 1) 47 #[.int .i64 p, .int .i64 q, .int .i64 r, .int .i64 s] := heap_alloc2_new _ _ _
  generalize hW : (w.alloc (.cells #[.int .i64 a, .int .i64 b, .int .i64 c, .int .i64 d] 47)).alloc (.cells #[.int .i64 p, .int .i64 q, .int .i64 r, .int .i64 s] 47) = W at hb hk1 hk2
  have hs := hb.size
  have hl1 := hk1.lt
  have hl2 := hk2.lt
  have HDD : ∀ w', Below W.heap.size W w' → Blk w' w.heap.size 47 #[.int .i64 a, .int .i64 b, .int .i64 c, .int .i64 d] ∧ Blk w' (w.heap.size + 1) 47 #[.int .i64 p, .int .i64 q, .int .i64 r, .int .i64 s] := fun w' h => ⟨hk1.below h hl1, hk2.below h hl2⟩
  have HD := Lib.hid HDD; clear HDD
  have p0 := hk1.cell 0; have p1 := hk1.cell 1; have p2 := hk1.cell 2; have p3 := hk1.cell 3
  have q0 := hk2.cell 0; have q1 := hk2.cell 1; have q2 := hk2.cell 2; have q3 := hk2.cell 3
  clear hk1 hk2
  have hL := fun wA => vecLater_any a b c d p q r s wA
  have hE := fun wA => vec_eql (max a p) (max b q) (max c r) (max d s) a b c d wA
  have hfin : decide (max a p = a ∧ max b q = b ∧ max c r = c ∧ max d s = d) = decide (p ≤ a ∧ q ≤ b ∧ r ≤ c ∧ s ≤ d) := decide_eq_decide.2 (by omega)
  rw [← hfin]
  clear hfin
  generalize decide (max a p = a ∧ max b q = b ∧ max c r = c ∧ max d s = d) = v at hE ⊢
  generalize max a p = xa at hL hE
  generalize max b q = xb at hL hE
  generalize max c r = xc at hL hE
  generalize max d s = xd at hL hE
  go_enter Try.func38, Try.ntmps38
  go_wp2_with fail
  clear hW
  go_region_held3 (fun w' => w'.cell? ⟨w.heap.size, 0, none⟩ = some (.int .i64 a) ∧ w'.cell? ⟨w.heap.size, 1, none⟩ = some (.int .i64 b) ∧ w'.cell? ⟨w.heap.size, 2, none⟩ = some (.int .i64 c) ∧ w'.cell? ⟨w.heap.size, 3, none⟩ = some (.int .i64 d) ∧ w'.cell? ⟨w.heap.size + 1, 0, none⟩ = some (.int .i64 p) ∧ w'.cell? ⟨w.heap.size + 1, 1, none⟩ = some (.int .i64 q) ∧ w'.cell? ⟨w.heap.size + 1, 2, none⟩ = some (.int .i64 r) ∧ w'.cell? ⟨w.heap.size + 1, 3, none⟩ = some (.int .i64 s))
    (first | exact ⟨(HD.out _ HBA).1.cell 0, (HD.out _ HBA).1.cell 1, (HD.out _ HBA).1.cell 2, (HD.out _ HBA).1.cell 3, (HD.out _ HBA).2.cell 0, (HD.out _ HBA).2.cell 1, (HD.out _ HBA).2.cell 2, (HD.out _ HBA).2.cell 3⟩ | exact ⟨p0, p1, p2, p3, q0, q1, q2, q3⟩)
    (first | (go_at_call 33; refine (hL _).mono ?_; rintro e wA ⟨rfl, hbA⟩; have HBA := (Below.refl W.heap.size W).drew.trans hbA))
  go_wp2
  go_ret
  exact ⟨rfl, hb.trans (HBA.mono hs)⟩

end Go.Proofs.Ytbpoojibbakpnaa
