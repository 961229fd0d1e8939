/-
  The dice of the drawn inputs (spec.l1Cur): whatever they say, they say it within the bounds asked for, and write only into their own struct.
-/
import Derived.Test.YtekjhcckepkmnaaAppend
import Derived.Test.YtekjhcckepkmnaaBits1
import Derived.Test.YtekjhcckepkmnaaOnly
namespace Go.Proofs.Ytekjhcckepkmnaa
open Go.RowKit

/-- The slice (ao, n, cap) has bytes in blocks below B. -/
structure Bytes (B : Nat) (w : World) (ao : Option Addr) (n cap : Nat) (bs : List Int) : Prop where
  hlen : bs.length = n
  hcap : n ≤ cap
  hmax : cap ≤ maxLen
  cell : ∀ j, j < n → ∃ b off, ao = some ⟨b, off, none⟩ ∧ b < B ∧ w.cell? ⟨b, off + j, none⟩ = some (.int .u8 (bs.getD j 0))
  rng : ∀ x ∈ bs, 0 ≤ x ∧ x ≤ 255

theorem Bytes.grown {B g : Nat} {w w' : World} {ao : Option Addr} {n cap : Nat} {bs : List Int} (h : Bytes B w ao n cap bs) (hb : w.grownBy w' (some g)) (hg : B ≤ g) : Bytes B w' ao n cap bs :=
  ⟨h.hlen, h.hcap, h.hmax, fun j hj => by
    obtain ⟨b, off, e, hlt, hc⟩ := h.cell j hj
    exact ⟨b, off, e, hlt, hb.cell hc (fun e => by have h2 : b = g := Option.some.inj e; omega)⟩, h.rng⟩
theorem Bytes.below {B B' C : Nat} {w w' : World} {ao : Option Addr} {n cap : Nat} {bs : List Int} (h : Bytes B w ao n cap bs) (hb : Below C w w') (hC : B ≤ C) (hB : B ≤ B') : Bytes B' w' ao n cap bs :=
  ⟨h.hlen, h.hcap, h.hmax, fun j hj => by
    obtain ⟨b, off, e, hlt, hc⟩ := h.cell j hj
    exact ⟨b, off, e, by omega, (hb.cell (p := ⟨b, off + j, none⟩) (by show b < C; omega)).trans hc⟩, h.rng⟩
theorem Bytes.at {B : Nat} {w : World} {ao : Option Addr} {n cap : Nat} {bs : List Int} (h : Bytes B w ao n cap bs) (k : Nat) (hk : k < n) :
    ∃ b off, ao = some ⟨b, off, none⟩ ∧ b < B ∧ w.cell? ⟨b, off + k, none⟩ = some (.int .u8 (bs.getD k 0)) ∧ 0 ≤ bs.getD k 0 ∧ bs.getD k 0 ≤ 255 := by
  obtain ⟨b, off, e, hb, hc⟩ := h.cell k hk
  have hl := h.hlen
  have e2 : bs.getD k 0 = bs[k]'(by omega) := by simp [List.getD, show k < bs.length by omega]
  have := h.rng _ (List.getElem_mem (l := bs) (n := k) (by omega))
  exact ⟨b, off, e, hb, hc, by rw [e2]; exact this.1, by rw [e2]; exact this.2⟩

/-- Block g is a pair of dice over the bytes bs, which lie below B. -/
structure Dice (B g : Nat) (w : World) : Prop where
  hB : B ≤ g
  hg : g < w.heap.size
  dice : ∃ ao n cap bs, Bytes B w ao n cap bs ∧ w.cell? ⟨g, 0, none⟩ = some (.slice ao n cap) ∧ ∃ i : Nat, i ≤ n ∧ w.cell? ⟨g, 1, none⟩ = some (.int .i64 i) ∧ ∃ h : Int, I64 h ∧ w.cell? ⟨g, 2, none⟩ = some (.int .i64 h)
  free : ∀ o, w.frozen? ⟨g, o, none⟩ = false


theorem wrap64_i64 (n : Int) : I64 (wrap64 n) := by unfold I64 wrap64; omega

theorem Dice.moved {B g : Nat} {w : World} (hB : B ≤ g) (hg : g < w.heap.size) {ao : Option Addr} {n cap : Nat} {bs : List Int} (hb : Bytes B w ao n cap bs) (h0 : w.cell? ⟨g, 0, none⟩ = some (.slice ao n cap))
    {v2 : Value} (h2 : w.cell? ⟨g, 2, none⟩ = some v2) {v1 : Value} (h1 : w.cell? ⟨g, 1, none⟩ = some v1) (hf : ∀ o, w.frozen? ⟨g, o, none⟩ = false) (i : Nat) (hi : i ≤ n) (q : Int) (hq : I64 q) (k : Nat) (p : Int) (hp : p = i) :
    Only g w (((w.setCell ⟨g, 2, none⟩ (.int .i64 q)).drewN k).setCell ⟨g, 1, none⟩ (.int .i64 p)) ∧ Dice B g (((w.setCell ⟨g, 2, none⟩ (.int .i64 q)).drewN k).setCell ⟨g, 1, none⟩ (.int .i64 p)) := by
  subst hp
  have ho : Only g w (((w.setCell ⟨g, 2, none⟩ (.int .i64 q)).drewN k).setCell ⟨g, 1, none⟩ (.int .i64 i)) := (((Only.refl g w).setCell 2 _).drewN _).setCell 1 _
  exact ⟨ho, hB, by rw [ho.size]; exact hg, ⟨ao, n, cap, bs, hb.grown ho.grown hB, by go_simp, i, hi, by go_simp, q, hq, by go_simp⟩, fun o => by have := hf o; go_simp⟩

theorem Dice.rolled {B g : Nat} {w : World} (hB : B ≤ g) (hg : g < w.heap.size) {ao : Option Addr} {n cap : Nat} {bs : List Int} (hb : Bytes B w ao n cap bs) (h0 : w.cell? ⟨g, 0, none⟩ = some (.slice ao n cap))
    {v2 : Value} (h2 : w.cell? ⟨g, 2, none⟩ = some v2) {i : Nat} (h1 : w.cell? ⟨g, 1, none⟩ = some (.int .i64 i)) (hf : ∀ o, w.frozen? ⟨g, o, none⟩ = false) (hi : i ≤ n) (q : Int) (hq : I64 q) (k : Nat) :
    Only g w ((w.setCell ⟨g, 2, none⟩ (.int .i64 q)).drewN k) ∧ Dice B g ((w.setCell ⟨g, 2, none⟩ (.int .i64 q)).drewN k) := by
  have ho : Only g w ((w.setCell ⟨g, 2, none⟩ (.int .i64 q)).drewN k) := ((Only.refl g w).setCell 2 _).drewN _
  exact ⟨ho, hB, by rw [ho.size]; exact hg, ⟨ao, n, cap, bs, hb.grown ho.grown hB, by go_simp, i, hi, by go_simp, q, hq, by go_simp⟩, fun o => by have := hf o; go_simp⟩

/-- What the dice say: a number from 0 to 255. -/
def ByteSaid (B g : Nat) (w : World) (e : Ending) (w' : World) : Prop := ∃ r : Int, e = .returned (.int .i64 r) ∧ 0 ≤ r ∧ r ≤ 255 ∧ Only g w w' ∧ Dice B g w'

set_option maxHeartbeats 400000 in
set_option maxRecDepth 100000 in
theorem l1Byte_any (B g : Nat) (w : World) (hd : Dice B g w) :
    Calls Try.prog 52 #[.pointer (some ⟨g, 0, none⟩)] w (ByteSaid B g w) := by
  obtain ⟨hB, hg, ⟨ao, n, cap, bs, hb, h0, i, hi, h1, h, hh, h2⟩, hf⟩ := hd
  have f1 := hf 1
  have f2 := hf 2
  have hb1 := hb.hcap; have hb2 := hb.hmax
  unfold maxLen at hb2
  have HF := Lib.hid hf; clear hf
  obtain ⟨hh1, hh2⟩ := hh
  by_cases hlt : i < n
  · obtain ⟨b, off, rfl, hbB, hc, hr0, hr1⟩ := hb.at i hlt
    have hne : b ≠ g := by omega
    generalize bs.getD i 0 = y at hc hr0 hr1
    have i1 : (0 : Int) ≤ i := by omega
    have i2 : (i : Int) < n := by omega
    go_enter Try.func52, Try.ntmps52
    go_wp2
    go_quiet (fail)
    go_wp2
    generalize hq : wrap64 (wrap64 (h * 6364136223846793005) + 1442695040888963407) = q
    have hqr : I64 q := by rw [← hq]; exact wrap64_i64 _
    clear hq
    rw [i64_and255]
    generalize (bits BinOp.xor IntKind.i64 (q / 8589934592) (q / 35184372088832)) = z
    have z1 : 0 ≤ z % 256 := by omega
    have z2 : z % 256 ≤ 255 := by omega
    generalize z % 256 = x at z1 z2
    go_quiet (fail)
    go_wp2
    go_quiet (fail)
    go_wp2
    rw [i64_and255]
    go_ret
    exact ⟨_, rfl, by omega, by omega, Dice.moved hB hg hb h0 h2 h1 HF.out (i + 1) (by omega) q hqr _ _ (by omega)⟩
  · have hin : i = n := by omega
    have i4 : decide ((i : Int) < n) = false := decide_eq_false (by omega)
    go_enter Try.func52, Try.ntmps52
    go_wp2
    go_quiet (fail)
    go_wp2
    generalize hq : wrap64 (wrap64 (h * 6364136223846793005) + 1442695040888963407) = q
    have hqr : I64 q := by rw [← hq]; exact wrap64_i64 _
    clear hq
    rw [i64_and255]
    generalize (bits BinOp.xor IntKind.i64 (q / 8589934592) (q / 35184372088832)) = z
    have z1 : 0 ≤ z % 256 := by omega
    have z2 : z % 256 ≤ 255 := by omega
    generalize z % 256 = x at z1 z2
    go_quiet (fail)
    go_wp2
    go_ret
    rw [World.drewN_drewN]
    exact ⟨_, rfl, by omega, by omega, Dice.rolled hB hg hb h0 h2 h1 HF.out hi q hqr _⟩

/-- A number from 0 on that is below n (0 where n is not above 0). -/
def LowSaid (B g : Nat) (n : Int) (w : World) (e : Ending) (w' : World) : Prop := ∃ r : Nat, e = .returned (.int .i64 r) ∧ (0 < n → (r : Int) < n) ∧ (n ≤ 0 → r = 0) ∧ Only g w w' ∧ Dice B g w'
theorem LowSaid.mk {B g : Nat} {n r : Int} {w w' : World} (h0 : 0 ≤ r) (h1 : 0 < n → r < n) (h2 : n ≤ 0 → r = 0) (ho : Only g w w') (hd : Dice B g w') : LowSaid B g n w (.returned (.int .i64 r)) w' := by
  obtain ⟨k, rfl⟩ := Int.eq_ofNat_of_zero_le h0
  exact ⟨k, rfl, h1, fun h => by have := h2 h; omega, ho, hd⟩

set_option maxHeartbeats 400000 in
theorem l1Below_any (B g : Nat) (n : Int) (w : World) (hd : Dice B g w) (hn : I64 n) :
    Calls Try.prog 39 #[.pointer (some ⟨g, 0, none⟩), .int .i64 n] w (LowSaid B g n w) := by
  obtain ⟨hn1, hn2⟩ := hn
  by_cases h0 : n ≤ 0
  · go_enter Try.func39, Try.ntmps39
    go_wp2
    go_ret
    exact LowSaid.mk (Int.le_refl _) (fun h => by omega) (fun _ => rfl) (Only.refl _ _) hd
  by_cases h1 : n ≤ 256
  · go_enter Try.func39, Try.ntmps39
    go_wp2_with fail
    refine (l1Byte_any B g _ hd).mono ?_
    rintro e w1 ⟨r, rfl, hr0, hr1, ho, hd1⟩
    go_wp2_with fail
    go_ret
    exact LowSaid.mk (Int.emod_nonneg _ (by omega)) (fun _ => Int.emod_lt_of_pos _ (by omega)) (fun h => by omega) ho hd1
  · go_enter Try.func39, Try.ntmps39
    go_wp2_with fail
    refine (l1Byte_any B g _ hd).mono ?_
    rintro e w1 ⟨r1, rfl, hr0, hr1, ho1, hd1⟩
    go_wp2_with fail
    refine (l1Byte_any B g _ hd1).mono ?_
    rintro e w2 ⟨r2, rfl, hr2, hr3, ho2, hd2⟩
    go_wp2_with fail
    refine (l1Byte_any B g _ hd2).mono ?_
    rintro e w3 ⟨r3, rfl, hr4, hr5, ho3, hd3⟩
    go_wp2_with fail
    refine (l1Byte_any B g _ hd3).mono ?_
    rintro e w4 ⟨r4, rfl, hr6, hr7, ho4, hd4⟩
    go_wp2_with fail
    go_ret
    exact LowSaid.mk (Int.emod_nonneg _ (by omega)) (fun _ => Int.emod_lt_of_pos _ (by omega)) (fun h => by omega) (((ho1.trans ho2).trans ho3).trans ho4) hd4

def BoolSaid (B g : Nat) (w : World) (e : Ending) (w' : World) : Prop := ∃ b : Bool, e = .returned (.bool b) ∧ Only g w w' ∧ Dice B g w'

set_option maxHeartbeats 400000 in
theorem l1Once_any (B g : Nat) (n : Int) (w : World) (hd : Dice B g w) (hn : I64 n) :
    Calls Try.prog 38 #[.pointer (some ⟨g, 0, none⟩), .int .i64 n] w (BoolSaid B g w) := by
  go_enter Try.func38, Try.ntmps38
  go_wp2_with fail
  refine (l1Below_any B g n _ hd hn).mono ?_
  rintro e w1 ⟨r1, rfl, hr1, hr2, ho1, hd1⟩
  clear hr1 hr2
  go_wp2_with fail
  go_ret
  exact ⟨_, rfl, ho1, hd1⟩

/-- lo..hi. -/
def FromSaid (B g : Nat) (lo hi : Int) (w : World) (e : Ending) (w' : World) : Prop := ∃ r : Int, e = .returned (.int .i64 r) ∧ lo ≤ r ∧ r ≤ hi ∧ Only g w w' ∧ Dice B g w'

set_option maxHeartbeats 400000 in
theorem l1From_any (B g : Nat) (lo hi : Int) (w : World) (hd : Dice B g w) (h1 : -4611686018427387904 ≤ lo) (h2 : hi ≤ 4611686018427387904) (h3 : lo ≤ hi) (hx : hi - lo ≤ 4611686018427387904) :
    Calls Try.prog 53 #[.pointer (some ⟨g, 0, none⟩), .int .i64 lo, .int .i64 hi] w (FromSaid B g lo hi w) := by
  go_enter Try.func53, Try.ntmps53
  go_wp2_with fail
  refine (l1Below_any B g _ _ hd ⟨by omega, by omega⟩).mono ?_
  rintro e w1 ⟨r1, rfl, hr1, hr2, ho1, hd1⟩
  have hr3 : (r1 : Int) < hi - lo + 1 := hr1 (by omega)
  clear hr1 hr2
  go_wp2_with fail
  go_ret
  exact ⟨_, rfl, by omega, by omega, ho1, hd1⟩

/-- A cell of a list of numbers that the call has written out. -/
theorem lit_cell (w : World) (xs : List Int) (g : Nat) (w1 : World) (ho : Keeps g (w.alloc (.cells (xs.map (Value.int .i64)).toArray 2)) w1) (hg : g < w.heap.size) (r : Nat) (hr : r < xs.length) :
    w1.cell? ⟨w.heap.size, r, none⟩ = some (.int .i64 (xs.getD r 0)) := by
  have h0 : (w.alloc (.cells (xs.map (Value.int .i64)).toArray 2)).cell? ⟨w.heap.size, r, none⟩ = some (.int .i64 (xs.getD r 0)) := by
    rw [cell_of_row _ _ r (xs.map (Value.int .i64)).toArray 2 (0, 0) (heap_alloc_new w _)]
    simp [List.getD, hr]
  exact ho.cell h0 (fun e => by have h2 : w.heap.size = g := Option.some.inj e; omega)


theorem Dice.below' {B g C : Nat} {w w' : World} (hd : Dice B g w) (hb : Below C w w') (hC : g < C) : Dice B g w' := by
  obtain ⟨hB, hg, ⟨ao, n, cap, bs, hby, h0, i, hi, h1, h, hh, h2⟩, hf⟩ := hd
  exact ⟨hB, Nat.lt_of_lt_of_le hg hb.size, ⟨ao, n, cap, bs, hby.below hb (by omega) (Nat.le_refl _), (hb.cell (p := ⟨g, 0, none⟩) hC).trans h0, i, hi, (hb.cell (p := ⟨g, 1, none⟩) hC).trans h1, h, hh, (hb.cell (p := ⟨g, 2, none⟩) hC).trans h2⟩,
    fun o => (hb.frozen (p := ⟨g, o, none⟩) hC).trans (hf o)⟩

theorem Dice.below {B g : Nat} {w w' : World} (hd : Dice B g w) (hb : Below w.heap.size w w') : Dice B g w' := hd.below' hb hd.hg


theorem Dice.alloc {B g : Nat} {w : World} (hd : Dice B g w) (o : Obj) : Dice B g (w.alloc o) := hd.below ((Below.refl _ _).alloc (Nat.le_refl _) o)

theorem all_getD {P : Int → Prop} {xs : List Int} (h : ∀ x ∈ xs, P x) {r : Nat} (hr : r < xs.length) : P (xs.getD r 0) := by
  have e : xs.getD r 0 = xs[r] := by simp [List.getD, hr]
  rw [e]
  exact h _ (List.getElem_mem _)

/-- A number, whatever it is. -/
def NumSaid (B g : Nat) (w : World) (e : Ending) (w' : World) : Prop := ∃ r : Int, e = .returned (.int .i64 r) ∧ I64 r ∧ Keeps g w w' ∧ Dice B g w'

end Go.Proofs.Ytekjhcckepkmnaa
