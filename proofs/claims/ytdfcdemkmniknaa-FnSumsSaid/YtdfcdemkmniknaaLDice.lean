/-
  The dice of the laws (laws.roll, laws.dice.below): whatever they say is below what was asked for.
-/
import Derived.Test.YtdfcdemkmniknaaDice
namespace Go.Proofs.Ytdfcdemkmniknaa
open Go.RowKit

/-- Block g is a pair of dice of the laws over the bytes bs, which lie below B. -/
structure LDice (B g : Nat) (w : World) : Prop where
  hB : B ≤ g
  hg : g < w.heap.size
  dice : ∃ ao n cap bs, Bytes B w ao n cap bs ∧ w.cell? ⟨g, 0, none⟩ = some (.slice ao n cap) ∧ ∃ i : Nat, i ≤ n ∧ w.cell? ⟨g, 1, none⟩ = some (.int .i64 i) ∧ ∃ h : Int, 0 ≤ h ∧ h ≤ 18446744073709551615 ∧ w.cell? ⟨g, 2, none⟩ = some (.int .u64 h)
  free : ∀ o, w.frozen? ⟨g, o, none⟩ = false

theorem u64_and24 (n : Int) : bits .and .u64 n 16777215 = n % 16777216 := by
  have h127 : (BitVec.ofInt 64 16777215).toNat = 2 ^ 24 - 1 := by decide
  have key : (BitVec.ofInt 64 n &&& BitVec.ofInt 64 16777215).toNat = (n % ((2 ^ 64 : Nat) : Int)).toNat % 2 ^ 24 := by
    rw [BitVec.toNat_and, BitVec.toNat_ofInt, h127, Nat.and_two_pow_sub_one_eq_mod]
  show IntKind.u64.wrap ((BitVec.ofInt 64 n &&& BitVec.ofInt 64 16777215).toNat : Nat) = n % 16777216
  rw [key]
  show (((n % ((2 ^ 64 : Nat) : Int)).toNat % 2 ^ 24 : Nat) : Int) % (2 ^ 64 : Nat) = _
  omega
theorem wrap_u64_rng (n : Int) : 0 ≤ IntKind.u64.wrap n ∧ IntKind.u64.wrap n ≤ 18446744073709551615 := by
  show 0 ≤ n % ((2 ^ 64 : Nat) : Int) ∧ n % ((2 ^ 64 : Nat) : Int) ≤ 18446744073709551615
  omega
theorem wrap24 (n : Int) : 0 ≤ wrap64 (bits .and .u64 n 16777215) ∧ wrap64 (bits .and .u64 n 16777215) ≤ 16777215 := by
  rw [u64_and24]
  unfold wrap64
  omega

theorem LDice.moved {B g : Nat} {w : World} (hB : B ≤ g) (hg : g < w.heap.size) {ao : Option Addr} {n cap : Nat} {bs : List Int} (hb : Bytes B w ao n cap bs) (h0 : w.cell? ⟨g, 0, none⟩ = some (.slice ao n cap))
    {v2 : Value} (h2 : w.cell? ⟨g, 2, none⟩ = some v2) {v1 : Value} (h1 : w.cell? ⟨g, 1, none⟩ = some v1) (hf : ∀ o, w.frozen? ⟨g, o, none⟩ = false) (i : Nat) (hi : i ≤ n) (q : Int) (hq : 0 ≤ q ∧ q ≤ 18446744073709551615) (k : Nat) (p : Int) (hp : p = i) :
    Only g w (((w.setCell ⟨g, 2, none⟩ (.int .u64 q)).drewN k).setCell ⟨g, 1, none⟩ (.int .i64 p)) ∧ LDice B g (((w.setCell ⟨g, 2, none⟩ (.int .u64 q)).drewN k).setCell ⟨g, 1, none⟩ (.int .i64 p)) := by
  subst hp
  have ho : Only g w (((w.setCell ⟨g, 2, none⟩ (.int .u64 q)).drewN k).setCell ⟨g, 1, none⟩ (.int .i64 i)) := (((Only.refl g w).setCell 2 _).drewN _).setCell 1 _
  exact ⟨ho, hB, by rw [ho.size]; exact hg, ⟨ao, n, cap, bs, hb.grown ho.grown hB, by go_simp, i, hi, by go_simp, q, hq.1, hq.2, by go_simp⟩, fun o => by have := hf o; go_simp⟩

theorem LDice.rolled {B g : Nat} {w : World} (hB : B ≤ g) (hg : g < w.heap.size) {ao : Option Addr} {n cap : Nat} {bs : List Int} (hb : Bytes B w ao n cap bs) (h0 : w.cell? ⟨g, 0, none⟩ = some (.slice ao n cap))
    {v2 : Value} (h2 : w.cell? ⟨g, 2, none⟩ = some v2) {i : Nat} (h1 : w.cell? ⟨g, 1, none⟩ = some (.int .i64 i)) (hf : ∀ o, w.frozen? ⟨g, o, none⟩ = false) (hi : i ≤ n) (q : Int) (hq : 0 ≤ q ∧ q ≤ 18446744073709551615) (k : Nat) :
    Only g w ((w.setCell ⟨g, 2, none⟩ (.int .u64 q)).drewN k) ∧ LDice B g ((w.setCell ⟨g, 2, none⟩ (.int .u64 q)).drewN k) := by
  have ho : Only g w ((w.setCell ⟨g, 2, none⟩ (.int .u64 q)).drewN k) := ((Only.refl g w).setCell 2 _).drewN _
  exact ⟨ho, hB, by rw [ho.size]; exact hg, ⟨ao, n, cap, bs, hb.grown ho.grown hB, by go_simp, i, hi, by go_simp, q, hq.1, hq.2, by go_simp⟩, fun o => by have := hf o; go_simp⟩

theorem LDice.below {B g C : Nat} {w w' : World} (hd : LDice B g w) (hb : Below C w w') (hC : g < C) : LDice B g w' := by
  obtain ⟨hB, hg, ⟨ao, n, cap, bs, hby, h0, i, hi, h1, h, hh1, hh2, h2⟩, hf⟩ := hd
  exact ⟨hB, Nat.lt_of_lt_of_le hg hb.size, ⟨ao, n, cap, bs, hby.below hb (by omega) (Nat.le_refl _), (hb.cell (p := ⟨g, 0, none⟩) hC).trans h0, i, hi, (hb.cell (p := ⟨g, 1, none⟩) hC).trans h1, h, hh1, hh2, (hb.cell (p := ⟨g, 2, none⟩) hC).trans h2⟩,
    fun o => (hb.frozen (p := ⟨g, o, none⟩) hC).trans (hf o)⟩

/-- A number from 0 on that is below n. -/
def LLow (B g : Nat) (n : Int) (w : World) (e : Ending) (w' : World) : Prop := ∃ r : Nat, e = .returned (.int .i64 r) ∧ (r : Int) < n ∧ Only g w w' ∧ LDice B g w'
theorem LLow.mk {B g : Nat} {n r : Int} {w w' : World} (h0 : 0 ≤ r) (h1 : r < n) (ho : Only g w w') (hd : LDice B g w') : LLow B g n w (.returned (.int .i64 r)) w' := by
  obtain ⟨k, rfl⟩ := Int.eq_ofNat_of_zero_le h0
  exact ⟨k, rfl, h1, ho, hd⟩

set_option maxHeartbeats 400000 in
set_option maxRecDepth 100000 in
theorem ldBelow_any (B g : Nat) (n : Int) (w : World) (hd : LDice B g w) (hn : 0 < n) (hn2 : n ≤ 4611686018427387904) :
    Calls Try.prog 19 #[.pointer (some ⟨g, 0, none⟩), .int .i64 n] w (LLow B g n w) := by
  obtain ⟨hB, hg, ⟨ao, m, cap, bs, hb, h0, i, hi, h1, h, hh1, hh2, h2⟩, hf⟩ := hd
  have f1 := hf 1
  have f2 := hf 2
  have hb1 := hb.hcap; have hb2 := hb.hmax
  unfold maxLen at hb2
  have HF := Lib.hid hf; clear hf
  have hnz : ¬ n = 0 := by omega
  by_cases hlt : i < m
  · obtain ⟨b, off, rfl, hbB, hc, hr0, hr1⟩ := hb.at i hlt
    have hne : b ≠ g := by omega
    generalize bs.getD i 0 = y at hc hr0 hr1
    have i1 : (0 : Int) ≤ i := by omega
    have i2 : (i : Int) < m := by omega
    go_enter Try.func19, Try.ntmps19
    go_wp2
    have hz := wrap24 (IntKind.u64.wrap (IntKind.u64.wrap (h * 6364136223846793005) + 1442695040888963407) / 8589934592)
    have hq := wrap_u64_rng (IntKind.u64.wrap (h * 6364136223846793005) + 1442695040888963407)
    generalize wrap64 (bits BinOp.and IntKind.u64 (IntKind.u64.wrap (IntKind.u64.wrap (h * 6364136223846793005) + 1442695040888963407) / 8589934592) 16777215) = z at hz
    generalize IntKind.u64.wrap (IntKind.u64.wrap (h * 6364136223846793005) + 1442695040888963407) = q at hq
    obtain ⟨hz0, hz1⟩ := hz
    have HQ := Lib.hid hq; clear hq
    go_quiet (fail)
    go_wp2
    go_quiet (fail)
    go_wp2
    go_ret
    exact LLow.mk (Int.emod_nonneg _ hnz) (Int.emod_lt_of_pos _ hn) (LDice.moved hB hg hb h0 h2 h1 HF.out (i + 1) (by omega) q HQ.out _ _ (by omega)).1 (LDice.moved hB hg hb h0 h2 h1 HF.out (i + 1) (by omega) q HQ.out _ _ (by omega)).2
  · have hin : i = m := by omega
    have i4 : decide ((i : Int) < m) = false := decide_eq_false (by omega)
    go_enter Try.func19, Try.ntmps19
    go_wp2
    have hz := wrap24 (IntKind.u64.wrap (IntKind.u64.wrap (h * 6364136223846793005) + 1442695040888963407) / 8589934592)
    have hq := wrap_u64_rng (IntKind.u64.wrap (h * 6364136223846793005) + 1442695040888963407)
    generalize wrap64 (bits BinOp.and IntKind.u64 (IntKind.u64.wrap (IntKind.u64.wrap (h * 6364136223846793005) + 1442695040888963407) / 8589934592) 16777215) = z at hz
    generalize IntKind.u64.wrap (IntKind.u64.wrap (h * 6364136223846793005) + 1442695040888963407) = q at hq
    obtain ⟨hz0, hz1⟩ := hz
    have HQ := Lib.hid hq; clear hq
    go_quiet (fail)
    go_wp2
    go_ret
    exact LLow.mk (Int.emod_nonneg _ hnz) (Int.emod_lt_of_pos _ hn) (LDice.rolled hB hg hb h0 h2 h1 HF.out hi q HQ.out _).1 (LDice.rolled hB hg hb h0 h2 h1 HF.out hi q HQ.out _).2

/-- New dice of the laws. -/
def NewLDice (w : World) (e : Ending) (w' : World) : Prop := e = .returned (.pointer (some ⟨w.heap.size, 0, none⟩)) ∧ LDice w.heap.size w.heap.size w' ∧ Below w.heap.size w w'

theorem LDice.hashed {B g : Nat} {w : World} (hd : LDice B g w) (q : Int) (hq : 0 ≤ q ∧ q ≤ 18446744073709551615) (k : Nat) : LDice B g ((w.setCell ⟨g, 2, none⟩ (.int .u64 q)).drewN k) := by
  obtain ⟨hB, hg, ⟨ao, n, cap, bs, hb, h0, i, hi, h1, h, hh1, hh2, h2⟩, hf⟩ := hd
  exact (LDice.rolled hB hg hb h0 h2 h1 hf hi q hq k).2

set_option maxHeartbeats 400000 in
set_option maxRecDepth 100000 in
theorem roll_any (B : Nat) (ao : Option Addr) (n cap : Nat) (bs : List Int) (s : Int) (w : World) (hb : Bytes B w ao n cap bs) (hB : B ≤ w.heap.size) (hn : n ≤ 1099511627776) :
    Calls Try.prog 18 #[.slice ao n cap, .int .u64 s] w (NewLDice w) := by
  have hb1 := hb.hcap; have hb2 := hb.hmax
  unfold maxLen at hb2
  go_enter Try.func18, Try.ntmps18
  go_wp2
  have hq0 := wrap_u64_rng (IntKind.u64.wrap (s * 7919) + n)
  generalize IntKind.u64.wrap (IntKind.u64.wrap (s * 7919) + n) = q0 at hq0
  have hal : Below w.heap.size w (w.alloc (Obj.cells #[Value.slice ao n cap, Value.int IntKind.i64 0, Value.int IntKind.u64 q0] 48)) := (Below.refl _ _).alloc (Nat.le_refl _) _
  have hd0 : LDice w.heap.size w.heap.size (w.alloc (Obj.cells #[Value.slice ao n cap, Value.int IntKind.i64 0, Value.int IntKind.u64 q0] 48)) :=
    ⟨Nat.le_refl _, by simp, ⟨ao, n, cap, bs, hb.below hal hB hB, by go_simp, 0, Nat.zero_le _, by go_simp, q0, hq0.1, hq0.2, by go_simp⟩, fun o => by go_simp⟩
  go_loopw [6] (fun si wr => ∃ i : Nat, si = .int .i64 i ∧ i ≤ n ∧ LDice w.heap.size w.heap.size wr ∧ Below w.heap.size w wr) (fun si _ => n - (intOf si).toNat)
  case atStart => exact ⟨0, rfl, Nat.zero_le _, hd0, hal⟩
  case round =>
    obtain ⟨i, rfl, hi, hd, hbel⟩ := hrel
    clear hd0 hal
    have hb' := hb.below hbel hB (Nat.le_refl _)
    have hsz := hbel.size
    by_cases hlt : i < n
    · obtain ⟨b, off, rfl, hbB, hc, hr0, hr1⟩ := hb'.at i hlt
      have hne : b ≠ w.heap.size := by omega
      generalize bs.getD i 0 = y at hc hr0 hr1
      have HD := Lib.hid hd
      obtain ⟨-, hg, ⟨_, _, _, _, -, -, _, -, -, h, hh1, hh2, h2⟩, hf⟩ := hd
      have f2 := hf 2
      clear hf
      have i1 : (0 : Int) ≤ i := by omega
      have i2 : (i : Int) < n := by omega
      go_wp2
      go_region
      go_wp2
      go_roundw
      case rel => exact ⟨i + 1, by go_num, by omega, HD.out.hashed _ (wrap_u64_rng _) 1, (hbel.setCell (Nat.le_refl _) _).drew⟩
      case measure => simp [intOf]; omega
    · go_wp2
      go_ret
      exact ⟨rfl, hd, hbel⟩

end Go.Proofs.Ytdfcdemkmniknaa
