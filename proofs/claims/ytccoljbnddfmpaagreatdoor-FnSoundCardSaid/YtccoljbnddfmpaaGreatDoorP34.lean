/- Texts of this claim, put together. -/
import Derived.Test.YtccoljbnddfmpaaGreatDoorP1
import Derived.Test.YtccoljbnddfmpaaGreatDoorP6

namespace Go.Proofs.YtccoljbnddfmpaaGreatDoor
open Go.RowKit
structure Bytes (B : Nat) (w : World) (ao : Option Addr) (n cap : Nat) (bs : List Int) : Prop where
  hlen : bs.length = n
  hcap : n ≤ cap
  hmax : cap ≤ maxLen
  cell : ∀ j, j < n → ∃ b off, ao = some ⟨b, off, none⟩ ∧ b < B ∧ w.cell? ⟨b, off + j, none⟩ = some (.int .u8 (bs.getD j 0))
  rng : ∀ x ∈ bs, 0 ≤ x ∧ x ≤ 255
theorem Bytes.grown {B g : Nat} {w w' : World} {ao : Option Addr} {n cap : Nat} {bs : List Int} (h : Bytes B w ao n cap bs) (hb : w.grownBy w' (some g)) (hg : B ≤ g) : Bytes B w' ao n cap bs :=
  ⟨h.hlen, h.hcap, h.hmax, fun j hj => by
    obtain ⟨b, off, e, hlt, hc⟩ := h.cell j hj
    exact ⟨b, off, e, hlt, hb.cell hc (fun e => by have h2 : b = g := Option.some.inj e; omega)⟩, h.rng⟩
theorem Bytes.below {B B' C : Nat} {w w' : World} {ao : Option Addr} {n cap : Nat} {bs : List Int} (h : Bytes B w ao n cap bs) (hb : Below C w w') (hC : B ≤ C) (hB : B ≤ B') : Bytes B' w' ao n cap bs :=
  ⟨h.hlen, h.hcap, h.hmax, fun j hj => by
    obtain ⟨b, off, e, hlt, hc⟩ := h.cell j hj
    exact ⟨b, off, e, by omega, (hb.cell (p := ⟨b, off + j, none⟩) (by show b < C; omega)).trans hc⟩, h.rng⟩
theorem Bytes.at {B : Nat} {w : World} {ao : Option Addr} {n cap : Nat} {bs : List Int} (h : Bytes B w ao n cap bs) (k : Nat) (hk : k < n) :
    ∃ b off, ao = some ⟨b, off, none⟩ ∧ b < B ∧ w.cell? ⟨b, off + k, none⟩ = some (.int .u8 (bs.getD k 0)) ∧ 0 ≤ bs.getD k 0 ∧ bs.getD k 0 ≤ 255 := by
  obtain ⟨b, off, e, hb, hc⟩ := h.cell k hk
  have hl := h.hlen
  have e2 : bs.getD k 0 = bs[k]'(by omega) := by simp [List.getD, show k < bs.length by omega]
  have := h.rng _ (List.getElem_mem (l := bs) (n := k) (by omega))
  exact ⟨b, off, e, hb, hc, by rw [e2]; exact this.1, by rw [e2]; exact this.2⟩
structure Dice (B g : Nat) (w : World) : Prop where
  hB : B ≤ g
  hg : g < w.heap.size
  dice : ∃ ao n cap bs, Bytes B w ao n cap bs ∧ w.cell? ⟨g, 0, none⟩ = some (.slice ao n cap) ∧ ∃ i : Nat, i ≤ n ∧ w.cell? ⟨g, 1, none⟩ = some (.int .i64 i) ∧ ∃ h : Int, I64 h ∧ w.cell? ⟨g, 2, none⟩ = some (.int .i64 h)
  free : ∀ o, w.frozen? ⟨g, o, none⟩ = false
theorem wrap64_i64 (n : Int) : I64 (wrap64 n) := by unfold I64 wrap64; omega
theorem Dice.moved {B g : Nat} {w : World} (hB : B ≤ g) (hg : g < w.heap.size) {ao : Option Addr} {n cap : Nat} {bs : List Int} (hb : Bytes B w ao n cap bs) (h0 : w.cell? ⟨g, 0, none⟩ = some (.slice ao n cap))
    {v2 : Value} (h2 : w.cell? ⟨g, 2, none⟩ = some v2) {v1 : Value} (h1 : w.cell? ⟨g, 1, none⟩ = some v1) (hf : ∀ o, w.frozen? ⟨g, o, none⟩ = false) (i : Nat) (hi : i ≤ n) (q : Int) (hq : I64 q) (k : Nat) (p : Int) (hp : p = i) :
    Only g w (((w.setCell ⟨g, 2, none⟩ (.int .i64 q)).drewN k).setCell ⟨g, 1, none⟩ (.int .i64 p)) ∧ Dice B g (((w.setCell ⟨g, 2, none⟩ (.int .i64 q)).drewN k).setCell ⟨g, 1, none⟩ (.int .i64 p)) := by
  subst hp
  have ho : Only g w (((w.setCell ⟨g, 2, none⟩ (.int .i64 q)).drewN k).setCell ⟨g, 1, none⟩ (.int .i64 i)) := (((Only.refl g w).setCell 2 _).drewN _).setCell 1 _
  exact ⟨ho, hB, by rw [ho.size]; exact hg, ⟨ao, n, cap, bs, hb.grown ho.grown hB, by go_simp, i, hi, by go_simp, q, hq, by go_simp⟩, fun o => by have := hf o; go_simp⟩
theorem Dice.rolled {B g : Nat} {w : World} (hB : B ≤ g) (hg : g < w.heap.size) {ao : Option Addr} {n cap : Nat} {bs : List Int} (hb : Bytes B w ao n cap bs) (h0 : w.cell? ⟨g, 0, none⟩ = some (.slice ao n cap))
    {v2 : Value} (h2 : w.cell? ⟨g, 2, none⟩ = some v2) {i : Nat} (h1 : w.cell? ⟨g, 1, none⟩ = some (.int .i64 i)) (hf : ∀ o, w.frozen? ⟨g, o, none⟩ = false) (hi : i ≤ n) (q : Int) (hq : I64 q) (k : Nat) :
    Only g w ((w.setCell ⟨g, 2, none⟩ (.int .i64 q)).drewN k) ∧ Dice B g ((w.setCell ⟨g, 2, none⟩ (.int .i64 q)).drewN k) := by
  have ho : Only g w ((w.setCell ⟨g, 2, none⟩ (.int .i64 q)).drewN k) := ((Only.refl g w).setCell 2 _).drewN _
  exact ⟨ho, hB, by rw [ho.size]; exact hg, ⟨ao, n, cap, bs, hb.grown ho.grown hB, by go_simp, i, hi, by go_simp, q, hq, by go_simp⟩, fun o => by have := hf o; go_simp⟩
def ByteSaid (B g : Nat) (w : World) (e : Ending) (w' : World) : Prop := ∃ r : Int, e = .returned (.int .i64 r) ∧ 0 ≤ r ∧ r ≤ 255 ∧ Only g w w' ∧ Dice B g w'
set_option maxHeartbeats 400000 in
set_option maxRecDepth 100000 in
theorem l1Byte_any (B g : Nat) (w : World) (hd : Dice B g w) :
    Calls Tryz.prog 42 #[.pointer (some ⟨g, 0, none⟩)] w (ByteSaid B g w) := by
  obtain ⟨hB, hg, ⟨ao, n, cap, bs, hb, h0, i, hi, h1, h, hh, h2⟩, hf⟩ := hd
  have f1 := hf 1
  have f2 := hf 2
  have hb1 := hb.hcap; have hb2 := hb.hmax
  unfold maxLen at hb2
  have HF := Lib.hid hf; clear hf
  obtain ⟨hh1, hh2⟩ := hh
  by_cases hlt : i < n
  · obtain ⟨b, off, rfl, hbB, hc, hr0, hr1⟩ := hb.at i hlt
    have hne : b ≠ g := by omega
    generalize bs.getD i 0 = y at hc hr0 hr1
    have i1 : (0 : Int) ≤ i := by omega
    have i2 : (i : Int) < n := by omega
    go_enter Tryz.func42, Tryz.ntmps42
    go_wp2
    go_quiet (fail)
    go_wp2
    generalize hq : wrap64 (wrap64 (h * 6364136223846793005) + 1442695040888963407) = q
    have hqr : I64 q := by rw [← hq]; exact wrap64_i64 _
    clear hq
    rw [i64_and255]
    generalize (bits BinOp.xor IntKind.i64 (q / 8589934592) (q / 35184372088832)) = z
    have z1 : 0 ≤ z % 256 := by omega
    have z2 : z % 256 ≤ 255 := by omega
    generalize z % 256 = x at z1 z2
    go_quiet (fail)
    go_wp2
    go_quiet (fail)
    go_wp2
    rw [i64_and255]
    go_ret
    exact ⟨_, rfl, by omega, by omega, Dice.moved hB hg hb h0 h2 h1 HF.out (i + 1) (by omega) q hqr _ _ (by omega)⟩
  · have hin : i = n := by omega
    have i4 : decide ((i : Int) < n) = false := decide_eq_false (by omega)
    go_enter Tryz.func42, Tryz.ntmps42
    go_wp2
    go_quiet (fail)
    go_wp2
    generalize hq : wrap64 (wrap64 (h * 6364136223846793005) + 1442695040888963407) = q
    have hqr : I64 q := by rw [← hq]; exact wrap64_i64 _
    clear hq
    rw [i64_and255]
    generalize (bits BinOp.xor IntKind.i64 (q / 8589934592) (q / 35184372088832)) = z
    have z1 : 0 ≤ z % 256 := by omega
    have z2 : z % 256 ≤ 255 := by omega
    generalize z % 256 = x at z1 z2
    go_quiet (fail)
    go_wp2
    go_ret
    rw [World.drewN_drewN]
    exact ⟨_, rfl, by omega, by omega, Dice.rolled hB hg hb h0 h2 h1 HF.out hi q hqr _⟩
def LowSaid (B g : Nat) (n : Int) (w : World) (e : Ending) (w' : World) : Prop := ∃ r : Nat, e = .returned (.int .i64 r) ∧ (0 < n → (r : Int) < n) ∧ (n ≤ 0 → r = 0) ∧ Only g w w' ∧ Dice B g w'
theorem LowSaid.mk {B g : Nat} {n r : Int} {w w' : World} (h0 : 0 ≤ r) (h1 : 0 < n → r < n) (h2 : n ≤ 0 → r = 0) (ho : Only g w w') (hd : Dice B g w') : LowSaid B g n w (.returned (.int .i64 r)) w' := by
  obtain ⟨k, rfl⟩ := Int.eq_ofNat_of_zero_le h0
  exact ⟨k, rfl, h1, fun h => by have := h2 h; omega, ho, hd⟩
set_option maxHeartbeats 400000 in
theorem l1Below_any (B g : Nat) (n : Int) (w : World) (hd : Dice B g w) (hn : I64 n) :
    Calls Tryz.prog 23 #[.pointer (some ⟨g, 0, none⟩), .int .i64 n] w (LowSaid B g n w) := by
  obtain ⟨hn1, hn2⟩ := hn
  by_cases h0 : n ≤ 0
  · go_enter Tryz.func23, Tryz.ntmps23
    go_wp2
    go_ret
    exact LowSaid.mk (Int.le_refl _) (fun h => by omega) (fun _ => rfl) (Only.refl _ _) hd
  by_cases h1 : n ≤ 256
  · go_enter Tryz.func23, Tryz.ntmps23
    go_wp2_with fail
    refine (l1Byte_any B g _ hd).mono ?_
    rintro e w1 ⟨r, rfl, hr0, hr1, ho, hd1⟩
    go_wp2_with fail
    go_ret
    exact LowSaid.mk (Int.emod_nonneg _ (by omega)) (fun _ => Int.emod_lt_of_pos _ (by omega)) (fun h => by omega) ho hd1
  · go_enter Tryz.func23, Tryz.ntmps23
    go_wp2_with fail
    refine (l1Byte_any B g _ hd).mono ?_
    rintro e w1 ⟨r1, rfl, hr0, hr1, ho1, hd1⟩
    go_wp2_with fail
    refine (l1Byte_any B g _ hd1).mono ?_
    rintro e w2 ⟨r2, rfl, hr2, hr3, ho2, hd2⟩
    go_wp2_with fail
    refine (l1Byte_any B g _ hd2).mono ?_
    rintro e w3 ⟨r3, rfl, hr4, hr5, ho3, hd3⟩
    go_wp2_with fail
    refine (l1Byte_any B g _ hd3).mono ?_
    rintro e w4 ⟨r4, rfl, hr6, hr7, ho4, hd4⟩
    go_wp2_with fail
    go_ret
    exact LowSaid.mk (Int.emod_nonneg _ (by omega)) (fun _ => Int.emod_lt_of_pos _ (by omega)) (fun h => by omega) (((ho1.trans ho2).trans ho3).trans ho4) hd4
def BoolSaid (B g : Nat) (w : World) (e : Ending) (w' : World) : Prop := ∃ b : Bool, e = .returned (.bool b) ∧ Only g w w' ∧ Dice B g w'
set_option maxHeartbeats 400000 in
theorem l1Once_any (B g : Nat) (n : Int) (w : World) (hd : Dice B g w) (hn : I64 n) :
    Calls Tryz.prog 21 #[.pointer (some ⟨g, 0, none⟩), .int .i64 n] w (BoolSaid B g w) := by
  go_enter Tryz.func21, Tryz.ntmps21
  go_wp2_with fail
  refine (l1Below_any B g n _ hd hn).mono ?_
  rintro e w1 ⟨r1, rfl, hr1, hr2, ho1, hd1⟩
  clear hr1 hr2
  go_wp2_with fail
  go_ret
  exact ⟨_, rfl, ho1, hd1⟩
def FromSaid (B g : Nat) (lo hi : Int) (w : World) (e : Ending) (w' : World) : Prop := ∃ r : Int, e = .returned (.int .i64 r) ∧ lo ≤ r ∧ r ≤ hi ∧ Only g w w' ∧ Dice B g w'
set_option maxHeartbeats 400000 in
theorem l1From_any (B g : Nat) (lo hi : Int) (w : World) (hd : Dice B g w) (h1 : -4611686018427387904 ≤ lo) (h2 : hi ≤ 4611686018427387904) (h3 : lo ≤ hi) (hx : hi - lo ≤ 4611686018427387904) :
    Calls Tryz.prog 44 #[.pointer (some ⟨g, 0, none⟩), .int .i64 lo, .int .i64 hi] w (FromSaid B g lo hi w) := by
  go_enter Tryz.func44, Tryz.ntmps44
  go_wp2_with fail
  refine (l1Below_any B g _ _ hd ⟨by omega, by omega⟩).mono ?_
  rintro e w1 ⟨r1, rfl, hr1, hr2, ho1, hd1⟩
  have hr3 : (r1 : Int) < hi - lo + 1 := hr1 (by omega)
  clear hr1 hr2
  go_wp2_with fail
  go_ret
  exact ⟨_, rfl, by omega, by omega, ho1, hd1⟩
theorem lit_cell (w : World) (xs : List Int) (g : Nat) (w1 : World) (ho : Keeps g (w.alloc (.cells (xs.map (Value.int .i64)).toArray 2)) w1) (hg : g < w.heap.size) (r : Nat) (hr : r < xs.length) :
    w1.cell? ⟨w.heap.size, r, none⟩ = some (.int .i64 (xs.getD r 0)) := by
  have h0 : (w.alloc (.cells (xs.map (Value.int .i64)).toArray 2)).cell? ⟨w.heap.size, r, none⟩ = some (.int .i64 (xs.getD r 0)) := by
    rw [cell_of_row _ _ r (xs.map (Value.int .i64)).toArray 2 (0, 0) (heap_alloc_new w _)]
    simp [List.getD, hr]
  exact ho.cell h0 (fun e => by have h2 : w.heap.size = g := Option.some.inj e; omega)
theorem Dice.below' {B g C : Nat} {w w' : World} (hd : Dice B g w) (hb : Below C w w') (hC : g < C) : Dice B g w' := by
  obtain ⟨hB, hg, ⟨ao, n, cap, bs, hby, h0, i, hi, h1, h, hh, h2⟩, hf⟩ := hd
  exact ⟨hB, Nat.lt_of_lt_of_le hg hb.size, ⟨ao, n, cap, bs, hby.below hb (by omega) (Nat.le_refl _), (hb.cell (p := ⟨g, 0, none⟩) hC).trans h0, i, hi, (hb.cell (p := ⟨g, 1, none⟩) hC).trans h1, h, hh, (hb.cell (p := ⟨g, 2, none⟩) hC).trans h2⟩,
    fun o => (hb.frozen (p := ⟨g, o, none⟩) hC).trans (hf o)⟩
theorem Dice.below {B g : Nat} {w w' : World} (hd : Dice B g w) (hb : Below w.heap.size w w') : Dice B g w' := hd.below' hb hd.hg
theorem Dice.alloc {B g : Nat} {w : World} (hd : Dice B g w) (o : Obj) : Dice B g (w.alloc o) := hd.below ((Below.refl _ _).alloc (Nat.le_refl _) o)
theorem all_getD {P : Int → Prop} {xs : List Int} (h : ∀ x ∈ xs, P x) {r : Nat} (hr : r < xs.length) : P (xs.getD r 0) := by
  have e : xs.getD r 0 = xs[r] := by simp [List.getD, hr]
  rw [e]
  exact h _ (List.getElem_mem _)
def NumSaid (B g : Nat) (w : World) (e : Ending) (w' : World) : Prop := ∃ r : Int, e = .returned (.int .i64 r) ∧ I64 r ∧ Keeps g w w' ∧ Dice B g w'
end Go.Proofs.YtccoljbnddfmpaaGreatDoor

namespace Go.Proofs.YtccoljbnddfmpaaGreatDoor
open Go.RowKit
def NewDice (w : World) (e : Ending) (w' : World) : Prop := e = .returned (.pointer (some ⟨w.heap.size, 0, none⟩)) ∧ Dice w.heap.size w.heap.size w' ∧ Below w.heap.size w w'
set_option maxHeartbeats 400000 in
theorem l1New_any (B : Nat) (ao : Option Addr) (n cap : Nat) (bs : List Int) (w : World) (hb : Bytes B w ao n cap bs) (hB : B ≤ w.heap.size) (hn : n ≤ 1099511627776) :
    Calls Tryz.prog 20 #[.slice ao n cap] w (NewDice w) := by
  go_enter Tryz.func20, Tryz.ntmps20
  go_wp2
  go_loop [3, 4] (fun sh si => ∃ (h : Int) (i : Nat), sh = .int .i64 h ∧ si = .int .i64 i ∧ i ≤ n ∧ 0 ≤ h ∧ h ≤ 1125899906842624) (fun _ si => n - (intOf si).toNat)
  case atStart => exact ⟨_, 0, rfl, rfl, Nat.zero_le _, by omega, by omega⟩
  case round =>
    obtain ⟨h, i, rfl, rfl, hi, hh0, hh1⟩ := hrel
    by_cases hlt : i < n
    · obtain ⟨b, off, rfl, hbB, hc, hr0, hr1⟩ := hb.at i hlt
      generalize bs.getD i 0 = y at hc hr0 hr1
      have e30 : ∀ n : Int, bits .and .i64 n 1073741823 = n % 1073741824 := i64_and30
      go_wp2
      go_round
      case rel => exact ⟨_, i + 1, rfl, by go_num, by omega, Int.emod_nonneg _ (by decide), by have := Int.emod_lt_of_pos (h * 293 + y + 11) (show (0 : Int) < 1073741824 by decide); omega⟩
      case measure => simp [intOf]; omega
    · go_wp2
      go_ret
      have hbel : Below w.heap.size w (w.alloc (Obj.cells #[.slice ao n cap, .int .i64 0, .int .i64 h] 77)) := (Below.refl _ _).alloc (Nat.le_refl _) _
      refine ⟨rfl, ⟨Nat.le_refl _, by simp, ⟨ao, n, cap, bs, hb.below hbel hB hB, by go_simp, 0, Nat.zero_le _, by go_simp, h, by unfold I64; omega, by go_simp⟩, fun o => by go_simp⟩, hbel⟩
end Go.Proofs.YtccoljbnddfmpaaGreatDoor

namespace Go.Proofs.YtccoljbnddfmpaaGreatDoor
open Go.RowKit
set_option maxHeartbeats 400000 in
theorem l1Odd_any (B g : Nat) (w : World) (hd : Dice B g w) :
    Calls Tryz.prog 69 #[.pointer (some ⟨g, 0, none⟩)] w (NumSaid B g w) := by
  have hg := hd.hg
  go_enter Tryz.func69, Tryz.ntmps69
  go_wp2_with fail
  refine (l1Below_any B g _ _ (hd.alloc _) ⟨by decide, by decide⟩).mono ?_
  rintro e w1 ⟨r1, rfl, hr1, hr2, ho1, hd1⟩
  have hr3 : (r1 : Int) < 10 := hr1 (by omega)
  clear hr1 hr2
  have hc := lit_cell w [-1, 0, 1, 2147483648, -2147483648, 1099511627776, 4611686018427387904, -4611686018427387904, 9223372036854775807, -9223372036854775808] g w1 (by exact ho1.keeps) hg r1 (by simp; omega)
  have hr : I64 (([-1, 0, 1, 2147483648, -2147483648, 1099511627776, 4611686018427387904, -4611686018427387904, 9223372036854775807, -9223372036854775808] : List Int).getD r1 0) :=
    all_getD (fun x hx => by simp at hx; unfold I64; omega) (by simp; omega)
  generalize ([-1, 0, 1, 2147483648, -2147483648, 1099511627776, 4611686018427387904, -4611686018427387904, 9223372036854775807, -9223372036854775808] : List Int).getD r1 0 = x at hc hr
  go_wp2_with fail
  go_ret
  exact ⟨_, rfl, hr, (Keeps.alloc g w _).trans ho1.keeps, hd1⟩
set_option maxHeartbeats 400000 in
theorem l1Min_any (a b : Int) (w : World) :
    Calls Tryz.prog 70 #[.int .i64 a, .int .i64 b] w fun e w' => e = .returned (.int .i64 (min a b)) ∧ w' = w := by
  by_cases h : a < b
  · go_enter Tryz.func70, Tryz.ntmps70
    go_wp2
    go_ret
    exact ⟨ret_int (by omega), rfl⟩
  · go_enter Tryz.func70, Tryz.ntmps70
    go_wp2
    go_ret
    exact ⟨ret_int (by omega), rfl⟩
set_option maxHeartbeats 400000 in
theorem l1Num_any (B g : Nat) (most : Int) (w : World) (hd : Dice B g w) (hm0 : 0 ≤ most) (hm1 : most ≤ 4611686018427387904) :
    Calls Tryz.prog 45 #[.pointer (some ⟨g, 0, none⟩), .int .i64 most] w (NumSaid B g w) := by
  go_enter Tryz.func45, Tryz.ntmps45
  go_wp2_with fail
  refine (l1Once_any B g _ _ hd ⟨by decide, by decide⟩).mono ?_
  rintro e w1 ⟨b1, rfl, ho1, hd1⟩
  rcases b1 with _ | _
  · go_wp2_with fail
    refine (l1Once_any B g _ _ hd1 ⟨by decide, by decide⟩).mono ?_
    rintro e w2 ⟨b2, rfl, ho2, hd2⟩
    rcases b2 with _ | _
    · go_wp2_with fail
      refine (l1Below_any B g _ _ hd2 ⟨by omega, by omega⟩).mono ?_
      rintro e w3 ⟨r3, rfl, hr3, hr4, ho3, hd3⟩
      have hr : I64 r3 := by unfold I64; have := hr3 (by omega); omega
      clear hr3 hr4
      go_wp2_with fail
      go_ret
      exact ⟨_, rfl, hr, ((ho1.trans ho2).trans ho3).keeps, hd3⟩
    · go_wp2_with fail
      refine (l1Min_any _ _ _).mono ?_
      rintro e w3 ⟨rfl, rfl⟩
      have hmn : 0 ≤ min most 4 ∧ min most 4 ≤ 4 := by omega
      generalize min most 4 = mn at hmn
      obtain ⟨hmn0, hmn1⟩ := hmn
      go_wp2_with fail
      refine (l1Below_any B g _ _ hd2 ⟨by omega, by omega⟩).mono ?_
      rintro e w3 ⟨r3, rfl, hr3, hr4, ho3, hd3⟩
      have hr : I64 r3 := by unfold I64; have := hr3 (by omega); omega
      clear hr3 hr4
      go_wp2_with fail
      go_ret
      exact ⟨_, rfl, hr, ((ho1.trans ho2).trans ho3).keeps, hd3⟩
  · go_wp2_with fail
    refine (l1Odd_any B g _ hd1).mono ?_
    rintro e w2 ⟨x, rfl, hx, ho2, hd2⟩
    go_wp2_with fail
    refine (l1Below_any B g _ _ (hd2.alloc _) ⟨by decide, by decide⟩).mono ?_
    rintro e w3 ⟨r1, rfl, hr1, hr2, ho3, hd3⟩
    have hr3 : (r1 : Int) < 4 := hr1 (by omega)
    clear hr1 hr2
    have hc := lit_cell w2 [-1, most, most + 1, x] g w3 (by exact ho3.keeps) hd2.hg r1 (by simp; omega)
    have hr : I64 (([-1, most, most + 1, x] : List Int).getD r1 0) :=
      all_getD (fun x hx' => by simp at hx'; unfold I64 at *; omega) (by simp; omega)
    generalize ([-1, most, most + 1, x] : List Int).getD r1 0 = y at hc hr
    go_wp2_with fail
    go_ret
    exact ⟨_, rfl, hr, ((ho1.keeps.trans ho2).trans (Keeps.alloc g _ _)).trans ho3.keeps, hd3⟩
end Go.Proofs.YtccoljbnddfmpaaGreatDoor

namespace Go.Proofs.YtccoljbnddfmpaaGreatDoor
open Go.RowKit
def EntSaid (B g : Nat) (w : World) (e : Ending) (w' : World) : Prop := ∃ o s a d : Int, e = .returned (.agg #[.int .i64 o, .int .i64 s, .int .i64 a, .int .i64 d]) ∧ I64 o ∧ I64 s ∧ I64 a ∧ I64 d ∧ Keeps g w w' ∧ Dice B g w'
theorem below_set4 {C r : Nat} {w w4 : World} (h : Below C w w4) (hr : C ≤ r) (x y z u : Value) :
    Below C w ((((w4.setCell ⟨r, 0, none⟩ x).setCell ⟨r, 1, none⟩ y).setCell ⟨r, 2, none⟩ z).setCell ⟨r, 3, none⟩ u) :=
  (((h.setCell (by exact hr) _).setCell (by exact hr) _).setCell (by exact hr) _).setCell (by exact hr) _
theorem stored4 {B g r : Nat} {w w4 : World} (hg : g < w.heap.size) (hr : w.heap.size ≤ r) (hk : Keeps g w w4) (hd : Dice B g w4) (x y z u : Value) :
    Keeps g w ((((w4.setCell ⟨r, 0, none⟩ x).setCell ⟨r, 1, none⟩ y).setCell ⟨r, 2, none⟩ z).setCell ⟨r, 3, none⟩ u) ∧ Dice B g ((((w4.setCell ⟨r, 0, none⟩ x).setCell ⟨r, 1, none⟩ y).setCell ⟨r, 2, none⟩ z).setCell ⟨r, 3, none⟩ u) := by
  have hb : Below w.heap.size w4 ((((w4.setCell ⟨r, 0, none⟩ x).setCell ⟨r, 1, none⟩ y).setCell ⟨r, 2, none⟩ z).setCell ⟨r, 3, none⟩ u) :=
    ((((Below.refl _ _).setCell (by exact hr) _).setCell (by exact hr) _).setCell (by exact hr) _).setCell (by exact hr) _
  exact ⟨hk.then_below hb, hd.below' hb hg⟩
theorem stored1 {B g r k : Nat} {w w4 : World} (hg : g < w.heap.size) (hr : w.heap.size ≤ r) (hk : Keeps g w w4) (hd : Dice B g w4) (x : Value) :
    Keeps g w (w4.setCell ⟨r, k, none⟩ x) ∧ Dice B g (w4.setCell ⟨r, k, none⟩ x) := by
  have hb : Below w.heap.size w4 (w4.setCell ⟨r, k, none⟩ x) := (Below.refl _ _).setCell (by exact hr) _
  exact ⟨hk.then_below hb, hd.below' hb hg⟩
set_option maxHeartbeats 1000000 in
set_option maxRecDepth 100000 in
theorem l3Draw_any (B g : Nat) (w : World) (hd : Dice B g w) :
    Calls Tryz.prog 68 #[.pointer (some ⟨g, 0, none⟩)] w (EntSaid B g w) := by
  go_enter Tryz.func68, Tryz.ntmps68
  go_wp2_with fail
  refine (l1Below_any B g 4 _ (hd.alloc _) ⟨by decide, by decide⟩).mono ?_
  rintro e w1 ⟨r1, rfl, hr1, -, ho1, hd1⟩
  have hr1 : (r1 : Int) < 4 := hr1 (by omega)
  go_wp2_with fail
  refine (l1Below_any B g 5 _ hd1 ⟨by decide, by decide⟩).mono ?_
  rintro e w2 ⟨r2, rfl, hr2, -, ho2, hd2⟩
  have hr2 : (r2 : Int) < 5 := hr2 (by omega)
  go_wp2_with fail
  refine (l1Below_any B g 300 _ hd2 ⟨by decide, by decide⟩).mono ?_
  rintro e w3 ⟨r3, rfl, hr3, -, ho3, hd3⟩
  have hr3 : (r3 : Int) < 300 := hr3 (by omega)
  go_wp2_with fail
  refine (l1Below_any B g 20 _ hd3 ⟨by decide, by decide⟩).mono ?_
  rintro e w4 ⟨r4, rfl, hr4, -, ho4, hd4⟩
  have hr4 : (r4 : Int) < 20 := hr4 (by omega)
  have hk : Keeps g (w.alloc (.cells #[.int .i64 0, .int .i64 0, .int .i64 0, .int .i64 0] 47)) w4 := (((ho1.trans ho2).trans ho3).trans ho4).keeps
  have hg := hd.hg
  have hB := (Blk.new w 47 #[.int .i64 0, .int .i64 0, .int .i64 0, .int .i64 0]).keeps hk (by omega)
  have c0 := hB.cell 0; have c1 := hB.cell 1; have c2 := hB.cell 2; have c3 := hB.cell 3
  have f0 := hB.frozen 0; have f1 := hB.frozen 1; have f2 := hB.frozen 2; have f3 := hB.frozen 3
  clear ho1 ho2 ho3 ho4 hd1 hd2 hd3
  go_wp2_with fail
  refine bodyPost_ret (v := .agg #[.int .i64 r1, .int .i64 r2, .int .i64 (1 + r3), .int .i64 (1 + r4)]) (by simp [results, Tryz.results68, go_sem, c0, c1, c2, c3]) rfl ?_
  exact ⟨_, _, _, _, rfl, by unfold I64; omega, by unfold I64; omega, by unfold I64; omega, by unfold I64; omega, stored4 hg (Nat.le_refl _) ((Keeps.alloc _ _ _).trans hk) hd4 _ _ _ _⟩
set_option maxHeartbeats 1000000 in
set_option maxRecDepth 100000 in
theorem l3DrawAny_any (B g : Nat) (w : World) (hd : Dice B g w) :
    Calls Tryz.prog 41 #[.pointer (some ⟨g, 0, none⟩)] w (EntSaid B g w) := by
  have hg := hd.hg
  go_enter Tryz.func41, Tryz.ntmps41
  go_wp2_with fail
  refine (l3Draw_any B g _ (hd.alloc _)).mono ?_
  rintro e w1 ⟨o, s, a, d, rfl, ho, hs, ha, hdd, hk1, hd1⟩
  have hB1 := (Blk.new w 47 #[.int .i64 0, .int .i64 0, .int .i64 0, .int .i64 0]).keeps hk1 (by omega)
  have hlt1 := hB1.lt
  have hk01 := (Keeps.alloc g w (.cells #[.int .i64 0, .int .i64 0, .int .i64 0, .int .i64 0] 47)).trans hk1
  go_wp2_with fail
  refine (l1Once_any B g 5 _ (hd1.alloc _) ⟨by decide, by decide⟩).mono ?_
  rintro e w2 ⟨b2, rfl, ho2, hd2⟩
  have hE2 := (Blk.new w1 47 #[.int .i64 o, .int .i64 s, .int .i64 a, .int .i64 d]).keeps ho2.keeps (by omega)
  have hB2 := (hB1.alloc (.cells #[.int .i64 o, .int .i64 s, .int .i64 a, .int .i64 d] 47)).keeps ho2.keeps (by omega)
  have hk02 := (hk01.trans (Keeps.alloc g w1 (.cells #[.int .i64 o, .int .i64 s, .int .i64 a, .int .i64 d] 47))).trans ho2.keeps
  clear hk1 hd1 hB1 ho2 hk01
  have hne : w1.heap.size ≠ w.heap.size := by omega
  have hne' : w.heap.size ≠ w1.heap.size := by omega
  rcases b2 with _ | _
  · have c0 := hB2.cell 0; have c1 := hB2.cell 1; have c2 := hB2.cell 2; have c3 := hB2.cell 3
    have f0 := hB2.frozen 0; have f1 := hB2.frozen 1; have f2 := hB2.frozen 2; have f3 := hB2.frozen 3
    have e0 := hE2.cell 0; have e1 := hE2.cell 1; have e2 := hE2.cell 2; have e3 := hE2.cell 3
    go_wp2_with fail
    refine bodyPost_ret (v := .agg #[.int .i64 o, .int .i64 s, .int .i64 a, .int .i64 d]) (by simp [results, Tryz.results41, go_sem, c0, c1, c2, c3]) rfl ?_
    exact ⟨_, _, _, _, rfl, ho, hs, ha, hdd, stored4 hg (Nat.le_refl _) hk02 hd2 _ _ _ _⟩
  · go_wp2_with fail
    refine (l1Below_any B g 4 _ hd2 ⟨by decide, by decide⟩).mono ?_
    rintro e w3 ⟨r, rfl, hr, -, ho3, hd3⟩
    have hr : (r : Int) < 4 := hr (by omega)
    have hE3 := hE2.keeps ho3.keeps (by omega)
    have hB3 := hB2.keeps ho3.keeps (by omega)
    have hk03 := hk02.trans ho3.keeps
    clear hE2 hB2 hk02 ho3 hd2
    have hr' : r = 0 ∨ r = 1 ∨ r = 2 ∨ r = 3 := by omega
    rcases hr' with rfl | rfl | rfl | rfl
    · go_wp2_with fail
      refine (l1From_any B g (-1) 4 _ hd3 (by decide) (by decide) (by decide) (by decide)).mono ?_
      rintro e w4 ⟨x, rfl, hx0, hx1, ho4, hd4⟩
      have hx : I64 x := by unfold I64; omega
      have ho4 := ho4.keeps
      have hE4 := hE3.keeps ho4 (by omega)
      have hB4 := hB3.keeps ho4 (by omega)
      have hk04 := hk03.trans ho4
      clear hE3 hB3 hk03 ho4 hd3
      have c0 := hB4.cell 0; have c1 := hB4.cell 1; have c2 := hB4.cell 2; have c3 := hB4.cell 3
      have f0 := hB4.frozen 0; have f1 := hB4.frozen 1; have f2 := hB4.frozen 2; have f3 := hB4.frozen 3
      have e0 := hE4.cell 0; have e1 := hE4.cell 1; have e2 := hE4.cell 2; have e3 := hE4.cell 3
      have n0 := hE4.frozen 0; have n1 := hE4.frozen 1; have n2 := hE4.frozen 2; have n3 := hE4.frozen 3
      go_wp2_with fail
      refine bodyPost_ret (v := .agg #[.int .i64 x, .int .i64 s, .int .i64 a, .int .i64 d]) (by simp [results, Tryz.results41, go_sem, c0, c1, c2, c3]) rfl ?_
      have hst := stored1 (k := 0) hg (Nat.le_of_lt hlt1) hk04 hd4 (.int .i64 x)
      exact ⟨_, _, _, _, rfl, hx, hs, ha, hdd, stored4 hg (Nat.le_refl _) hst.1 hst.2 _ _ _ _⟩
    · go_wp2_with fail
      refine (l1From_any B g (-1) 5 _ hd3 (by decide) (by decide) (by decide) (by decide)).mono ?_
      rintro e w4 ⟨x, rfl, hx0, hx1, ho4, hd4⟩
      have hx : I64 x := by unfold I64; omega
      have ho4 := ho4.keeps
      have hE4 := hE3.keeps ho4 (by omega)
      have hB4 := hB3.keeps ho4 (by omega)
      have hk04 := hk03.trans ho4
      clear hE3 hB3 hk03 ho4 hd3
      have c0 := hB4.cell 0; have c1 := hB4.cell 1; have c2 := hB4.cell 2; have c3 := hB4.cell 3
      have f0 := hB4.frozen 0; have f1 := hB4.frozen 1; have f2 := hB4.frozen 2; have f3 := hB4.frozen 3
      have e0 := hE4.cell 0; have e1 := hE4.cell 1; have e2 := hE4.cell 2; have e3 := hE4.cell 3
      have n0 := hE4.frozen 0; have n1 := hE4.frozen 1; have n2 := hE4.frozen 2; have n3 := hE4.frozen 3
      go_wp2_with fail
      refine bodyPost_ret (v := .agg #[.int .i64 o, .int .i64 x, .int .i64 a, .int .i64 d]) (by simp [results, Tryz.results41, go_sem, c0, c1, c2, c3]) rfl ?_
      have hst := stored1 (k := 1) hg (Nat.le_of_lt hlt1) hk04 hd4 (.int .i64 x)
      exact ⟨_, _, _, _, rfl, ho, hx, ha, hdd, stored4 hg (Nat.le_refl _) hst.1 hst.2 _ _ _ _⟩
    · go_wp2_with fail
      refine (l1Num_any B g 1000000 _ hd3 (by decide) (by decide)).mono ?_
      rintro e w4 ⟨x, rfl, hx, ho4, hd4⟩
      have hE4 := hE3.keeps ho4 (by omega)
      have hB4 := hB3.keeps ho4 (by omega)
      have hk04 := hk03.trans ho4
      clear hE3 hB3 hk03 ho4 hd3
      have c0 := hB4.cell 0; have c1 := hB4.cell 1; have c2 := hB4.cell 2; have c3 := hB4.cell 3
      have f0 := hB4.frozen 0; have f1 := hB4.frozen 1; have f2 := hB4.frozen 2; have f3 := hB4.frozen 3
      have e0 := hE4.cell 0; have e1 := hE4.cell 1; have e2 := hE4.cell 2; have e3 := hE4.cell 3
      have n0 := hE4.frozen 0; have n1 := hE4.frozen 1; have n2 := hE4.frozen 2; have n3 := hE4.frozen 3
      go_wp2_with fail
      refine bodyPost_ret (v := .agg #[.int .i64 o, .int .i64 s, .int .i64 x, .int .i64 d]) (by simp [results, Tryz.results41, go_sem, c0, c1, c2, c3]) rfl ?_
      have hst := stored1 (k := 2) hg (Nat.le_of_lt hlt1) hk04 hd4 (.int .i64 x)
      exact ⟨_, _, _, _, rfl, ho, hs, hx, hdd, stored4 hg (Nat.le_refl _) hst.1 hst.2 _ _ _ _⟩
    · go_wp2_with fail
      refine (l1Num_any B g 100000 _ hd3 (by decide) (by decide)).mono ?_
      rintro e w4 ⟨x, rfl, hx, ho4, hd4⟩
      have hE4 := hE3.keeps ho4 (by omega)
      have hB4 := hB3.keeps ho4 (by omega)
      have hk04 := hk03.trans ho4
      clear hE3 hB3 hk03 ho4 hd3
      have c0 := hB4.cell 0; have c1 := hB4.cell 1; have c2 := hB4.cell 2; have c3 := hB4.cell 3
      have f0 := hB4.frozen 0; have f1 := hB4.frozen 1; have f2 := hB4.frozen 2; have f3 := hB4.frozen 3
      have e0 := hE4.cell 0; have e1 := hE4.cell 1; have e2 := hE4.cell 2; have e3 := hE4.cell 3
      have n0 := hE4.frozen 0; have n1 := hE4.frozen 1; have n2 := hE4.frozen 2; have n3 := hE4.frozen 3
      go_wp2_with fail
      refine bodyPost_ret (v := .agg #[.int .i64 o, .int .i64 s, .int .i64 a, .int .i64 x]) (by simp [results, Tryz.results41, go_sem, c0, c1, c2, c3]) rfl ?_
      have hst := stored1 (k := 3) hg (Nat.le_of_lt hlt1) hk04 hd4 (.int .i64 x)
      exact ⟨_, _, _, _, rfl, ho, hs, ha, hx, stored4 hg (Nat.le_refl _) hst.1 hst.2 _ _ _ _⟩
end Go.Proofs.YtccoljbnddfmpaaGreatDoor
