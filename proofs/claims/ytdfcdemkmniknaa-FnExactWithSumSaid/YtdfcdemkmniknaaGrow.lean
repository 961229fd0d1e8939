/-
  append(nil, make([]int64, n)...) as the walk meets it (the length in place of the slice), and slices.Grow of nil.
-/
import Derived.Test.YtdfcdemkmniknaaAppend
namespace Go.Proofs.Ytdfcdemkmniknaa
open Go.RowKit

theorem run_append_nil_make {P : Program} (w : World) (t u ty e : TypeId) (i : TypeInfo) (z : Value) (ht : P.underlying t = some (.slice e)) (hu : P.underlying u = some (.int .i64)) (hi : P.info? e = some i) (hz : i.zero = some z) (hs : i.size = 1)
    (n : Nat) (h0 : 0 < n) (h63 : n ≤ 1099511627776) (h48 : n * i.bytes ≤ 281474976710656) :
    (Builtin.append_ #[t, u] ty #[.slice none 0 0, .int .i64 n]).run P w =
      .ok (.slice (some ⟨w.heap.size, 0, none⟩) n (grownCap w n 0 e)) (w.drew.alloc (.cells (Builtin.zeroCells z.cells n ++ Builtin.zeroCells z.cells (grownCap w n 0 e - n)) e)) := by
  have hw : IntKind.i64.wrap (n : Int) = n := by rw [IntKind.wrap_i64]; omega
  have hn : n ≠ 0 := by omega
  have h1 : ¬ ((n : Int) < 0) := by omega
  have h2 : ¬ (281474976710656 < (n : Int) * (i.bytes : Int)) := by
    have : ((n * i.bytes : Nat) : Int) ≤ 281474976710656 := by omega
    rw [Int.natCast_mul] at this
    omega
  have h63' : ¬ (9223372036854775807 < (n : Int)) := by omega
  have h48' : ¬ (281474976710656 < Builtin.nextslicecap n 0 * i.bytes) := by rw [nextslicecap_zero h0]; omega
  have ha : ∀ w : World, (asInt (Value.int .i64 n)).run P w = .ok (n : Int) w := fun _ => rfl
  simp [Builtin.append_, ha, run_underlying ht, run_underlying hu, sizeOf, typeInfo, zeroValue, hi, hz, hs, hw, h1, h2, Builtin.lenOf, hn, h63', h48', Question.forced, run_firstCells_none, newRow, grownCap]

theorem under_int : Try.prog.underlying 3 = some (.int .i64) := by kernel_rfl

theorem wpList_append_nil_make {ops : Array Oper} {rest : List Oper} {o : Oper} {a : Act} {Q : Exit → Act → World → Prop} {w : World} (hgd : o.guard = none) (s x : Operand)
    (ho : o.op = .call { callee := .builtin .append, args := #[s, x], argTypes := #[24, 3] })
    (n : Nat) (hs : a.eval s = .slice none 0 0) (hx : a.eval x = .int .i64 n) (h0 : 0 < n) (hn : n ≤ 1099511627776)
    (hK : ∀ cap w', n ≤ cap → cap ≤ maxLen → Own w.heap.size w' (.slice (some ⟨w.heap.size, 0, none⟩) 0 cap) [] → Below w.heap.size w w' → wpList Try.prog ops Q rest (a.put o.dst (.slice (some ⟨w.heap.size, 0, none⟩) n cap)) w') :
    wpList Try.prog ops Q (o :: rest) a w := by
  obtain ⟨i0, hi, hz0, hz1, hz2⟩ := info_parts info64
  have hr := run_append_nil_make (P := Try.prog) w 24 3 o.type 2 i0 (.int .i64 0) Try.underlying24 under_int hi hz0 hz1 n h0 hn (by rw [hz2]; omega)
  refine wpList_plain hgd fun K hKK => ?_
  unfold Oper.wp
  simp [execOp, ho, resolve, invoke, builtin, hs, hx, hr, Result.andThen]
  refine hKK _ _ (hK _ _ (grownCap_ge _ _ _ _) (grownCap_le_maxLen _ _ _ _ (by unfold maxLen; omega)) ?_ ?_)
  · unfold Own
    refine ⟨rfl, .inr ⟨w.heap.size, _, _, rfl, Nat.le_refl _, heap_alloc_new _ _, Nat.zero_le _, grownCap_le_maxLen _ _ _ _ (by unfold maxLen; omega), ?_, by simp⟩⟩
    have := grownCap_ge w n 0 2
    have hz : (Value.int IntKind.i64 0).cells.size = 1 := rfl
    rw [Array.size_append, size_zeroCells, size_zeroCells, hz]
    omega
  · exact ((Below.refl _ _).drew).alloc (Nat.le_refl _) _

set_option maxHeartbeats 400000 in
theorem slicesGrow_any (n : Nat) (hn : n ≤ 1099511627776) (w : World) :
    Calls Try.prog 38 #[.slice none 0 0, .int .i64 n] w (NewInts [] w) := by
  by_cases h0 : n = 0
  · subst h0
    go_enter Try.func38, Try.ntmps38
    go_wp2
    go_ret
    exact ⟨_, rfl, own_nil _ _, Below.refl _ _⟩
  · have h1 : 0 < n := by omega
    have h2 : decide ((n : Int) < 0) = false := decide_eq_false (by omega)
    clear h0
    go_enter Try.func38, Try.ntmps38
    go_wp2_with (at_builtin; refine wpList_append_nil_make rfl _ _ rfl n rfl rfl h1 hn ?_; intro cap w' hc1 hc2 hown hbel)
    go_ret
    exact ⟨_, rfl, hown, hbel⟩

/-- A slice of numbers, as a part of a list of slices. -/
structure Sl where
  ao : Option Addr
  n : Nat
  cap : Nat
  xs : List Int
def Sl.val (p : Sl) : Value := .slice p.ao p.n p.cap
def Sl.ok (B : Nat) (w : World) (p : Sl) : Prop := Ints B w p.ao p.n p.cap p.xs ∧ (p.ao = none → p.cap = 0)
def flat (ps : List Sl) : List Int := ps.flatMap Sl.xs
theorem flat_snoc (ps : List Sl) (k : Nat) (h : k < ps.length) : flat (ps.take (k + 1)) = flat (ps.take k) ++ (ps[k]).xs := by
  unfold flat
  rw [List.take_succ_eq_append_getElem h, List.flatMap_append]
  simp
theorem flat_take_len (ps : List Sl) (k : Nat) : (flat (ps.take k)).length ≤ (flat ps).length := by
  have : flat ps = flat (ps.take k) ++ flat (ps.drop k) := by
    unfold flat; rw [← List.flatMap_append, List.take_append_drop]
  rw [this, List.length_append]
  omega

set_option maxHeartbeats 400000 in
set_option maxRecDepth 100000 in
theorem slicesConcat_any (B g : Nat) (ps : List Sl) (w : World) (hg : g < w.heap.size) (hB : B ≤ w.heap.size) (hok : ∀ p ∈ ps, p.ok B w)
    (hcell : ∀ j (h : j < ps.length), w.cell? ⟨g, j, none⟩ = some (ps[j]).val) (htot : (flat ps).length ≤ 1099511627776) (hps : ps.length ≤ 1099511627776) :
    Calls Try.prog 26 #[.slice (some ⟨g, 0, none⟩) ps.length ps.length] w (NewInts (flat ps) w) := by
  have HTOT := Lib.hid htot; clear htot
  have HCELL := Lib.hid hcell; clear hcell
  have HOK := Lib.hid hok; clear hok
  obtain ⟨m, hm⟩ : ∃ m, m = ps.length := ⟨_, rfl⟩
  rw [← hm]
  rw [← hm] at hps
  have HM := Lib.hid hm; clear hm
  go_enter Try.func26, Try.ntmps26
  go_wp2
  go_loop [3, 11] (fun st si => ∃ (k t : Nat), k ≤ m ∧ si = .int .i64 k ∧ st = .int .i64 t ∧ Hid (t = (flat (ps.take k)).length) ∧ t ≤ 1099511627776) (fun _ si => m - (intOf si).toNat)
  case atStart => exact ⟨0, 0, Nat.zero_le _, rfl, rfl, rfl, by omega⟩
  case round =>
    obtain ⟨k, t, hk, rfl, rfl, ht, ht1⟩ := hrel
    by_cases hlt : k < m
    · have hkl : k < ps.length := by have := HM.out; omega
      have g1 := HCELL.out k hkl
      have hp := HOK.out _ (List.getElem_mem hkl)
      have hf := flat_snoc ps k hkl
      have hfl := flat_take_len ps (k + 1)
      rw [hf, List.length_append] at hfl
      generalize ps[k] = p at g1 hp hf hfl
      obtain ⟨ao, n, cap, xs⟩ := p
      obtain ⟨hi, -⟩ := hp
      have hl : xs.length = n := hi.hlen
      have hn2 : n ≤ 1099511627776 := by have := HTOT.out; have : ({ao := ao, n := n, cap := cap, xs := xs} : Sl).xs.length = n := hl; omega
      have ht2 : t + n ≤ 1099511627776 := by have := HTOT.out; have h2 : ({ao := ao, n := n, cap := cap, xs := xs} : Sl).xs.length = n := hl; have := ht.out; omega
      have ht3 : Hid (t + n = (flat (ps.take (k + 1))).length) := by
        refine Lib.hid ?_
        rw [hf, List.length_append, ← ht.out]
        have h2 : ({ao := ao, n := n, cap := cap, xs := xs} : Sl).xs.length = n := hl
        omega
      simp only [Sl.val] at g1
      clear hf hfl hl hi
      go_wp2
      go_round
      case rel => exact ⟨k + 1, t + n, by omega, by go_num, by go_num, ht3, ht2⟩
      case measure => simp [intOf]; omega
    · have ek : k = m := by omega
      subst ek
      have ht' : t = (flat ps).length := by rw [ht.out, List.take_of_length_le (by have := HM.out; omega)]
      clear ht
      have HT := Lib.hid ht'; clear ht'
      go_wp2_with fail
      refine (slicesGrow_any t ht1 _).mono ?_
      rintro e w1 ⟨v, rfl, hown, hb1⟩
      have hs1 := hb1.size
      go_wp2_with fail
      go_loopw [6, 27] (fun sv si wr => ∃ (j : Nat), j ≤ k ∧ si = .int .i64 j ∧ Own w.heap.size wr sv (flat (ps.take j)) ∧ Below w.heap.size w wr) (fun _ si _ => k - (intOf si).toNat)
      case atStart => exact ⟨0, Nat.zero_le _, rfl, hown, hb1⟩
      case round =>
        obtain ⟨j, hj, rfl, hown, hbel⟩ := hrel
        have hsz := hbel.size
        by_cases hlt : j < k
        · have hkl : j < ps.length := by have := HM.out; omega
          have g1 : wr.cell? ⟨g, j, none⟩ = some (ps[j]).val := (hbel.cell (p := ⟨g, j, none⟩) hg).trans (HCELL.out j hkl)
          have hp := HOK.out _ (List.getElem_mem hkl)
          have hf := flat_snoc ps j hkl
          have hfl := flat_take_len ps (j + 1)
          rw [hf, List.length_append] at hfl
          generalize ps[j] = p at g1 hp hf hfl
          obtain ⟨ao, n, cap, xs⟩ := p
          obtain ⟨hi, hz⟩ := hp
          have hi2 : Ints B wr ao n cap xs := hi.below hbel hB (Nat.le_refl _)
          have hz2 : ao = none → cap = 0 := hz
          have hl : xs.length = n := hi.hlen
          have hlen : (flat (ps.take j)).length + n ≤ 1099511627776 := by
            have := HTOT.out; have h2 : ({ao := ao, n := n, cap := cap, xs := xs} : Sl).xs.length = n := hl; omega
          have hf2 : flat (ps.take (j + 1)) = flat (ps.take j) ++ xs := hf
          have HF := Lib.hid hf2
          have HZ := Lib.hid hz2
          have HL := Lib.hid hlen
          simp only [Sl.val] at g1
          clear hf hf2 hfl hl hi hz hz2 hlen
          go_wp2_with (at_builtin; refine append_all rfl _ _ rfl w.heap.size B _ (flat (ps.take j)) xs ao n cap rfl rfl hi2 HZ.out hown hsz HL.out ?_; intro vA wA hownA hbA)
          go_roundw
          case rel => exact ⟨j + 1, by omega, by go_num, by rw [HF.out]; exact hownA, hbel.trans hbA⟩
          case measure => simp [intOf]; omega
        · go_wp2
          go_ret
          refine ⟨_, rfl, ?_, hbel⟩
          rw [List.take_of_length_le (by have := HM.out; omega)] at hown
          exact hown

theorem Sl.ok.alloc {B : Nat} {w : World} {p : Sl} (h : p.ok B w) (hB : B ≤ w.heap.size) (o : Obj) : p.ok B (w.alloc o) :=
  ⟨h.1.below ((Below.refl _ _).alloc hB o) (Nat.le_refl _) (Nat.le_refl _), h.2⟩

theorem concat2_any (B : Nat) (a1 a2 : Option Addr) (n1 c1 n2 c2 : Nat) (xs ys : List Int) (w : World) (hB : B ≤ w.heap.size) (h1 : Ints B w a1 n1 c1 xs) (z1 : a1 = none → c1 = 0) (h2 : Ints B w a2 n2 c2 ys) (z2 : a2 = none → c2 = 0)
    (hl : xs.length + ys.length ≤ 1099511627776) :
    Calls Try.prog 26 #[.slice (some ⟨w.heap.size, 0, none⟩) 2 2] (w.alloc (.cells #[.slice a1 n1 c1, .slice a2 n2 c2] 24)) (NewInts (xs ++ ys) w) := by
  have p1 : (Sl.mk a1 n1 c1 xs).ok B (w.alloc (.cells #[.slice a1 n1 c1, .slice a2 n2 c2] 24)) := Sl.ok.alloc ⟨h1, z1⟩ hB _
  have p2 : (Sl.mk a2 n2 c2 ys).ok B (w.alloc (.cells #[.slice a1 n1 c1, .slice a2 n2 c2] 24)) := Sl.ok.alloc ⟨h2, z2⟩ hB _
  refine (slicesConcat_any B w.heap.size [⟨a1, n1, c1, xs⟩, ⟨a2, n2, c2, ys⟩] _ (by simp) (by simp; omega) ?_ ?_ (by simp [flat]; omega) (by simp)).mono ?_
  · intro p hp
    simp only [List.mem_cons, List.not_mem_nil, or_false] at hp
    rcases hp with rfl | rfl
    · exact p1
    · exact p2
  · intro j hj
    rw [cell_of_row _ _ _ _ _ _ (heap_alloc_new w _)]
    match j, hj with
    | 0, _ => rfl
    | 1, _ => rfl
  · rintro e w' ⟨v, he, hown, hb⟩
    refine ⟨v, he, ?_, ((Below.refl _ _).alloc (Nat.le_refl _) _).trans (hb.mono (by simp))⟩
    have := hown.mono (base' := w.heap.size) (by simp)
    simpa [flat] using this

theorem concat1_any (B : Nat) (a1 : Option Addr) (n1 c1 : Nat) (xs : List Int) (w : World) (hB : B ≤ w.heap.size) (h1 : Ints B w a1 n1 c1 xs) (z1 : a1 = none → c1 = 0) (hl : xs.length ≤ 1099511627776) :
    Calls Try.prog 26 #[.slice (some ⟨w.heap.size, 0, none⟩) 1 1] (w.alloc (.cells #[.slice a1 n1 c1] 24)) (NewInts xs w) := by
  have p1 : (Sl.mk a1 n1 c1 xs).ok B (w.alloc (.cells #[.slice a1 n1 c1] 24)) := Sl.ok.alloc ⟨h1, z1⟩ hB _
  refine (slicesConcat_any B w.heap.size [⟨a1, n1, c1, xs⟩] _ (by simp) (by simp; omega) ?_ ?_ (by simp [flat]; omega) (by simp)).mono ?_
  · intro p hp
    simp only [List.mem_cons, List.not_mem_nil, or_false] at hp
    subst hp
    exact p1
  · intro j hj
    rw [cell_of_row _ _ _ _ _ _ (heap_alloc_new w _)]
    match j, hj with
    | 0, _ => rfl
  · rintro e w' ⟨v, he, hown, hb⟩
    refine ⟨v, he, ?_, ((Below.refl _ _).alloc (Nat.le_refl _) _).trans (hb.mono (by simp))⟩
    have := hown.mono (base' := w.heap.size) (by simp)
    simpa [flat] using this

end Go.Proofs.Ytdfcdemkmniknaa
