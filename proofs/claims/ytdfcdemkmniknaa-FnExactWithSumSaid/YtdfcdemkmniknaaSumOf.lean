/-
  impl.SumOf and spec.SumOf.
-/
import Derived.Test.YtdfcdemkmniknaaTable
import Derived.Test.YtdfcdemkmniknaaBits1
import Derived.Test.YtdfcdemkmniknaaBytesOk
namespace Go.Proofs.Ytdfcdemkmniknaa
open Go.RowKit

/-- A whole array into a block, the world under a name. -/
theorem wpList_store_arr {ops : Array Oper} {rest : List Oper} {o : Oper} {a : Act} {w : World} {Q : Exit → Act → World → Prop} (hgd : o.guard = none) (x y : Operand) (ho : o.op = .store 44 x y)
    (g : Nat) (cells old : List Value) (hx : a.eval x = .pointer (some ⟨g, 0, none⟩)) (hy : a.eval y = .agg cells.toArray) (hg : Arr w g old) (hc : cells.length = 256) (hold : old.length = 256) (h1 : ∀ v ∈ cells, v.oneCell' = true)
    (h : ∀ w2, Arr w2 g cells → (∀ B, B ≤ g → Below B w w2) → wpList Try.prog ops Q rest (a.put o.dst undef) w2) : wpList Try.prog ops Q (o :: rest) a w := by
  obtain ⟨hz, hsz⟩ := zero_of_info infoArr
  refine wpList_store_row hgd 44 x y ho g cells.toArray hx hy 44 old.toArray hg (by rw [List.size_toArray, hc]; exact hsz) (by rw [List.size_toArray, List.size_toArray, hc, hold]) ?_ ?_
  · rw [Array.all_eq_true_iff_forall_mem]
    intro v hv
    exact h1 v (List.mem_toArray.1 hv)
  · exact h _ (setRow_heap _ _ _ _ _ _ hg) (fun B hB => ⟨rfl, rfl, rfl, by rw [size_setRow]; exact Nat.le_refl _, fun k hk => setRow_other _ _ _ _ (by omega)⟩)

theorem shr8 (s : Nat) (h : Nat) (hs : s < 4294967296) (hh : h < 4294967296) : bits .xor .i64 ((s : Int) / 256) (h : Int) = ((s / 256 ^^^ h : Nat) : Int) := by
  have e : ((s : Int) / 256) = ((s / 256 : Nat) : Int) := by omega
  rw [e]
  exact i64_xor_nat _ _ (by omega) (by omega)

set_option maxHeartbeats 400000 in
set_option maxRecDepth 100000 in
theorem implSumOf_any (B : Nat) (ao : Option Addr) (n cap : Nat) (xs : List Int) (w : World) (hx : Ints B w ao n cap xs) (hB : B ≤ w.heap.size) :
    Calls Try.prog 16 #[.slice ao n cap] w fun e w' => e = .returned (.int .i64 (sumOf xs)) ∧ Below w.heap.size w w' := by
  have hx0 := hx.hlen; have hx1 := hx.hcap; have hx2 := hx.hmax
  unfold maxLen at hx2
  have HX := Lib.hid hx0
  clear hx0
  obtain ⟨hz, hsz⟩ := zero_of_info infoArr
  by_cases hok : bytesOk xs = true
  · have hmem := bytesOk_mem hok
    have hsum : sumOf xs = (sumN xs : Int) := by unfold sumOf; rw [if_pos hok]
    rw [hsum]; clear hsum
    go_enter Try.func16, Try.ntmps16
    go_wp2_with fail
    refine (implBytesOk_any _ _ _ _ xs _ hx).mono ?_
    rintro e w1 ⟨rfl, rfl⟩
    rw [hok]
    go_wp2_with fail
    refine (sumTable_any _).mono ?_
    rintro e w2 ⟨rfl, hb2⟩
    have hs2 := hb2.size
    have hA : Arr (w2.alloc (.cells (Array.replicate 256 (.int .i64 0)) 44)) w2.heap.size (tab 0) := by
      unfold Arr; rw [heap_alloc_new, tab0]
    go_wp2_with (refine wpList_store_arr rfl _ _ rfl w2.heap.size (tab 256) (tab 0) rfl rfl hA (tab_len (by omega)) (tab_len (by omega)) tab_one ?_; intro w3 hA3 hb3)
    have hb13 : Below w1.heap.size w1 w3 := (hb2.trans ((Below.refl _ _).alloc hs2 _)).trans (hb3 _ hs2)
    have hx3 := hx.below hb13 hB (Nat.le_refl _)
    clear hz hA hb3 hb2
    have HMEM := Lib.hid hmem; clear hmem
    have HOK := Lib.hid hok; clear hok
    go_loop [4, 13] (fun ss si => ∃ (s k : Nat), k ≤ n ∧ si = .int .i64 k ∧ ss = .int .i64 s ∧ s < 4294967296 ∧ Hid (s = crc 4294967295 (xs.take k))) (fun _ si => n - (intOf si).toNat)
    case atStart => exact ⟨4294967295, 0, Nat.zero_le _, rfl, rfl, by omega, rfl⟩
    case round =>
      obtain ⟨s, k, hk, rfl, rfl, hs, hh⟩ := hrel
      by_cases hlt : k < n
      · obtain ⟨b, off, rfl, hbB, hc⟩ := hx3.at k hlt
        have g1 := hc k hlt
        clear hc
        have hsn := crc_snoc 4294967295 xs k (by have := HX.out; omega)
        rw [← hh.out] at hsn
        have hxm : 0 ≤ xs.getD k 0 ∧ xs.getD k 0 ≤ 255 := by
          have := HX.out
          have e : xs.getD k 0 = xs[k] := by simp [List.getD, show k < xs.length by omega]
          rw [e]; exact HMEM.out.2 _ (List.getElem_mem _)
        generalize xs.getD k 0 = x at g1 hsn hxm
        have hst := step_table (s := s) hxm
        have hsl := step_lt hs hxm
        obtain ⟨hx0, hx1⟩ := hxm
        obtain ⟨y, rfl⟩ := Int.eq_ofNat_of_zero_le hx0
        have e1 := i64_xor_nat s y (by omega) (by omega)
        rw [Int.toNat_natCast] at hst
        generalize s ^^^ y = m at e1 hst
        have e2 : bits .and .i64 (m : Int) 255 = ((m % 256 : Nat) : Int) := by rw [i64_and255]; omega
        have hz : m % 256 < 256 := Nat.mod_lt _ (by omega)
        generalize m % 256 = z at e2 hst hz
        have g2 : w3.cell? ⟨w2.heap.size, z, none⟩ = some (.int .i64 ((halves 8 z : Nat) : Int)) := by rw [hA3.cell, tab_at hz]
        have hhl := halves_lt 8 (show z < 4294967296 by omega)
        have e3 := shr8 s (halves 8 z) hs hhl
        rw [← hst] at e3
        clear hst
        generalize halves 8 z = hv at g2 e3 hhl
        generalize step s (y : Int) = s2 at e3 hsn hsl
        have HSN := Lib.hid hsn; clear hsn
        go_wp2
        go_round
        case rel => exact ⟨s2, k + 1, by omega, by go_num, rfl, hsl, Lib.hid HSN.out.symm⟩
        case measure => simp [intOf]; omega
      · have ek : k = n := by omega
        subst ek
        have e4 := i64_xor_nat s 4294967295 (by omega) (by omega)
        have e5 : s ^^^ 4294967295 = sumN xs := by
          rw [hh.out, List.take_of_length_le (by have := HX.out; omega)]; rfl
        rw [e5] at e4
        have e4' : bits .xor .i64 (s : Int) 4294967295 = ((sumN xs : Nat) : Int) := e4
        clear e4 e5
        go_wp2
        go_ret
        exact ⟨rfl, hb13⟩
  · have hok' : bytesOk xs = false := by simpa using hok
    have hsum : sumOf xs = -1 := by unfold sumOf; rw [if_neg hok]
    rw [hsum]; clear hsum
    go_enter Try.func16, Try.ntmps16
    go_wp2_with fail
    refine (implBytesOk_any _ _ _ _ xs _ hx).mono ?_
    rintro e w1 ⟨rfl, rfl⟩
    rw [hok']
    go_wp2
    go_ret
    exact ⟨rfl, Below.refl _ _⟩

set_option maxHeartbeats 400000 in
set_option maxRecDepth 100000 in
theorem specSumOf_any (B : Nat) (ao : Option Addr) (n cap : Nat) (xs : List Int) (w : World) (hx : Ints B w ao n cap xs) :
    Calls Try.prog 17 #[.slice ao n cap] w fun e w' => e = .returned (.int .i64 (sumOf xs)) ∧ w' = w := by
  have hx0 := hx.hlen; have hx1 := hx.hcap; have hx2 := hx.hmax
  unfold maxLen at hx2
  have HX := Lib.hid hx0
  clear hx0
  by_cases hok : bytesOk xs = true
  · have hmem := bytesOk_mem hok
    have hsum : sumOf xs = (sumN xs : Int) := by unfold sumOf; rw [if_pos hok]
    rw [hsum]; clear hsum
    go_enter Try.func17, Try.ntmps17
    go_wp2_with fail
    refine (specBytesOk_any _ _ _ _ xs _ hx).mono ?_
    rintro e w1 ⟨rfl, rfl⟩
    rw [hok]
    have HMEM := Lib.hid hmem; clear hmem
    have HOK := Lib.hid hok; clear hok
    go_wp2_with fail
    go_loop [3, 4] (fun ss si => ∃ (s k : Nat), k ≤ n ∧ si = .int .i64 k ∧ ss = .int .i64 s ∧ s < 4294967296 ∧ Hid (s = crc 4294967295 (xs.take k))) (fun _ si => n - (intOf si).toNat)
    case atStart => exact ⟨4294967295, 0, Nat.zero_le _, rfl, rfl, by omega, rfl⟩
    case round =>
      obtain ⟨s, k, hk, rfl, rfl, hs, hh⟩ := hrel
      by_cases hlt : k < n
      · obtain ⟨b, off, rfl, hbB, hc⟩ := hx.at k hlt
        have g1 := hc k hlt
        clear hc
        have hsn := crc_snoc 4294967295 xs k (by have := HX.out; omega)
        rw [← hh.out] at hsn
        have hxm : 0 ≤ xs.getD k 0 ∧ xs.getD k 0 ≤ 255 := by
          have := HX.out
          have e : xs.getD k 0 = xs[k] := by simp [List.getD, show k < xs.length by omega]
          rw [e]; exact HMEM.out.2 _ (List.getElem_mem _)
        generalize xs.getD k 0 = x at g1 hsn hxm
        have hsl := step_lt hs hxm
        obtain ⟨hx0, hx1⟩ := hxm
        have HSN := Lib.hid hsn; clear hsn
        go_wp2_with fail
        refine (l2Step_any s x hs hx0 hx1 _).mono ?_
        rintro e w2 ⟨rfl, rfl⟩
        go_wp2
        go_round
        case rel => exact ⟨_, k + 1, by omega, by go_num, rfl, hsl, Lib.hid HSN.out.symm⟩
        case measure => simp [intOf]; omega
      · have ek : k = n := by omega
        subst ek
        have e4 := i64_xor_nat s 4294967295 (by omega) (by omega)
        have e5 : s ^^^ 4294967295 = sumN xs := by
          rw [hh.out, List.take_of_length_le (by have := HX.out; omega)]; rfl
        rw [e5] at e4
        have e4' : bits .xor .i64 (s : Int) 4294967295 = ((sumN xs : Nat) : Int) := e4
        clear e4 e5
        go_wp2
        go_ret
        exact ⟨rfl, rfl⟩
  · have hok' : bytesOk xs = false := by simpa using hok
    have hsum : sumOf xs = -1 := by unfold sumOf; rw [if_neg hok]
    rw [hsum]; clear hsum
    go_enter Try.func17, Try.ntmps17
    go_wp2_with fail
    refine (specBytesOk_any _ _ _ _ xs _ hx).mono ?_
    rintro e w1 ⟨rfl, rfl⟩
    rw [hok']
    go_wp2
    go_ret
    exact ⟨rfl, rfl⟩

end Go.Proofs.Ytdfcdemkmniknaa
