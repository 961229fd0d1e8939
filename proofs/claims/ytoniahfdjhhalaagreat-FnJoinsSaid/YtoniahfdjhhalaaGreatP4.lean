/- Texts of this claim, put together. -/
import Derived.Test.YtoniahfdjhhalaaGreatP1
import Derived.Deep.RegionHeld3
import Derived.Deep.RegionWith

namespace Go.Proofs.YtoniahfdjhhalaaGreat
def inB (x lo hi : Int) : Bool := decide (lo ≤ x ∧ x ≤ hi)
def allBytes (xs : List Int) : Bool := xs.all (fun x => decide (0 ≤ x ∧ x ≤ 255))
def bytesOk (xs : List Int) : Bool := decide (xs.length ≤ 4000) && allBytes xs
theorem allBytes_snoc (xs : List Int) (k : Nat) (hk : k < xs.length) : allBytes (xs.take (k + 1)) = (allBytes (xs.take k) && decide (0 ≤ xs.getD k 0 ∧ xs.getD k 0 ≤ 255)) := by
  unfold allBytes
  rw [List.take_succ_eq_append_getElem hk, List.all_append]
  simp [List.getD, hk]
theorem allBytes_false (xs : List Int) (k : Nat) (hk : k < xs.length) (h : ¬ (0 ≤ xs.getD k 0 ∧ xs.getD k 0 ≤ 255)) : allBytes xs = false := by
  rw [Bool.eq_false_iff]
  intro ht
  apply h
  have := List.all_eq_true.1 ht (xs[k]) (List.getElem_mem _)
  simpa [List.getD, hk] using this
theorem bytesOk_no (xs : List Int) (k : Nat) (hk : k < xs.length) (h : ¬ (0 ≤ xs.getD k 0 ∧ xs.getD k 0 ≤ 255)) : bytesOk xs = false := by
  simp [bytesOk, allBytes_false xs k hk h]
theorem allBytes_mem {xs : List Int} (h : allBytes xs = true) : ∀ x ∈ xs, 0 ≤ x ∧ x ≤ 255 := by
  intro x hx
  simpa using List.all_eq_true.1 h x hx
theorem bytesOk_mem {xs : List Int} (h : bytesOk xs = true) : xs.length ≤ 4000 ∧ ∀ x ∈ xs, 0 ≤ x ∧ x ≤ 255 := by
  simp only [bytesOk, Bool.and_eq_true, decide_eq_true_eq] at h
  exact ⟨h.1, allBytes_mem h.2⟩
def scan (xs : List Int) : Nat → Nat → Int → Int → Option (Int × Nat)
  | 0, _, _, _ => none
  | f + 1, i, n, u =>
    if i < xs.length then
      if xs.getD i 0 < 128 then
        if 1000000000 < n + xs.getD i 0 % 128 * u ∨ (xs.getD i 0 = 0 ∧ 1 < u) then none else some (n + xs.getD i 0 % 128 * u, i + 1)
      else scan xs f (i + 1) (n + xs.getD i 0 % 128 * u) (u * 128)
    else none
def rvN (o : Option (Int × Nat)) : Int := match o with | some r => r.1 | none => 0
def rvE (o : Option (Int × Nat)) : Int := match o with | some r => r.2 | none => 0
theorem scan_stop {xs : List Int} {f i : Nat} {n u : Int} (h : xs.length ≤ i) : scan xs f i n u = none := by
  cases f with
  | zero => rfl
  | succ f => rw [scan, if_neg (by omega)]
theorem scan_more {xs : List Int} {f i : Nat} {n u : Int} (h : i < xs.length) (hb : ¬ xs.getD i 0 < 128) : scan xs (f + 1) i n u = scan xs f (i + 1) (n + xs.getD i 0 % 128 * u) (u * 128) := by
  rw [scan, if_pos h, if_neg hb]
theorem scan_bad {xs : List Int} {f i : Nat} {n u : Int} (h : i < xs.length) (hb : xs.getD i 0 < 128) (hc : 1000000000 < n + xs.getD i 0 % 128 * u ∨ (xs.getD i 0 = 0 ∧ 1 < u)) : scan xs (f + 1) i n u = none := by
  rw [scan, if_pos h, if_pos hb, if_pos hc]
theorem scan_good {xs : List Int} {f i : Nat} {n u : Int} (h : i < xs.length) (hb : xs.getD i 0 < 128) (hc : ¬ (1000000000 < n + xs.getD i 0 % 128 * u ∨ (xs.getD i 0 = 0 ∧ 1 < u))) : scan xs (f + 1) i n u = some (n + xs.getD i 0 % 128 * u, i + 1) := by
  rw [scan, if_pos h, if_pos hb, if_neg hc]
def Unit' (f : Nat) (u : Int) : Prop := (f = 5 ∧ u = 1) ∨ (f = 4 ∧ u = 128) ∨ (f = 3 ∧ u = 16384) ∨ (f = 2 ∧ u = 2097152) ∨ (f = 1 ∧ u = 268435456) ∨ (f = 0 ∧ u = 34359738368)
def varN (n : Nat) : List Int := if h : n < 128 then [(n : Int)] else ((n : Int) % 128 + 128) :: varN (n / 128)
  termination_by n
  decreasing_by omega
theorem varN_small {n : Nat} (h : n < 128) : varN n = [(n : Int)] := by rw [varN, dif_pos h]
theorem varN_big {n : Nat} (h : ¬ n < 128) : varN n = ((n : Int) % 128 + 128) :: varN (n / 128) := by rw [varN, dif_neg h]
theorem varN_bytes (n : Nat) : ∀ x ∈ varN n, 0 ≤ x ∧ x ≤ 255 := by
  induction n using Nat.strongRecOn with
  | _ n ih =>
    by_cases h : n < 128
    · rw [varN_small h]
      intro x hx
      simp only [List.mem_singleton] at hx
      omega
    · rw [varN_big h]
      intro x hx
      rcases List.mem_cons.1 hx with rfl | hx
      · omega
      · exact ih (n / 128) (by omega) x hx
end Go.Proofs.YtoniahfdjhhalaaGreat

namespace Go.Proofs.YtoniahfdjhhalaaGreat
open Go.RowKit
set_option maxHeartbeats 400000 in
theorem l1In_any (x lo hi : Int) (w : World) :
    Calls Tryz.prog 47 #[.int .i64 x, .int .i64 lo, .int .i64 hi] w fun e w' => e = .returned (.bool (inB x lo hi)) ∧ w' = w := by
  by_cases h1 : lo ≤ x
  · by_cases h2 : x ≤ hi
    · go_enter Tryz.func47, Tryz.ntmps47
      go_wp2
      go_ret
      exact ⟨ret_bool (by simp [inB, h1, h2]), rfl⟩
    · go_enter Tryz.func47, Tryz.ntmps47
      go_wp2
      go_ret
      exact ⟨ret_bool (by simp [inB, h2]), rfl⟩
  · go_enter Tryz.func47, Tryz.ntmps47
    go_wp2
    go_ret
    exact ⟨ret_bool (by rw [inB, decide_eq_false (by omega)]), rfl⟩
theorem step_one {ops : Array Oper} {o : Oper} {a : Act} {K : Act → World → Prop} {Q : Exit → Act → World → Prop} {E : Prop} {w : World} {y : Int}
    (hgd : o.guard = none) (s x : Operand) (ho : o.op = .call { callee := .builtin .append, args := #[s, x], argTypes := #[78, 78] })
    (B : Nat) (v : Value) (xs : List Int) (hs : a.eval s = v) (hx : a.eval x = .slice (some ⟨w.heap.size, 0, none⟩) 1 1)
    (hown : Own B w v xs) (hB : B ≤ w.heap.size) (hlen : xs.length ≤ 1099511627776)
    (hK : ∀ v' w', Own B w' v' (xs ++ [y]) → Below B w w' → K (a.put o.dst v') w') :
    if Region.wanted o (yielded ops a.tmps) = true then Oper.wp Tryz.prog o a (w.alloc (.cells #[.int .i64 y] 2)) K Q else E := by
  have hw : Region.wanted o (yielded ops a.tmps) = true := by simp [Region.wanted, hgd]
  rw [if_pos hw]
  obtain ⟨i0, hi, hz0, hz1, hz2⟩ := info_parts info64
  refine wp_append_own _ s x 78 ho B 2 i0 (.int .i64 0) 1 8 Tryz.underlying78 hi hz0 hz1 hz2 rfl (by decide) v xs.length (xs.map (Value.int .i64)) hs (World.ownsRow.alloc hown _)
    ⟨w.heap.size, 0, none⟩ 1 1 [.int .i64 y] hx rfl ?c1 ?c2 ?c3 ?c4 ?c5 ?_
  case c1 =>
    intro j u hu
    match j, hu with
    | 0, hu =>
      simp at hu
      subst hu
      rw [Addr.add_lit]
      go_simp
  case c2 =>
    intro u hu
    simp at hu
    subst hu
    rfl
  case c3 => unfold maxLen; omega
  case c4 => omega
  case c5 => simp; omega
  intro v' w' hown' hgrow _
  refine hK v' w' ?_ ?_
  · unfold Own
    rw [List.length_append, List.map_append]
    exact hown'
  · refine ((Below.refl B w).alloc hB _).grown hgrow (by simp; omega) ?_
    intro k hk
    exact (World.ownsRow.lt hown k hk).1
def vecOk (xs : List Int) : Bool := decide (xs.length = 4) && xs.all (fun x => decide (0 ≤ x ∧ x ≤ 100000))
theorem vec_len {xs : List Int} (h : vecOk xs = true) : xs.length = 4 := by simp [vecOk] at h; exact h.1
theorem vec_get {xs : List Int} (h : vecOk xs = true) (i : Nat) (hi : i < 4) : 0 ≤ xs.getD i 0 ∧ xs.getD i 0 ≤ 100000 := by
  have hl := vec_len h
  simp [vecOk] at h
  have e : xs.getD i 0 = xs[i] := by simp [List.getD, show i < xs.length by omega]
  rw [e]
  exact h.2 _ (List.getElem_mem _)
def vecPre (xs : List Int) (k : Nat) : Prop := ∀ j, j < k → inB (xs.getD j 0) 0 100000 = true
theorem vecPre_all {xs : List Int} (hl : xs.length = 4) (h : vecPre xs 4) : vecOk xs = true := by
  simp only [vecOk, Bool.and_eq_true, decide_eq_true_eq, List.all_eq_true]
  refine ⟨hl, fun x hx => ?_⟩
  obtain ⟨i, hi, rfl⟩ := List.mem_iff_getElem.1 hx
  have := h i (by omega)
  simpa [inB, List.getD, hi] using this
theorem vec_bad {xs : List Int} {k : Nat} (hk : k < 4) (h : inB (xs.getD k 0) 0 100000 = false) : vecOk xs = false := by
  rcases hv : vecOk xs with _ | _
  · rfl
  · have := vec_get hv k hk
    simp only [inB, decide_eq_false_iff_not] at h
    omega
theorem vec_badlen {xs : List Int} (h : xs.length ≠ 4) : vecOk xs = false := by simp [vecOk, h]
set_option maxHeartbeats 1000000 in
theorem specVecOk_any (B : Nat) (ao : Option Addr) (n cap : Nat) (xs : List Int) (w : World) (hx : Ints B w ao n cap xs) :
    Calls Tryz.prog 90 #[.slice ao n cap] w fun e w' => e = .returned (.bool (vecOk xs)) ∧ w' = w := by
  have hx0 := hx.hlen; have hx1 := hx.hcap; have hx2 := hx.hmax
  unfold maxLen at hx2
  by_cases h4 : n = 4
  · subst h4
    have HX := Lib.hid hx0; clear hx0
    generalize hv : vecOk xs = v
    have HV := Lib.hid hv; clear hv
    go_enter Tryz.func90, Tryz.ntmps90
    go_wp2
    go_loop [3] (fun i => ∃ k : Nat, k ≤ 4 ∧ i = .int .i64 k ∧ Hid (vecPre xs k)) (fun i => 4 - (intOf i).toNat)
    case atStart => exact ⟨0, Nat.zero_le _, rfl, Lib.hid (fun j hj => absurd hj (by omega))⟩
    case round =>
      obtain ⟨k, hk, rfl, ht⟩ := hrel
      by_cases hlt : k < 4
      · obtain ⟨b, off, rfl, hbB, hc⟩ := hx.at k hlt
        have g1 := hc k hlt
        clear hc
        have hno : inB (xs.getD k 0) 0 100000 = false → v = false := fun h => by rw [← HV.out]; exact vec_bad hlt h
        have hyes : inB (xs.getD k 0) 0 100000 = true → vecPre xs (k + 1) := fun h j hj => by
          by_cases e : j = k
          · subst e; exact h
          · exact ht.out j (by omega)
        have hin := fun w => l1In_any (xs.getD k 0) 0 100000 w
        generalize inB (xs.getD k 0) 0 100000 = bb at hno hyes hin
        generalize xs.getD k 0 = x at g1 hin
        have HN := Lib.hid hno; have HY := Lib.hid hyes; clear hno hyes
        have i1 : (k : Int) < 4 := by omega
        have i2 : (0 : Int) ≤ k := by omega
        rcases bb with _ | _
        · have hvv := Lib.hid (HN.out rfl); clear HN HY
          go_wp2_with fail
          refine (hin _).mono ?_
          rintro e w' ⟨rfl, rfl⟩
          go_wp2_with fail
          go_ret
          exact ⟨ret_bool hvv.out.symm, rfl⟩
        · have hvv := Lib.hid (HY.out rfl); clear HN HY
          go_wp2_with fail
          refine (hin _).mono ?_
          rintro e w' ⟨rfl, rfl⟩
          go_wp2_with fail
          go_round
          case rel => exact ⟨k + 1, by omega, by go_num, hvv⟩
          case measure => simp [intOf]; omega
      · have ek : k = 4 := by omega
        subst ek
        have hv : v = true := by rw [← HV.out]; exact vecPre_all HX.out ht.out
        subst hv
        go_wp2
        go_ret
        exact ⟨rfl, rfl⟩
  · rw [vec_badlen (by omega)]
    have hb : ((n : Int) != 4) = true := by rw [bne_iff_ne]; omega
    clear hx0
    go_enter Tryz.func90, Tryz.ntmps90
    go_wp2
    go_ret
    exact ⟨rfl, rfl⟩
set_option maxHeartbeats 400000 in
theorem l1Max_any (a b : Int) (w : World) :
    Calls Tryz.prog 65 #[.int .i64 a, .int .i64 b] w fun e w' => e = .returned (.int .i64 (max a b)) ∧ w' = w := by
  by_cases h : b < a
  · go_enter Tryz.func65, Tryz.ntmps65
    go_wp2
    go_ret
    exact ⟨ret_int (by omega), rfl⟩
  · go_enter Tryz.func65, Tryz.ntmps65
    go_wp2
    go_ret
    exact ⟨ret_int (by omega), rfl⟩
def covers (xs ys : List Int) : Bool := vecOk xs && vecOk ys && (List.range 4).all (fun j => decide (ys.getD j 0 ≤ xs.getD j 0))
theorem covers_no {xs ys : List Int} (h : vecOk xs = false ∨ vecOk ys = false) : covers xs ys = false := by
  rcases h with h | h <;> simp [covers, h]
theorem covers_iff {xs ys : List Int} : covers xs ys = true ↔ vecOk xs = true ∧ vecOk ys = true ∧ ∀ j, j < 4 → ys.getD j 0 ≤ xs.getD j 0 := by
  simp only [covers, Bool.and_eq_true, List.all_eq_true, List.mem_range, decide_eq_true_eq]
  exact ⟨fun ⟨⟨a, b⟩, c⟩ => ⟨a, b, c⟩, fun ⟨a, b, c⟩ => ⟨⟨a, b⟩, c⟩⟩
theorem covers_bad {xs ys : List Int} {j : Nat} (hj : j < 4) (h : xs.getD j 0 < ys.getD j 0) : covers xs ys = false := by
  rcases hc : covers xs ys with _ | _
  · rfl
  · have := (covers_iff.1 hc).2.2 j hj
    omega
theorem covers_yes {xs ys : List Int} (h1 : vecOk xs = true) (h2 : vecOk ys = true) (h : ∀ j, j < 4 → ys.getD j 0 ≤ xs.getD j 0) : covers xs ys = true := covers_iff.2 ⟨h1, h2, h⟩
set_option maxHeartbeats 1000000 in
theorem specCovers_any (B C : Nat) (ao bo : Option Addr) (n cap m dap : Nat) (xs ys : List Int) (w : World) (hx : Ints B w ao n cap xs) (hy : Ints C w bo m dap ys) :
    Calls Tryz.prog 104 #[.slice ao n cap, .slice bo m dap] w fun e w' => e = .returned (.bool (covers xs ys)) ∧ Drew w w' := by
  have h1 := specVecOk_any B ao n cap xs w hx
  have h2 := specVecOk_any C bo m dap ys w hy
  have hno : vecOk xs = false ∨ vecOk ys = false → covers xs ys = false := covers_no
  have hyes : vecOk xs = true → vecOk ys = true → (∀ j, j < 4 → ys.getD j 0 ≤ xs.getD j 0) → covers xs ys = true := covers_yes
  have hl1 : vecOk xs = true → n = 4 := fun h => by have := vec_len h; have := hx.hlen; omega
  have hl2 : vecOk ys = true → m = 4 := fun h => by have := vec_len h; have := hy.hlen; omega
  have hbad : ∀ j, j < 4 → xs.getD j 0 < ys.getD j 0 → covers xs ys = false := fun j hj h => covers_bad hj h
  generalize covers xs ys = v at hno hyes hbad
  generalize vecOk xs = b1 at h1 hno hyes hl1
  generalize vecOk ys = b2 at h2 hno hyes hl2
  have HN := Lib.hid hno; have HY := Lib.hid hyes; have HB := Lib.hid hbad; have HL1 := Lib.hid hl1; have HL2 := Lib.hid hl2
  clear hno hyes hbad hl1 hl2
  go_enter Tryz.func104, Tryz.ntmps104
  go_wp2_with fail
  refine h1.mono ?_
  rintro e w1 ⟨rfl, rfl⟩
  rcases b1 with _ | _
  · go_wp2_with fail
    go_ret
    exact ⟨ret_bool (HN.out (.inl (by first | rfl | trivial))).symm, Drew.refl _⟩
  · go_wp2_with fail
    refine h2.mono ?_
    rintro e w2 ⟨rfl, rfl⟩
    rcases b2 with _ | _
    · go_wp2_with fail
      go_ret
      exact ⟨ret_bool (HN.out (.inr (by first | rfl | trivial))).symm, Drew.refl _⟩
    · have hn4 : n = 4 := HL1.out (by first | rfl | trivial)
      have hm4 : m = 4 := HL2.out (by first | rfl | trivial)
      subst hn4 hm4
      clear HL1 HL2 HN
      have hya : (∀ j, j < 4 → ys.getD j 0 ≤ xs.getD j 0) → v = true := fun h => HY.out (by first | rfl | trivial) (by first | rfl | trivial) h
      have HYA := Lib.hid hya; clear hya HY
      go_wp2
      go_loopw [5] (fun i wr => ∃ k : Nat, k ≤ 4 ∧ i = .int .i64 k ∧ Hid (∀ j, j < k → ys.getD j 0 ≤ xs.getD j 0) ∧ Drew w2 wr) (fun i _ => 4 - (intOf i).toNat)
      case atStart => exact ⟨0, Nat.zero_le _, rfl, Lib.hid (fun j hj => absurd hj (by omega)), Drew.refl _⟩
      case round =>
        obtain ⟨k, hk, rfl, ht, nq, rfl⟩ := hrel
        by_cases hlt : k < 4
        · obtain ⟨b, off, rfl, hbB, hc⟩ := hx.at k hlt
          obtain ⟨b', off', rfl, hbC, hc'⟩ := hy.at k hlt
          have g1 := hc k hlt
          have g2 := hc' k hlt
          have hstep : ys.getD k 0 ≤ xs.getD k 0 → ∀ j, j < k + 1 → ys.getD j 0 ≤ xs.getD j 0 := fun h j hj => by
            by_cases e : j = k
            · subst e; exact h
            · exact ht.out j (by omega)
          have hb := HB.out k hlt
          generalize xs.getD k 0 = x at g1 hstep hb
          generalize ys.getD k 0 = y at g2 hstep hb
          have HS := Lib.hid hstep; have HBB := Lib.hid hb; clear hstep hb hc hc'
          have g1' : (w2.drewN nq).cell? ⟨b, off + k, none⟩ = some (.int .i64 x) := g1
          have g2' : (w2.drewN nq).cell? ⟨b', off' + k, none⟩ = some (.int .i64 y) := g2
          have i1 : (0 : Int) ≤ k := by omega
          have i2 : (k : Int) < 4 := by omega
          by_cases hle : y ≤ x
          · have hd := Lib.hid (HS.out hle)
            have hle' : ¬ x < y := by omega
            clear HS HBB
            go_wp2
            go_quiet (fail)
            go_wp2
            go_roundw
            case rel => exact ⟨k + 1, by omega, by go_num, hd, by first | exact Drew.two _ _ _ | exact Drew.one _ _⟩
            case measure => simp [intOf]; omega
          · have hlt' : x < y := by omega
            have hd := Lib.hid (HBB.out hlt')
            clear HS HBB
            go_wp2
            go_quiet (fail)
            go_wp2
            go_ret
            exact ⟨ret_bool hd.out.symm, by first | exact Drew.two _ _ _ | exact Drew.one _ _⟩
        · have ek : k = 4 := by omega
          subst ek
          have hd := Lib.hid (HYA.out ht.out)
          go_wp2
          go_ret
          exact ⟨ret_bool hd.out.symm, by first | exact Drew.two _ _ _ | exact Drew.one _ _⟩
def later (xs ys : List Int) : List Int := if vecOk xs = true ∧ vecOk ys = true then List.zipWith max xs ys else []
theorem later_no {xs ys : List Int} (h : vecOk xs = false ∨ vecOk ys = false) : later xs ys = [] := by
  rw [later, if_neg]
  rintro ⟨h1, h2⟩
  rcases h with h | h
  · rw [h1] at h; cases h
  · rw [h2] at h; cases h
theorem later_yes {xs ys : List Int} (h1 : vecOk xs = true) (h2 : vecOk ys = true) : later xs ys = List.zipWith max xs ys := by rw [later, if_pos ⟨h1, h2⟩]
theorem zip_step {xs ys : List Int} {k n : Nat} (hx : xs.length = n) (hy : ys.length = n) (hk : k < n) : (List.zipWith max xs ys).take (k + 1) = (List.zipWith max xs ys).take k ++ [max (xs.getD k 0) (ys.getD k 0)] := by
  rw [List.take_succ_eq_append_getElem (by simp; omega)]
  simp [List.getD, show k < xs.length by omega, show k < ys.length by omega]
set_option maxHeartbeats 2000000 in
set_option maxRecDepth 100000 in
theorem specLater_any (B C : Nat) (ao bo : Option Addr) (n cap m dap : Nat) (xs ys : List Int) (w : World) (hx : Ints B w ao n cap xs) (hy : Ints C w bo m dap ys) (hB : B ≤ w.heap.size) (hC : C ≤ w.heap.size) :
    Calls Tryz.prog 97 #[.slice ao n cap, .slice bo m dap] w (NewInts (later xs ys) w) := by
  have hv1 := fun w h => specVecOk_any B ao n cap xs w h
  have hv2 := fun w h => specVecOk_any C bo m dap ys w h
  have hx0 := hx.hlen; have hx1 := hx.hcap; have hx2 := hx.hmax; have hy0 := hy.hlen
  unfold maxLen at hx2
  have hno : vecOk xs = false ∨ vecOk ys = false → later xs ys = [] := later_no
  have hyes : vecOk xs = true → vecOk ys = true → later xs ys = List.zipWith max xs ys := later_yes
  have hl1 : vecOk xs = true → n = 4 := fun h => by have := vec_len h; omega
  have hl2 : vecOk ys = true → m = 4 := fun h => by have := vec_len h; omega
  have hzero : vecOk xs = true → 0 < n := fun h => by have := vec_len h; omega
  generalize later xs ys = res at hno hyes
  generalize vecOk xs = b1 at hv1 hno hyes hl1 hzero
  generalize vecOk ys = b2 at hv2 hno hyes hl2
  have HN := Lib.hid hno; have HY := Lib.hid hyes; have HL1 := Lib.hid hl1; have HL2 := Lib.hid hl2; have HZ := Lib.hid hzero
  have HX := Lib.hid hx0; have HYL := Lib.hid hy0
  clear hno hyes hl1 hl2 hx0 hy0 hzero
  have hb0 : Below w.heap.size w (w.alloc (.cells #[] 2)) := (Below.refl _ _).alloc (Nat.le_refl _) _
  have ho0 := own_empty w
  by_cases hgood : b1 = true ∧ b2 = true
  · obtain ⟨rfl, rfl⟩ := hgood
    have hn4 : n = 4 := HL1.out rfl
    have hm4 : m = 4 := HL2.out rfl
    subst hn4 hm4
    have hres : res = List.zipWith max xs ys := HY.out rfl rfl
    subst hres
    clear HN HY HL1 HL2 HZ
    go_enter Tryz.func97, Tryz.ntmps97
    go_wp2
    go_loopw [5, 6] (fun sv i wr => ∃ k : Nat, k ≤ 4 ∧ i = .int .i64 k ∧ Own w.heap.size wr sv ((List.zipWith max xs ys).take k) ∧ Below w.heap.size w wr) (fun _ i _ => 4 - (intOf i).toNat)
    case atStart => exact ⟨0, Nat.zero_le _, rfl, ho0, hb0⟩
    case round =>
      obtain ⟨k, hk, rfl, hown, hbel⟩ := hrel
      have hxr := hx.below hbel hB hB
      have hyr := hy.below hbel hC hC
      have hsz := hbel.size
      by_cases hlt : k < 4
      · obtain ⟨b, off, rfl, hbB, hc⟩ := hxr.at k hlt
        obtain ⟨b', off', rfl, hbC, hc'⟩ := hyr.at k hlt
        have g1 := hc k hlt
        have g2 := hc' k hlt
        have hstep := zip_step HX.out HYL.out hlt
        have hM := fun w => l1Max_any (xs.getD k 0) (ys.getD k 0) w
        clear hc hc'
        generalize xs.getD k 0 = x at g1 hstep hM
        generalize ys.getD k 0 = y at g2 hstep hM
        generalize max x y = z at hstep hM
        have HS := Lib.hid hstep; clear hstep
        have i1 : (0 : Int) ≤ k := by omega
        have i2 : (k : Int) < 4 := by omega
        have htl : ((List.zipWith max xs ys).take k).length ≤ 4 := by rw [List.length_take]; omega
        have hv1r := hv1 wr (hx.below hbel hB (Nat.le_refl _))
        have hv2r := hv2 wr (hy.below hbel hC (Nat.le_refl _))
        go_wp2_with fail
        refine hv1r.mono ?_
        rintro e w1 ⟨rfl, rfl⟩
        go_wp2_with fail
        refine hv2r.mono ?_
        rintro e w2 ⟨rfl, rfl⟩
        have HAl : (w2.drew.alloc (.cells #[.int .i64 z] 2)).cell? ⟨b, off + k, none⟩ = some (.int .i64 x) ∧ (w2.drew.alloc (.cells #[.int .i64 z] 2)).cell? ⟨b', off' + k, none⟩ = some (.int .i64 y) :=
          ⟨(World.cell?_alloc_lt _ _ _ (show b < w2.heap.size by omega)).trans g1, (World.cell?_alloc_lt _ _ _ (show b' < w2.heap.size by omega)).trans g2⟩
        have hownD : Own w.heap.size w2.drew _ ((List.zipWith max xs ys).take k) := hown
        go_wp2_with fail
        go_region_held3 (fun w' => w'.cell? ⟨b, off + k, none⟩ = some (.int .i64 x) ∧ w'.cell? ⟨b', off' + k, none⟩ = some (.int .i64 y))
          (first | exact ⟨g1A, g2A⟩ | exact ⟨HAl.1, HAl.2⟩ | exact ⟨g1, g2⟩)
          (first
            | (refine step_one (w := w2.drew) rfl _ _ rfl w.heap.size u5 _ rfl rfl hownD hsz (Nat.le_trans htl (by decide)) ?_; intro vA wA hownA hbA; have g1A := (hbA.cell (p := ⟨b, off + k, none⟩) hbB).trans g1; have g2A := (hbA.cell (p := ⟨b', off' + k, none⟩) hbC).trans g2)
            | (go_at_call 65; refine (hM _).mono ?_; rintro e w' ⟨rfl, rfl⟩))
        rw [← HS.out] at hownA
        go_wp2
        go_roundw
        case rel => exact ⟨k + 1, by omega, by go_num, hownA, hbel.trans ((Below.refl w.heap.size w2).drew.trans hbA)⟩
        case measure => simp [intOf]; omega
      · have ek : k = 4 := by omega
        subst ek
        have hl : (List.zipWith max xs ys).length = 4 := by have h1 := HX.out; have h2 := HYL.out; simp; omega
        rw [List.take_of_length_le (by omega)] at hown
        go_wp2
        go_ret
        exact ⟨_, rfl, hown, hbel⟩
  · have hres : res = [] := HN.out (by
      rcases b1 with _ | _
      · exact .inl rfl
      · rcases b2 with _ | _
        · exact .inr rfl
        · exact absurd ⟨rfl, rfl⟩ hgood)
    subst hres
    have hx1' := hx.below hb0 hB hB
    have hv1r := hv1 _ (hx.below hb0 hB (Nat.le_refl _))
    have hv2r := hv2 _ (hy.below hb0 hC (Nat.le_refl _))
    by_cases hn0 : n = 0
    · subst hn0
      clear HN HY HL1 HL2 HZ hv1r hv2r
      go_enter Tryz.func97, Tryz.ntmps97
      go_wp2
      refine wp_loop_rounds 1 ?_
      rw [rounds_succ]
      go_wp2
      go_ret
      exact ⟨_, rfl, ho0, hb0⟩
    · have i2 : (0 : Int) < n := by omega
      rcases b1 with _ | _
      · clear HN HY HL1 HL2 HZ hgood
        go_enter Tryz.func97, Tryz.ntmps97
        go_wp2
        refine wp_loop_rounds 1 ?_
        rw [rounds_succ]
        go_wp2_with fail
        refine hv1r.mono ?_
        rintro e w1 ⟨rfl, rfl⟩
        go_wp2_with fail
        go_ret
        exact ⟨_, rfl, ho0, hb0⟩
      · rcases b2 with _ | _
        · clear HN HY HL1 HL2 HZ hgood
          go_enter Tryz.func97, Tryz.ntmps97
          go_wp2
          refine wp_loop_rounds 1 ?_
          rw [rounds_succ]
          go_wp2_with fail
          refine hv1r.mono ?_
          rintro e w1 ⟨rfl, rfl⟩
          go_wp2_with fail
          refine hv2r.mono ?_
          rintro e w1 ⟨rfl, rfl⟩
          go_wp2_with fail
          go_ret
          exact ⟨_, rfl, ho0, hb0⟩
        · exact absurd ⟨rfl, rfl⟩ hgood
end Go.Proofs.YtoniahfdjhhalaaGreat
