/- Texts of this claim, put together. -/
import Derived.Test.YtoniahfdjhhalaaGreatP1
import Derived.Test.YtoniahfdjhhalaaGreatP9
import Derived.Test.YtoniahfdjhhalaaGreatP10

namespace Go.Proofs.YtoniahfdjhhalaaGreat
open Go.RowKit
set_option maxHeartbeats 400000 in
set_option maxRecDepth 100000 in
theorem specSumOf_any (B : Nat) (ao : Option Addr) (n cap : Nat) (xs : List Int) (w : World) (hx : Ints B w ao n cap xs) :
    Calls Tryz.prog 93 #[.slice ao n cap] w fun e w' => e = .returned (.int .i64 (sumOf xs)) ∧ w' = w := by
  have hx0 := hx.hlen; have hx1 := hx.hcap; have hx2 := hx.hmax
  unfold maxLen at hx2
  have HX := Lib.hid hx0
  clear hx0
  by_cases hok : bytesOk xs = true
  · have hmem := bytesOk_mem hok
    have hsum : sumOf xs = (sumN xs : Int) := by unfold sumOf; rw [if_pos hok]
    rw [hsum]; clear hsum
    go_enter Tryz.func93, Tryz.ntmps93
    go_wp2_with fail
    refine (specBytesOk_any _ _ _ _ xs _ hx).mono ?_
    rintro e w1 ⟨rfl, rfl⟩
    rw [hok]
    have HMEM := Lib.hid hmem; clear hmem
    have HOK := Lib.hid hok; clear hok
    go_wp2_with fail
    go_loop [3, 4] (fun ss si => ∃ (s k : Nat), k ≤ n ∧ si = .int .i64 k ∧ ss = .int .i64 s ∧ s < 4294967296 ∧ Hid (s = crc 4294967295 (xs.take k))) (fun _ si => n - (intOf si).toNat)
    case atStart => exact ⟨4294967295, 0, Nat.zero_le _, rfl, rfl, by omega, rfl⟩
    case round =>
      obtain ⟨s, k, hk, rfl, rfl, hs, hh⟩ := hrel
      by_cases hlt : k < n
      · obtain ⟨b, off, rfl, hbB, hc⟩ := hx.at k hlt
        have g1 := hc k hlt
        clear hc
        have hsn := crc_snoc 4294967295 xs k (by have := HX.out; omega)
        rw [← hh.out] at hsn
        have hxm : 0 ≤ xs.getD k 0 ∧ xs.getD k 0 ≤ 255 := by
          have := HX.out
          have e : xs.getD k 0 = xs[k] := by simp [List.getD, show k < xs.length by omega]
          rw [e]; exact HMEM.out.2 _ (List.getElem_mem _)
        generalize xs.getD k 0 = x at g1 hsn hxm
        have hsl := step_lt hs hxm
        obtain ⟨hx0, hx1⟩ := hxm
        have HSN := Lib.hid hsn; clear hsn
        go_wp2_with fail
        refine (l2Step_any s x hs hx0 hx1 _).mono ?_
        rintro e w2 ⟨rfl, rfl⟩
        go_wp2
        go_round
        case rel => exact ⟨_, k + 1, by omega, by go_num, rfl, hsl, Lib.hid HSN.out.symm⟩
        case measure => simp [intOf]; omega
      · have ek : k = n := by omega
        subst ek
        have e4 := i64_xor_nat s 4294967295 (by omega) (by omega)
        have e5 : s ^^^ 4294967295 = sumN xs := by
          rw [hh.out, List.take_of_length_le (by have := HX.out; omega)]; rfl
        rw [e5] at e4
        have e4' : bits .xor .i64 (s : Int) 4294967295 = ((sumN xs : Nat) : Int) := e4
        clear e4 e5
        go_wp2
        go_ret
        exact ⟨rfl, rfl⟩
  · have hok' : bytesOk xs = false := by simpa using hok
    have hsum : sumOf xs = -1 := by unfold sumOf; rw [if_neg hok]
    rw [hsum]; clear hsum
    go_enter Tryz.func93, Tryz.ntmps93
    go_wp2_with fail
    refine (specBytesOk_any _ _ _ _ xs _ hx).mono ?_
    rintro e w1 ⟨rfl, rfl⟩
    rw [hok']
    go_wp2
    go_ret
    exact ⟨rfl, rfl⟩
structure Sl where
  ao : Option Addr
  n : Nat
  cap : Nat
  xs : List Int
def Sl.val (p : Sl) : Value := .slice p.ao p.n p.cap
def Sl.ok (B : Nat) (w : World) (p : Sl) : Prop := Ints B w p.ao p.n p.cap p.xs ∧ (p.ao = none → p.cap = 0)
theorem Sl.ok.alloc {B : Nat} {w : World} {p : Sl} (h : p.ok B w) (hB : B ≤ w.heap.size) (o : Obj) : p.ok B (w.alloc o) :=
  ⟨h.1.below ((Below.refl _ _).alloc hB o) (Nat.le_refl _) (Nat.le_refl _), h.2⟩
theorem NewInts.of {xs ys : List Int} {w : World} {e : Ending} {w' : World} (h : NewInts xs w e w') (he : xs = ys) : NewInts ys w e w' := he ▸ h
theorem withSum_no {xs : List Int} (h : ¬ (bytesOk xs = true ∧ xs.length ≤ 3996)) : withSum xs = [] := by unfold withSum; rw [if_neg h]
theorem withSum_yes {xs : List Int} (h : bytesOk xs = true ∧ xs.length ≤ 3996) : withSum xs = xs ++ tail4 (sumN xs) := by unfold withSum; rw [if_pos h]
theorem sumOf_yes {xs : List Int} (h : bytesOk xs = true) : sumOf xs = (sumN xs : Int) := by unfold sumOf; rw [if_pos h]
theorem Ints.take {B : Nat} {w : World} {ao : Option Addr} {n cap : Nat} {xs : List Int} (h : Ints B w ao n cap xs) {k : Nat} (hk : k ≤ n) : Ints B w ao k cap (xs.take k) :=
  ⟨by rw [List.length_take, h.hlen]; omega, by have := h.hcap; omega, h.hmax, fun j hj => by
    obtain ⟨b, off, e, hlt, hc⟩ := h.cell j (by omega)
    refine ⟨b, off, e, hlt, ?_⟩
    rw [hc]
    simp [List.getD, hj], fun x hx => h.wf x (List.mem_of_mem_take hx)⟩
set_option maxHeartbeats 400000 in
set_option maxRecDepth 100000 in
theorem l1Copy_any (B : Nat) (ao : Option Addr) (n cap : Nat) (xs : List Int) (w : World) (hx : Ints B w ao n cap xs) (hB : B ≤ w.heap.size) (hz : ao = none → cap = 0) (hn : n ≤ 1099511627776) :
    Calls Tryz.prog 74 #[.slice ao n cap] w (NewInts xs w) := by
  have hown := own_empty w
  have hb : Below w.heap.size w (w.alloc (.cells #[] 2)) := (Below.refl _ _).alloc (Nat.le_refl _) _
  have hsz : (w.alloc (.cells #[] 2)).heap.size = w.heap.size + 1 := by simp
  have hx' := hx.below hb hB (Nat.le_refl _)
  have HZ := Lib.hid hz; clear hz
  have HSZ := Lib.hid hsz; clear hsz
  go_enter Tryz.func74, Tryz.ntmps74
  go_wp2_with (at_builtin; refine append_all rfl _ _ rfl w.heap.size B _ [] xs ao n cap rfl rfl hx' HZ.out hown (by rw [HSZ.out]; omega) (by simp; omega) ?_; intro vA wA hownA hbA)
  go_ret
  exact ⟨_, rfl, hownA, hb.trans hbA⟩
set_option maxHeartbeats 400000 in
set_option maxRecDepth 100000 in
theorem specWithSum_any (B : Nat) (ao : Option Addr) (n cap : Nat) (xs : List Int) (w : World) (hx : Ints B w ao n cap xs) (hB : B ≤ w.heap.size) (hz : ao = none → cap = 0) (hn : n ≤ 1099511627776) :
    Calls Tryz.prog 79 #[.slice ao n cap] w (NewInts (withSum xs) w) := by
  have hx0 := hx.hlen; have hx1 := hx.hcap; have hx2 := hx.hmax
  unfold maxLen at hx2
  have HX := Lib.hid hx0; clear hx0
  have HZ := Lib.hid hz; clear hz
  rcases hok : bytesOk xs with _ | _
  · have e0 : withSum xs = [] := withSum_no (by rw [hok]; simp)
    rw [e0]; clear e0
    have HOK := Lib.hid hok; clear hok
    go_enter Tryz.func79, Tryz.ntmps79
    go_wp2_with fail
    refine (specBytesOk_any _ _ _ _ xs _ hx).mono ?_
    rintro e w1 ⟨rfl, rfl⟩
    rw [HOK.out]
    go_wp2
    go_ret
    exact ⟨_, rfl, own_empty _, (Below.refl _ _).alloc (Nat.le_refl _) _⟩
  · by_cases hbig : 3996 < n
    · have e0 : withSum xs = [] := withSum_no (by have := HX.out; omega)
      rw [e0]; clear e0
      have HOK := Lib.hid hok; clear hok
      go_enter Tryz.func79, Tryz.ntmps79
      go_wp2_with fail
      refine (specBytesOk_any _ _ _ _ xs _ hx).mono ?_
      rintro e w1 ⟨rfl, rfl⟩
      rw [HOK.out]
      go_wp2
      go_ret
      exact ⟨_, rfl, own_empty _, (Below.refl _ _).alloc (Nat.le_refl _) _⟩
    · have e0 := withSum_yes ⟨hok, by have := HX.out; omega⟩
      have es := sumOf_yes hok
      have hsl := sumN_lt (bytesOk_mem hok).2
      rw [e0]; clear e0
      have HOK := Lib.hid hok; clear hok
      generalize sumN xs = s at es hsl
      have HES := Lib.hid es; clear es
      go_enter Tryz.func79, Tryz.ntmps79
      go_wp2_with fail
      refine (specBytesOk_any _ _ _ _ xs _ hx).mono ?_
      rintro e w1 ⟨rfl, rfl⟩
      rw [HOK.out]
      go_wp2_with fail
      refine (specSumOf_any _ _ _ _ xs _ hx).mono ?_
      rintro e w1 ⟨rfl, rfl⟩
      rw [HES.out]
      go_wp2_with fail
      refine (l1Copy_any _ _ _ _ xs _ hx hB HZ.out hn).mono ?_
      rintro e w2 ⟨v2, rfl, hown2, hb2⟩
      have hs2 := hb2.size
      have hown := own_lit w2 (tail4 s) (by rw [tail4_len]; omega)
      have hbA : Below w2.heap.size w2 (w2.alloc (.cells ((tail4 s).map (Value.int .i64)).toArray 2)) := (Below.refl _ _).alloc (Nat.le_refl _) _
      have hsA : (w2.alloc (.cells ((tail4 s).map (Value.int .i64)).toArray 2)).heap.size = w2.heap.size + 1 := by simp
      have hown3 := hown2.below hbA (Nat.le_refl _)
      obtain ⟨a4, c4, e4, hi4⟩ := hown.ints (bytes_i64 (tail4_bytes hsl))
      cases e4
      have hi4' : Ints (w2.heap.size + 1) (w2.alloc (Obj.cells #[Value.int IntKind.i64 ((s : Int) / 16777216), Value.int IntKind.i64 ((s : Int) / 65536 % 256), Value.int IntKind.i64 ((s : Int) / 256 % 256), Value.int IntKind.i64 ((s : Int) % 256)] 2)) (some ⟨w2.heap.size, 0, none⟩) 4 4 (tail4 s) := by rw [← hsA]; exact hi4
      have hown3' : Own _ (w2.alloc (Obj.cells #[Value.int IntKind.i64 ((s : Int) / 16777216), Value.int IntKind.i64 ((s : Int) / 65536 % 256), Value.int IntKind.i64 ((s : Int) / 256 % 256), Value.int IntKind.i64 ((s : Int) % 256)] 2)) v2 xs := hown3
      have hbA' : Below w2.heap.size w2 (w2.alloc (Obj.cells #[Value.int IntKind.i64 ((s : Int) / 16777216), Value.int IntKind.i64 ((s : Int) / 65536 % 256), Value.int IntKind.i64 ((s : Int) / 256 % 256), Value.int IntKind.i64 ((s : Int) % 256)] 2)) := hbA
      have hsA' : (w2.alloc (Obj.cells #[Value.int IntKind.i64 ((s : Int) / 16777216), Value.int IntKind.i64 ((s : Int) / 65536 % 256), Value.int IntKind.i64 ((s : Int) / 256 % 256), Value.int IntKind.i64 ((s : Int) % 256)] 2)).heap.size = w2.heap.size + 1 := hsA
      have HSA := Lib.hid hsA'
      clear hi4 hown3 hbA hsA hsA' hown hown2
      go_wp2_with (at_builtin; refine append_all rfl _ _ rfl _ _ _ xs (tail4 s) (some ⟨w2.heap.size, 0, none⟩) 4 4 rfl rfl hi4' (by intro h; cases h) hown3' (by rw [HSA.out]; omega) (by have := HX.out; omega) ?_; intro vA wA hownA hbA)
      go_ret
      exact ⟨_, rfl, hownA, (hb2.trans (hbA'.mono hs2)).trans hbA⟩
def vecB (vs : List Int) : List Int := vs.flatMap fun x => varN x.toNat
def bareL (f t : Int) (vs : List Int) (es : List Ent) : List Int := [92, f, t] ++ vecB vs ++ enc es
def sealed (f t : Int) (vs : List Int) (es : List Ent) : List Int := withSum (bareL f t vs es)
theorem vecB_step {vs : List Int} {i : Nat} {out R : List Int} (hi : i < vs.length) (h : out ++ vecB (vs.drop i) = R) : (out ++ varN (vs.getD i 0).toNat) ++ vecB (vs.drop (i + 1)) = R := by
  have e : vecB (vs.drop i) = varN (vs.getD i 0).toNat ++ vecB (vs.drop (i + 1)) := by
    rw [List.drop_eq_getElem_cons hi]
    unfold vecB
    rw [List.flatMap_cons]
    simp [List.getD, hi]
  rw [← h, e, List.append_assoc]
theorem vecB_end {vs : List Int} {i : Nat} {out R : List Int} (hi : vs.length ≤ i) (h : out ++ vecB (vs.drop i) = R) : out = R := by
  rw [List.drop_of_length_le hi] at h
  simpa [vecB] using h
theorem vecB_len {vs : List Int} (h : ∀ x ∈ vs, 0 ≤ x ∧ x ≤ 100000) : (vecB vs).length ≤ 3 * vs.length := by
  induction vs with
  | nil => simp [vecB]
  | cons x r ih =>
    have h1 := varN_short (m := x.toNat) (by have := h x (List.mem_cons_self ..); omega)
    have h2 := ih (fun y hy => h y (List.mem_cons_of_mem _ hy))
    unfold vecB at *
    rw [List.flatMap_cons, List.length_append, List.length_cons]
    omega
theorem vecB_bytes (vs : List Int) : ∀ x ∈ vecB vs, 0 ≤ x ∧ x ≤ 255 := by
  intro x hx
  obtain ⟨y, _, hy⟩ := List.mem_flatMap.1 hx
  exact varN_bytes _ x hy
theorem vec_mem {vs : List Int} (h : vecOk vs = true) : ∀ x ∈ vs, 0 ≤ x ∧ x ≤ 100000 := by
  intro x hx
  obtain ⟨i, hi, rfl⟩ := List.mem_iff_getElem.1 hx
  have h1 := vec_get h i (by have := vec_len h; omega)
  simpa [List.getD, hi] using h1
theorem letter_parts {f t : Int} {vs : List Int} {es : List Ent} (h : letterOk f t vs es = true) : (0 ≤ f ∧ f ≤ 3) ∧ (0 ≤ t ∧ t ≤ 3) ∧ f ≠ t ∧ vecOk vs = true ∧ bookOk es = true ∧ covers vs (vec es) = true := by
  simp only [letterOk, Bool.and_eq_true, inB, decide_eq_true_eq] at h
  obtain ⟨⟨⟨⟨⟨h1, h2⟩, h3⟩, h4⟩, h5⟩, h6⟩ := h
  exact ⟨h1, h2, by simpa using h3, h4, h5, h6⟩
theorem bareL_bytes {f t : Int} (hf : 0 ≤ f ∧ f ≤ 3) (ht : 0 ≤ t ∧ t ≤ 3) (vs : List Int) (es : List Ent) : ∀ x ∈ bareL f t vs es, 0 ≤ x ∧ x ≤ 255 := by
  intro x hx
  unfold bareL at hx
  rcases List.mem_append.1 hx with hx | hx
  · rcases List.mem_append.1 hx with hx | hx
    · simp at hx
      omega
    · exact vecB_bytes _ x hx
  · exact enc_bytes _ x hx
theorem bareL_len {f t : Int} {vs : List Int} {es : List Ent} (hv : vecOk vs = true) (hb : bookOk es = true) : (bareL f t vs es).length ≤ 198 := by
  have h1 := vecB_len (vec_mem hv)
  have h2 := enc_len hb
  have h3 := vec_len hv
  unfold bareL
  simp only [List.length_append, List.length_cons, List.length_nil]
  omega
theorem own_three (w : World) (a b c : Int) : Own w.heap.size (w.alloc (.cells #[.int .i64 a, .int .i64 b, .int .i64 c] 2)) (.slice (some ⟨w.heap.size, 0, none⟩) 3 3) [a, b, c] :=
  World.ownsRow_lit w #[.int .i64 a, .int .i64 b, .int .i64 c] 3 (Nat.le_refl _) (by unfold maxLen; omega) rfl
set_option linter.unusedSimpArgs false in
set_option maxHeartbeats 4000000 in
set_option maxRecDepth 100000 in
theorem l14Sealed_any (B : Nat) (f t : Int) (ao : Option Addr) (n cap : Nat) (vs : List Int) (bo : Option Addr) (m dap : Nat) (es : List Ent) (w : World) (hv : Ints B w ao n cap vs) (hx : Ents B w bo m dap es) (hB : B ≤ w.heap.size) (hf : 0 ≤ f ∧ f ≤ 3) (ht : 0 ≤ t ∧ t ≤ 3) (hvo : vecOk vs = true) (hbo : bookOk es = true) :
    Calls Tryz.prog 56 #[.agg #[.int .i64 f, .int .i64 t, .slice ao n cap, .slice bo m dap]] w (NewInts (sealed f t vs es) w) := by
  have hv0 := hv.hlen; have hv1 := hv.hcap; have hv2 := hv.hmax
  unfold maxLen at hv2
  have hl4 := vec_len hvo
  obtain rfl : n = 4 := by omega
  have HL4 := Lib.hid hl4; clear hl4 hv0
  have hget := fun i (hi : i < 4) => vec_get hvo i hi
  obtain ⟨wb, hwb⟩ : ∃ wb, wb = w.alloc (.cells #[.int .i64 f, .int .i64 t, .slice ao 4 cap, .slice bo m dap] 96) := ⟨_, rfl⟩
  obtain ⟨g, hg⟩ : ∃ g, g = w.heap.size := ⟨_, rfl⟩
  have hblk : Blk wb g 96 #[.int .i64 f, .int .i64 t, .slice ao 4 cap, .slice bo m dap] := by rw [hwb, hg]; exact Blk.new _ _ _
  have hb0 : Below w.heap.size w wb := by rw [hwb]; exact (Below.refl _ _).alloc (Nat.le_refl _) _
  have hs0 := hb0.size
  have hblt := hblk.lt
  have hDD : ∀ w', Below wb.heap.size wb w' → Blk w' g 96 #[.int .i64 f, .int .i64 t, .slice ao 4 cap, .slice bo m dap] := fun w' h => hblk.below h hblt
  have HD := Lib.hid hDD; clear hDD
  have HA : Hid (∀ w', Below wb.heap.size wb w' → Below w.heap.size w w') := Lib.hid (fun w' h => hb0.trans (h.mono hs0))
  have hE := fun w' (h : Below wb.heap.size wb w') => l11Encoded_any B bo m dap es w' (hx.below (HA.out w' h) hB (Nat.le_refl B)) (by have := (HA.out w' h).size; omega) hbo
  have hew : AllI64 (enc es) := fun x hx => by have := enc_bytes es x hx; unfold I64; omega
  have hbw : AllI64 (bareL f t vs es) := fun x hx => by have := bareL_bytes hf ht vs es x hx; unfold I64; omega
  have hbl := bareL_len (f := f) (t := t) hvo hbo
  have hbe : ([92, f, t] ++ vecB vs) ++ enc es = bareL f t vs es := rfl
  obtain ⟨R, hR⟩ : ∃ R, sealed f t vs es = R := ⟨_, rfl⟩
  rw [hR]
  unfold sealed at hR
  generalize bareL f t vs es = bl at hbw hbl hbe hR
  obtain ⟨Q, hQ⟩ : ∃ Q, [92, f, t] ++ vecB vs = Q := ⟨_, rfl⟩
  rw [hQ] at hbe
  have hin0 : [92, f, t] ++ vecB (vs.drop 0) = Q := hQ
  have HIN0 := Lib.hid hin0; clear hin0 hQ
  have HLEN : Hid (∀ q p : List Int, q ++ p = Q → q.length ≤ 198) := Lib.hid (fun q p h => by rw [← hbe, ← h, List.length_append, List.length_append] at hbl; omega)
  generalize enc es = en at hE hew hbe
  have HE := Lib.hid hE; have HEW := Lib.hid hew; have HBW := Lib.hid hbw; have HBE := Lib.hid hbe; have HR := Lib.hid hR; have HGET := Lib.hid hget
  have HW : Hid (∀ (v : Nat), AllI64 (varN v)) := Lib.hid (fun v x hx => by have := varN_bytes v x hx; unfold I64; omega)
  have hVr := fun (m : Nat) (hm : m ≤ 1000000000) w => l1Var_any m w hm
  have HV := Lib.hid hVr
  clear hE hew hbw hR hget hVr hx
  have d0 := hblk.cell 0; have d1 := hblk.cell 1; have d2 := hblk.cell 2; have d3 := hblk.cell 3
  have ho0 := own_three wb 92 f t
  have hb1 : Below wb.heap.size wb (wb.alloc (.cells #[.int .i64 92, .int .i64 f, .int .i64 t] 2)) := (Below.refl _ _).alloc (Nat.le_refl _) _
  go_enter Tryz.func56, Tryz.ntmps56
  go_upto_region 1 with fail
  rw [← hwb, ← hg]
  clear hwb hg
  go_wp2
  go_loopw [3, 4] (fun s3 s4 wr => ∃ (i : Nat) (out : List Int), i ≤ 4 ∧ s4 = .int .i64 i ∧ Hid (out ++ vecB (vs.drop i) = Q) ∧ Own wb.heap.size wr s3 out ∧ Below wb.heap.size wb wr) (fun _ s4 _ => 4 - (intOf s4).toNat)
  case atStart => exact ⟨0, _, by omega, rfl, HIN0, ho0, hb1⟩
  case round =>
    obtain ⟨i, out, hi, rfl, hin, hown, hbel⟩ := hrel
    have hsz := hbel.size
    have hkr := HD.out wr hbel
    clear d0 d1 d2 d3
    have d2 := hkr.cell 2; have d3 := hkr.cell 3
    by_cases hlt : i < 4
    · have hil : i < vs.length := by rw [HL4.out]; exact hlt
      have hvr := hv.below (HA.out wr hbel) hB (Nat.le_refl B)
      obtain ⟨b, off, rfl, hbB, hc⟩ := hvr.at i hlt
      have c0 := hc i hlt
      have hnext := vecB_step hil hin.out
      have hgt := HGET.out i hlt
      generalize vs.getD i 0 = z at c0 hnext hgt
      obtain ⟨u, rfl⟩ : ∃ u : Nat, z = u := ⟨z.toNat, by omega⟩
      rw [Int.toNat_natCast] at hnext
      have hu1 : u ≤ 1000000000 := by omega
      have hvv := HV.out u hu1
      have hqw := HW.out u
      have hl3 := HLEN.out _ _ hnext
      rw [List.length_append] at hl3
      generalize varN u = q at hvv hqw hnext hl3
      have HNX := Lib.hid hnext; have HVV := Lib.hid hvv; clear hnext hvv hc hvr
      have i0 : (0 : Int) ≤ i := by omega
      have i1 : (i : Int) < 4 := by omega
      go_wp2_with fail
      refine (HVV.out _).mono ?_
      rintro e w3 ⟨v3, rfl, hn3, hb3⟩
      have hB3 := hbel.trans (hb3.mono hsz)
      have ho3 := hown.below hb3 (Nat.le_refl _)
      obtain ⟨a3, c3', rfl, hi3, hz3⟩ := hn3.ints' hqw
      have hs3 := hB3.size
      go_wp2_with (at_builtin; refine append_all rfl _ _ rfl wb.heap.size w3.heap.size _ out q a3 q.length c3' rfl rfl hi3 hz3 ho3 hs3 (by omega) ?_; intro v4 w4 ho4 hb4)
      go_roundw
      case rel => exact ⟨i + 1, _, by omega, by go_num, HNX, ho4, hB3.trans hb4⟩
      case measure => simp [intOf]; omega
    · have i1 : ¬ (i : Int) < (4 : Int) := by omega
      have hr := vecB_end (show vs.length ≤ i by rw [HL4.out]; omega) hin.out
      subst hr
      have hl3 := HLEN.out out [] (by simp)
      have hel : en.length ≤ 198 := by have := HBE.out; rw [← this, List.length_append] at hbl; omega
      go_wp2_with fail
      refine (HE.out _ hbel).mono ?_
      rintro e w3 ⟨v3, rfl, hn3, hb3⟩
      have hB3 := hbel.trans (hb3.mono hsz)
      have ho3 := hown.below hb3 (Nat.le_refl _)
      obtain ⟨a3, c3', rfl, hi3, hz3⟩ := hn3.ints' HEW.out
      have hs3 := hB3.size
      go_wp2_with (at_builtin; refine append_all rfl _ _ rfl wb.heap.size w3.heap.size _ out en a3 en.length c3' rfl rfl hi3 hz3 ho3 hs3 (by omega) ?_; intro v4 w4 ho4 hb4)
      rw [HBE.out] at ho4
      obtain ⟨a4, c4, rfl, hi4, hz4⟩ := ho4.ints' HBW.out
      have hB4 := hB3.trans hb4
      refine (specWithSum_any _ _ _ _ _ _ hi4 (Nat.le_refl _) hz4 (by omega)).mono ?_
      rintro e w5 ⟨v5, rfl, hn5, hb5⟩
      go_wp2_with fail
      go_ret
      rw [← HR.out]
      exact ⟨_, rfl, hn5.mono ((HA.out _ hB4).size), (HA.out _ hB4).trans (hb5.mono (HA.out _ hB4).size)⟩
end Go.Proofs.YtoniahfdjhhalaaGreat

namespace Go.Proofs.YtoniahfdjhhalaaGreat
def numsN (xs : List Int) : Nat → Nat → Option (List Int × Nat)
  | 0, p => some ([], p)
  | k + 1, p => match scan xs 5 p 0 1 with
    | none => none
    | some (a, e) => (numsN xs k e).map fun r => (a :: r.1, r.2)
def nmL (o : Option (List Int × Nat)) : List Int := match o with | some r => r.1 | none => []
def nmE (o : Option (List Int × Nat)) : Int := match o with | some r => r.2 | none => 0
theorem nums_zero {xs : List Int} {k p : Nat} {out : List Int} {R : Option (List Int × Nat)} (hk : k = 0) (h : R = (numsN xs k p).map fun r => (out ++ r.1, r.2)) : R = some (out, p) := by
  subst hk
  rw [h, numsN]
  simp
theorem nums_none {xs : List Int} {k p : Nat} {out : List Int} {R : Option (List Int × Nat)} (hk : 0 < k) (hs : scan xs 5 p 0 1 = none) (h : R = (numsN xs k p).map fun r => (out ++ r.1, r.2)) : R = none := by
  obtain ⟨k, rfl⟩ : ∃ j, k = j + 1 := ⟨k - 1, by omega⟩
  rw [h, numsN, hs]
  rfl
theorem nums_some {xs : List Int} {k p e : Nat} {a : Int} {out : List Int} {R : Option (List Int × Nat)} (hk : 0 < k) (hs : scan xs 5 p 0 1 = some (a, e)) (h : R = (numsN xs k p).map fun r => (out ++ r.1, r.2)) : R = (numsN xs (k - 1) e).map fun r => ((out ++ [a]) ++ r.1, r.2) := by
  obtain ⟨k, rfl⟩ : ∃ j, k = j + 1 := ⟨k - 1, by omega⟩
  rw [h, numsN, hs, Nat.add_sub_cancel]
  simp only [Option.map_map]
  congr 1
  funext r
  simp
theorem scan_fits {xs : List Int} (hb : ∀ x ∈ xs, 0 ≤ x ∧ x ≤ 255) {p e : Nat} {a : Int} (h : scan xs 5 p 0 1 = some (a, e)) : 0 ≤ a ∧ a ≤ 1000000000 ∧ p < e ∧ e ≤ xs.length := by
  obtain ⟨m, h1, _, h3, h4, h5, _⟩ := scan_spec xs hb 5 p 0 1 a e (by omega) h
  omega
theorem nums_fits {xs : List Int} (hb : ∀ x ∈ xs, 0 ≤ x ∧ x ≤ 255) : ∀ (k p : Nat) (r : List Int × Nat), numsN xs k p = some r → r.1.length = k ∧ (∀ x ∈ r.1, 0 ≤ x ∧ x ≤ 1000000000) ∧ p + k ≤ r.2 ∧ (p ≤ xs.length → r.2 ≤ xs.length) := by
  intro k
  induction k with
  | zero =>
    intro p r h
    simp only [numsN, Option.some.injEq] at h
    subst h
    exact ⟨rfl, (fun x hx => by cases hx), Nat.le_refl _, id⟩
  | succ k ih =>
    intro p r h
    rw [numsN] at h
    cases hs : scan xs 5 p 0 1 with
    | none => rw [hs] at h; cases h
    | some q =>
      obtain ⟨a, e⟩ := q
      rw [hs] at h
      simp only at h
      obtain ⟨r', hr', rfl⟩ := Option.map_eq_some_iff.1 h
      obtain ⟨h1, h2, h3, h4⟩ := ih e r' hr'
      obtain ⟨s1, s2, s3, s4⟩ := scan_fits hb hs
      refine ⟨by simp [h1], fun x hx => ?_, by show p + (k + 1) ≤ r'.2; omega, fun _ => h4 s4⟩
      rcases List.mem_cons.1 hx with rfl | hx
      · exact ⟨s1, s2⟩
      · exact h2 x hx
def readE (xs : List Int) : Nat → Int → Nat → Option (List Ent × Nat)
  | 0, _, p => some ([], p)
  | k + 1, last, p => match numsN xs 3 p with
    | none => none
    | some (l, e) => if 20 < l.getD 0 0 then none else (readE xs k (last + 1 + l.getD 0 0) e).map fun r => (⟨(last + 1 + l.getD 0 0) / 5, (last + 1 + l.getD 0 0) % 5, l.getD 1 0, l.getD 2 0⟩ :: r.1, r.2)
def readB (xs : List Int) (p : Nat) : Option (List Ent × Nat) := match numsN xs 1 p with
  | none => none
  | some (l, e) => if 20 < l.getD 0 0 then none else match readE xs (l.getD 0 0).toNat (-1) e with
    | none => none
    | some r => if bookOk r.1 = true then some r else none
def rdL (o : Option (List Ent × Nat)) : List Ent := match o with | some r => r.1 | none => []
def rdE (o : Option (List Ent × Nat)) : Int := match o with | some r => r.2 | none => 0
theorem readE_zero {xs : List Int} {k p : Nat} {last : Int} {out : List Ent} {R : Option (List Ent × Nat)} (hk : k = 0) (h : R = (readE xs k last p).map fun r => (out ++ r.1, r.2)) : R = some (out, p) := by
  subst hk
  rw [h, readE]
  simp
theorem readE_none {xs : List Int} {k p : Nat} {last : Int} {out : List Ent} {R : Option (List Ent × Nat)} (hk : 0 < k) (hs : numsN xs 3 p = none) (h : R = (readE xs k last p).map fun r => (out ++ r.1, r.2)) : R = none := by
  obtain ⟨k, rfl⟩ : ∃ j, k = j + 1 := ⟨k - 1, by omega⟩
  rw [h, readE, hs]
  rfl
theorem readE_big {xs : List Int} {k p e : Nat} {last : Int} {l : List Int} {out : List Ent} {R : Option (List Ent × Nat)} (hk : 0 < k) (hs : numsN xs 3 p = some (l, e)) (hb : 20 < l.getD 0 0) (h : R = (readE xs k last p).map fun r => (out ++ r.1, r.2)) : R = none := by
  obtain ⟨k, rfl⟩ : ∃ j, k = j + 1 := ⟨k - 1, by omega⟩
  rw [h, readE, hs]
  simp only
  rw [if_pos hb]
  rfl
theorem readE_some {xs : List Int} {k p e : Nat} {last : Int} {l : List Int} {out : List Ent} {R : Option (List Ent × Nat)} (hk : 0 < k) (hs : numsN xs 3 p = some (l, e)) (hb : ¬ 20 < l.getD 0 0) (h : R = (readE xs k last p).map fun r => (out ++ r.1, r.2)) :
    R = (readE xs (k - 1) (last + 1 + l.getD 0 0) e).map fun r => ((out ++ [⟨(last + 1 + l.getD 0 0) / 5, (last + 1 + l.getD 0 0) % 5, l.getD 1 0, l.getD 2 0⟩]) ++ r.1, r.2) := by
  obtain ⟨k, rfl⟩ : ∃ j, k = j + 1 := ⟨k - 1, by omega⟩
  rw [h, readE, hs, Nat.add_sub_cancel]
  simp only
  rw [if_neg hb, Option.map_map]
  congr 1
  funext r
  simp
theorem readB_none {xs : List Int} {p : Nat} (h : numsN xs 1 p = none) : readB xs p = none := by rw [readB, h]
theorem readB_big {xs : List Int} {p e : Nat} {l : List Int} (h : numsN xs 1 p = some (l, e)) (hb : 20 < l.getD 0 0) : readB xs p = none := by
  rw [readB, h]
  simp only
  rw [if_pos hb]
theorem readB_some {xs : List Int} {p e : Nat} {l : List Int} (h : numsN xs 1 p = some (l, e)) (hb : ¬ 20 < l.getD 0 0) : readB xs p = match readE xs (l.getD 0 0).toNat (-1) e with
    | none => none
    | some r => if bookOk r.1 = true then some r else none := by
  rw [readB, h]
  simp only
  rw [if_neg hb]
theorem readB_book {xs : List Int} {p : Nat} {r : List Ent × Nat} (h : readB xs p = some r) : bookOk r.1 = true := by
  unfold readB at h
  split at h
  · cases h
  · split at h
    · cases h
    · split at h
      · cases h
      · split at h
        · rename_i hb
          cases h
          exact hb
        · cases h
theorem rdL_wf (xs : List Int) (p : Nat) : AllE (rdL (readB xs p)) := by
  cases h : readB xs p with
  | none => intro e he; cases he
  | some r => exact book_wf (readB_book h)
end Go.Proofs.YtoniahfdjhhalaaGreat

namespace Go.Proofs.YtoniahfdjhhalaaGreat
open Go.RowKit
structure Cur (w : World) (g : Nat) (ao : Option Addr) (n cap : Nat) (at' : Int) : Prop where
  list : w.cell? ⟨g, 0, none⟩ = some (.slice ao n cap)
  place : w.cell? ⟨g, 1, none⟩ = some (.int .i64 at')
  free : w.frozen? ⟨g, 1, none⟩ = false
theorem Cur.drewN {w : World} {g : Nat} {ao : Option Addr} {n cap : Nat} {p : Int} (h : Cur w g ao n cap p) (k : Nat) : Cur (w.drewN k) g ao n cap p := ⟨h.list, h.place, h.free⟩
theorem Cur.moved {w : World} {g : Nat} {ao : Option Addr} {n cap : Nat} {p : Int} (h : Cur w g ao n cap p) (q : Int) : Cur (w.setCell ⟨g, 1, none⟩ (.int .i64 q)) g ao n cap q := by
  have h1 := h.list; have h2 := h.place; have h3 := h.free
  refine ⟨?_, ?_, ?_⟩
  · go_simp
  · go_simp
  · go_simp

end Go.Proofs.YtoniahfdjhhalaaGreat
