/- Texts of this claim, put together. -/
import Derived.Test.YtoniahfdjhhalaaGreatP1
import Derived.Test.YtoniahfdjhhalaaGreatP2
import Derived.Test.YtoniahfdjhhalaaGreatP6
import Derived.Test.YtoniahfdjhhalaaGreatP46
import Derived.Laws.EntriesVeiled

namespace Go.Proofs.YtoniahfdjhhalaaGreat
open Go.RowKit
def Differ (es : List Ent) (k : Nat) : Prop := ∀ i, i < k → ∀ j, j < i → ¬ ((E es j).o = (E es i).o ∧ (E es j).d = (E es i).d)
instance (es : List Ent) (k : Nat) : Decidable (Differ es k) := by unfold Differ; infer_instance
def differ (es : List Ent) : Bool := decide (Differ es es.length)
theorem differ_zero (es : List Ent) : Differ es 0 := fun i hi => absurd hi (by omega)
theorem differ_succ {es : List Ent} {k : Nat} (h : Differ es k) (hg : ∀ j, j < k → ¬ ((E es j).o = (E es k).o ∧ (E es j).d = (E es k).d)) : Differ es (k + 1) := fun i hi => by
  by_cases e : i = k
  · subst e; exact hg
  · exact h i (by omega)
set_option maxHeartbeats 1000000 in
set_option maxRecDepth 100000 in
theorem dotsDiffer_any (B : Nat) (ao : Option Addr) (n cap : Nat) (es : List Ent) (w : World) (hx : Ents B w ao n cap es) (hB : B ≤ w.heap.size) :
    Calls Tryz.prog 33 #[.slice ao n cap] w (Says (.bool (differ es)) w) := by
  have hx0 := hx.hlen; have hx1 := hx.hcap; have hx2 := hx.hmax
  unfold maxLen at hx2
  have HX := Lib.hid hx0; clear hx0
  generalize hb : differ es = bb
  have HB := Lib.hid hb; clear hb
  go_enter Tryz.func33, Tryz.ntmps33
  go_wp2
  go_loopw [9] (fun si wr => ∃ i : Nat, i ≤ n ∧ si = .int .i64 i ∧ Hid (Differ es i) ∧ Below w.heap.size w wr) (fun si _ => n - (intOf si).toNat)
  case atStart => exact ⟨0, Nat.zero_le _, rfl, Lib.hid (differ_zero es), Below.refl _ _⟩
  case round =>
    obtain ⟨i, hi, rfl, hr, hbel⟩ := hrel
    by_cases hlt : i < n
    · have hxr := hx.below hbel hB hB
      obtain ⟨b, off, rfl, hbB, hc⟩ := hxr.at i hlt
      obtain ⟨c0, c1, c2, c3⟩ := hc i hlt
      have HC := Lib.hid hc; clear hc
      have hsz := hbel.size
      have hbad : ∀ j, j < i → ((E es j).o = (E es i).o ∧ (E es j).d = (E es i).d) → bb = false := fun j hj h => by
        rw [← HB.out]; exact decide_eq_false (fun hd => hd i (by have := HX.out; omega) j hj h)
      have hgood : (∀ j, j < i → ¬ ((E es j).o = (E es i).o ∧ (E es j).d = (E es i).d)) → Differ es (i + 1) := differ_succ hr.out
      generalize E es i = x at c0 c1 c2 c3 hbad hgood
      have HBAD := Lib.hid hbad; have HGOOD := Lib.hid hgood; clear hbad hgood
      have i1 : (0 : Int) ≤ i := by omega
      have i2 : (i : Int) < n := by omega
      have i3 : (i : Int) ≤ cap := by omega
      obtain ⟨W, hW⟩ : ∃ W, W = wr.alloc (.cells #[.int .i64 x.o, .int .i64 x.s, .int .i64 x.a, .int .i64 x.d] 47) := ⟨_, rfl⟩
      have hk0 : Blk W wr.heap.size 47 #[.int .i64 x.o, .int .i64 x.s, .int .i64 x.a, .int .i64 x.d] := by rw [hW]; exact Blk.new _ _ _
      have hWb : Below w.heap.size w W := by rw [hW]; exact hbel.alloc hsz _
      have hWr : Below wr.heap.size wr W := by rw [hW]; exact (Below.refl _ _).alloc (Nat.le_refl _) _
      go_wp2
      rw [← hW]
      go_loopw [18] (fun sj wq => ∃ j : Nat, j ≤ i ∧ sj = .int .i64 j ∧ Hid (∀ k, k < j → ¬ ((E es k).o = x.o ∧ (E es k).d = x.d)) ∧ Below w.heap.size w wq ∧ Blk wq wr.heap.size 47 #[.int .i64 x.o, .int .i64 x.s, .int .i64 x.a, .int .i64 x.d]) (fun sj _ => i - (intOf sj).toNat)
      case atStart => exact ⟨0, Nat.zero_le _, rfl, Lib.hid (fun k hk => absurd hk (by omega)), hWb, hk0⟩
      case round =>
        obtain ⟨j, hj, rfl, hno, hbq, hkq⟩ := hrel
        by_cases hji : j < i
        · have hxq := hx.below hbq hB hB
          obtain ⟨b', off', e', hbB', hc'⟩ := hxq.at j (by omega)
          cases e'
          obtain ⟨a0, a1, a2, a3⟩ := hc' j (by omega)
          clear hc'
          have htwin := HBAD.out j hji
          have hstep : ¬ ((E es j).o = x.o ∧ (E es j).d = x.d) → ∀ k, k < j + 1 → ¬ ((E es k).o = x.o ∧ (E es k).d = x.d) := fun h k hk => by
            by_cases e : k = j
            · subst e; exact h
            · exact hno.out k (by omega)
          generalize E es j = y at a0 a1 a2 a3 htwin hstep
          have HT := Lib.hid htwin; have HST := Lib.hid hstep; clear htwin hstep
          have hsq := hbq.size
          have hkl := hkq.lt
          have hkq2 := hkq.alloc (.cells #[.int .i64 y.o, .int .i64 y.s, .int .i64 y.a, .int .i64 y.d] 47)
          have hbq2 := hbq.alloc hsq (.cells #[.int .i64 y.o, .int .i64 y.s, .int .i64 y.a, .int .i64 y.d] 47)
          have f0 := hkq2.cell 0
          have f3 := hkq2.cell 3
          have k1 : (0 : Int) ≤ j := by omega
          have k2 : (j : Int) < i := by omega
          by_cases ho : x.o = y.o
          · have ho' : (x.o == y.o) = true := by simpa using ho
            by_cases hd : x.d = y.d
            · have hd' : (x.d == y.d) = true := by simpa using hd
              have hbb := Lib.hid (HT.out ⟨ho.symm, hd.symm⟩)
              clear ho hd HT HST HBAD HGOOD
              go_wp2
              go_ret
              exact ⟨ret_bool hbb.out.symm, hbq2⟩
            · have hd' : (x.d == y.d) = false := by simpa using hd
              have hs := Lib.hid (HST.out (fun h => hd h.2.symm))
              clear ho hd HT HST HBAD HGOOD
              go_wp2
              go_roundw
              case rel => exact ⟨j + 1, by omega, by go_num, hs, hbq2, hkq2⟩
              case measure => simp [intOf]; omega
          · have ho' : (x.o == y.o) = false := by simpa using ho
            have hs := Lib.hid (HST.out (fun h => ho h.1.symm))
            clear ho HT HST HBAD HGOOD
            go_wp2
            go_roundw
            case rel => exact ⟨j + 1, by omega, by go_num, hs, hbq2, hkq2⟩
            case measure => simp [intOf]; omega
        · have ej : j = i := by omega
          have hgo := Lib.hid (HGOOD.out (fun k hk => hno.out k (by omega)))
          subst ej
          clear HBAD HGOOD
          go_wp2
          go_roundw
          case rel => exact ⟨j + 1, by omega, by go_num, hgo, hbq⟩
          case measure => simp [intOf]; omega
    · have ei : i = n := by omega
      subst ei
      have hgo : differ es = true := decide_eq_true (by rw [HX.out]; exact hr.out)
      rw [HB.out] at hgo
      go_wp2
      go_ret
      exact ⟨ret_bool hgo.symm, hbel⟩
theorem good_parts {es : List Ent} {i : Nat} (hr : Rise es (i + 1)) (hd : Differ es (i + 1)) : Good es i := by
  have h1 := hr i (by omega)
  refine ⟨?_, fun h0 => ?_, fun j hj => hd i (by omega) j hj⟩
  · have hge : 0 ≤ lastKey es i + 1 := by
      unfold lastKey
      split
      · omega
      · have h2 := hr (i - 1) (by omega)
        have h3 : -1 ≤ lastKey es (i - 1) := by
          clear h1 h2
          generalize i - 1 = k
          unfold lastKey
          split
          · omega
          · unfold Ent.key keyOf
            split
            · rename_i h
              have := Ent.ok_all (e := E es (k - 1)) h
              omega
            · omega
        omega
    cases hk : (E es i).ok with
    | true => rfl
    | false =>
      have h4 : (E es i).key = -1 := by unfold Ent.key; exact keyOf_no hk
      omega
  · unfold lastKey at h1
    rw [if_neg (by omega)] at h1
    exact h1
theorem parts_right {es : List Ent} {k : Nat} (h : Right es k) : Rise es k ∧ Differ es k := by
  refine ⟨fun i hi => ?_, fun i hi j hj => (h i hi).2.2 j hj⟩
  have h1 := Ent.key_ok (h i hi).1
  unfold lastKey
  split
  · omega
  · exact (h i hi).2.1 (by omega)
theorem book_parts (es : List Ent) : bookOk es = (rises es && differ es) := by
  rw [Bool.eq_iff_iff, Bool.and_eq_true]
  unfold bookOk rises differ
  rw [decide_eq_true_eq, decide_eq_true_eq, decide_eq_true_eq]
  refine ⟨fun h => parts_right h, fun ⟨h1, h2⟩ i hi => good_parts (fun j hj => h1 j (by omega)) (fun j hj => h2 j (by omega))⟩
set_option maxHeartbeats 400000 in
theorem entriesByKey_any (ao : Option Addr) (n cap : Nat) (w : World) :
    Calls Tryz.prog 31 #[.slice ao n cap] w (Says (.agg #[.slice ao n cap, .func (.func 34) #[] #[]]) w) := by
  go_enter Tryz.func31, Tryz.ntmps31
  go_wp2_with fail
  refine bodyPost_ret (v := .agg #[.slice ao n cap, .func (.func 34) #[] #[]]) (by simp [results, Tryz.results31, go_sem]) rfl ?_
  exact ⟨rfl, (Below.refl _ _).alloc (Nat.le_refl _) _⟩
set_option maxHeartbeats 400000 in
theorem implBookOk_any (B : Nat) (ao : Option Addr) (n cap : Nat) (es : List Ent) (w : World) (hx : Ents B w ao n cap es) (hB : B ≤ w.heap.size) :
    Calls Tryz.prog 16 #[.slice ao n cap] w (Says (.bool (bookOk es)) w) := by
  have h0 := fun w => entriesByKey_any ao n cap w
  have e1 : rises es = false → bookOk es = false := fun h => by rw [book_parts, h]; rfl
  have e2 : rises es = true → bookOk es = differ es := fun h => by rw [book_parts, h]; rfl
  generalize bookOk es = bb at e1 e2
  have E1 := Lib.hid e1; have E2 := Lib.hid e2; clear e1 e2
  go_enter Tryz.func16, Tryz.ntmps16
  go_wp2_with fail
  refine (h0 _).mono ?_
  rintro e w1 ⟨rfl, hb1⟩
  have hx1 := hx.below hb1 hB (Nat.le_refl B)
  have hs1 := hb1.size
  have h1 := rises_any B ao n cap es w1 hx1 (by omega)
  generalize rises es = b1 at h1 E1 E2
  go_wp2_with fail
  refine h1.mono ?_
  rintro e w2 ⟨rfl, hb2⟩
  have hb2' := hb1.trans (hb2.mono hs1)
  rcases b1 with _ | _
  · go_wp2_with fail
    go_ret
    exact ⟨ret_bool (E1.out (by first | rfl | trivial)).symm, hb2'⟩
  · have hx2 := hx.below hb2' hB (Nat.le_refl B)
    have hs2 := hb2'.size
    have h2 := dotsDiffer_any B ao n cap es w2 hx2 (by omega)
    have HE := Lib.hid (E2.out (by first | rfl | trivial)); clear E1 E2
    generalize differ es = b2 at h2 HE
    go_wp2_with fail
    refine h2.mono ?_
    rintro e w3 ⟨rfl, hb3⟩
    have hb3' := hb2'.trans (hb3.mono hs2)
    go_wp2_with fail
    go_ret
    exact ⟨ret_bool HE.out.symm, hb3'⟩
theorem takeP {ps : List (Ent × Ent)} {k : Nat} (h : k < ps.length) : ps.take (k + 1) = ps.take k ++ [P2 ps k] := by
  rw [List.take_succ_eq_append_getElem h, P2_get h]
set_option maxHeartbeats 2000000 in
set_option maxRecDepth 100000 in
theorem implJoined_any (B : Nat) (ao1 : Option Addr) (n1 cap1 : Nat) (xs : List Ent) (ao2 : Option Addr) (n2 cap2 : Nat) (ys : List Ent) (w : World)
    (hx1 : Ents B w ao1 n1 cap1 xs) (hx2 : Ents B w ao2 n2 cap2 ys) (hB : B ≤ w.heap.size) (hn1 : n1 ≤ 1048576) (hn2 : n2 ≤ 1048576) :
    Calls Tryz.prog 6 #[.slice ao1 n1 cap1, .slice ao2 n2 cap2] w (MaybeEs (joinR xs ys) w) := by
  have h1 := implBookOk_any B ao1 n1 cap1 xs w hx1 hB
  have h2 := fun w' (hb : Below w.heap.size w w') => implBookOk_any B ao2 n2 cap2 ys w' (hx2.below hb hB (Nat.le_refl B)) (by have := hb.size; omega)
  have hj := fun w' (hb : Below w.heap.size w w') => pairsByKey_any B ao1 n1 cap1 xs ao2 n2 cap2 ys w' (hx1.below hb hB (Nat.le_refl B)) (hx2.below hb hB (Nat.le_refl B)) (by have := hb.size; omega) hn1 hn2
  have hjw := join_wf hx1.wf hx2.wf
  have hpl := pairs_len xs ys
  have hl1 := hx1.hlen; have hl2 := hx2.hlen
  have hno : bookOk xs = false ∨ bookOk ys = false ∨ bookOk (joinE xs ys) = false → joinR xs ys = none := joinR_no
  have hyes : bookOk xs = true → bookOk ys = true → bookOk (joinE xs ys) = true → joinR xs ys = some (joinE xs ys) := joinR_yes
  have hje : joinE xs ys = (pairs xs ys).map newer := rfl
  generalize joinR xs ys = r at hno hyes
  generalize joinE xs ys = js at hjw hno hyes hje
  generalize pairs xs ys = ps at hj hpl hje
  generalize bookOk xs = b1 at h1 hno hyes
  generalize bookOk ys = b2 at h2 hno hyes
  have hpn : ps.length ≤ 2097152 := by omega
  have HN := Lib.hid hno; have HY := Lib.hid hyes; have HJ := Lib.hid hj; have H2 := Lib.hid h2; have HE := Lib.hid hje; have HW := Lib.hid hjw
  clear hno hyes hj h2 hx1 hx2 hje hjw hpl hl1 hl2
  go_enter Tryz.func6, Tryz.ntmps6
  go_wp2_with fail
  refine h1.mono ?_
  rintro e w1 ⟨rfl, hb1⟩
  rcases b1 with _ | _
  · go_wp2_with fail
    go_ret2
    exact maybe_nil (HN.out (.inl (by first | rfl | trivial))) hb1
  · go_wp2_with fail
    refine (H2.out _ hb1).mono ?_
    rintro e w2 ⟨rfl, hb2⟩
    have hB2 := hb1.trans (hb2.mono hb1.size)
    rcases b2 with _ | _
    · go_wp2_with fail
      go_ret2
      exact maybe_nil (HN.out (.inr (.inl (by first | rfl | trivial)))) hB2
    · go_wp2_with fail
      refine (HJ.out _ hB2).mono ?_
      rintro e w3 ⟨v3, rfl, hown3, hb3⟩
      have hB3 := hB2.trans (hb3.mono hB2.size)
      obtain ⟨a3, c3, rfl, hp3⟩ := hown3.prs
      have hs3 := hB3.size
      have hpc := hp3.hcap; have hpm := hp3.hmax
      unfold maxLen at hpm
      clear hown3 hb3 hb2 hb1 HJ H2 h1
      go_wp2
      go_loopw [6, 21] (fun s6 s21 wr => ∃ k : Nat, k ≤ ps.length ∧ s21 = .int .i64 k ∧ OwnE w3.heap.size wr s6 ((ps.take k).map newer) ∧ Below w3.heap.size w3 wr) (fun _ s21 _ => ps.length - (intOf s21).toNat)
      case atStart => exact ⟨0, Nat.zero_le _, rfl, ownE_nil _ _, Below.refl _ _⟩
      case round =>
        obtain ⟨k, hk, rfl, hown, hbel⟩ := hrel
        have hsz := hbel.size
        by_cases hlt : k < ps.length
        · have hpr := hp3.below hbel (Nat.le_refl _) (Nat.le_refl _)
          obtain ⟨g, rfl, hgB, hcx, hcy⟩ := hpr.cell k hlt
          have hstep := takeP hlt
          obtain ⟨x, y, hxy⟩ : ∃ x y, P2 ps k = (x, y) := ⟨_, _, rfl⟩
          rw [hxy] at hcx hcy hstep
          obtain ⟨c0, c1, c2, c3'⟩ := hcx
          obtain ⟨p0, p1, p2, p3⟩ := hcy
          have hmap : (ps.take (k + 1)).map newer = (ps.take k).map newer ++ [newer (x, y)] := by rw [hstep, List.map_append]; rfl
          have HM := Lib.hid hmap; clear hmap hstep hxy
          have hnw := fun w => newer_any x y w
          generalize newer (x, y) = z at hnw HM
          have i0 : (0 : Int) ≤ k := by omega
          have i1 : (k : Int) < ps.length := by omega
          have hkl : ((ps.take k).map newer).length ≤ 1099511627776 := by rw [List.length_map, List.length_take]; omega
          obtain ⟨W, hW⟩ : ∃ W, W = wr.alloc (.cells #[.int .i64 x.o, .int .i64 x.s, .int .i64 x.a, .int .i64 x.d, .int .i64 y.o, .int .i64 y.s, .int .i64 y.a, .int .i64 y.d] 49) := ⟨_, rfl⟩
          have hbW : Blk W wr.heap.size 49 #[.int .i64 x.o, .int .i64 x.s, .int .i64 x.a, .int .i64 x.d, .int .i64 y.o, .int .i64 y.s, .int .i64 y.a, .int .i64 y.d] := by rw [hW]; exact Blk.new _ _ _
          have hWb : Below w3.heap.size w3 W := by rw [hW]; exact hbel.alloc hsz _
          have hoW := hown.alloc (.cells #[.int .i64 x.o, .int .i64 x.s, .int .i64 x.a, .int .i64 x.d, .int .i64 y.o, .int .i64 y.s, .int .i64 y.a, .int .i64 y.d] 49)
          rw [← hW] at hoW
          have q0 := hbW.cell 0; have q1 := hbW.cell 1; have q2 := hbW.cell 2; have q3 := hbW.cell 3
          have q4 := hbW.cell 4; have q5 := hbW.cell 5; have q6 := hbW.cell 6; have q7 := hbW.cell 7
          have hsW := hWb.size
          go_upto_region 7 with fail
          rw [← hW]
          clear hW hbW hown hbel c0 c1 c2 c3' p0 p1 p2 p3 hpr
          go_wp2_with fail
          refine (hnw _).mono ?_
          rintro e wN ⟨rfl, hbN⟩
          have hoN := hoW.below hbN (Nat.le_refl _)
          have hBN := hWb.trans (hbN.mono hsW)
          clear q0 q1 q2 q3 q4 q5 q6 q7 hoW hnw
          have hval : z.val = .agg #[.int .i64 z.o, .int .i64 z.s, .int .i64 z.a, .int .i64 z.d] := rfl
          rw [hval]
          go_wp2_with (at_builtin; refine appendE_one z rfl _ _ rfl w3.heap.size _ _ rfl rfl hoN hBN.size hkl ?_; intro v' w' hown' hb')
          go_roundw
          case rel => exact ⟨k + 1, by omega, by go_num, by rw [HM.out]; exact hown', hBN.trans hb'⟩
          case measure => simp [intOf]; omega
        · have ek : k = ps.length := by omega
          subst ek
          have hto : OwnE w3.heap.size wr u6 js := by rw [HE.out]; rw [List.take_length] at hown; exact hown
          have hBr := hB3.trans (hbel.mono hs3)
          have hown3k := hto
          obtain ⟨aJ, cJ, rfl, hi3, -⟩ := hto.ents HW.out
          have h3 := implBookOk_any _ _ _ _ _ _ hi3 (Nat.le_refl _)
          have hno3 : bookOk js = false → r = none := fun h => HN.out (.inr (.inr h))
          have hyes3 : bookOk js = true → r = some js := fun h => HY.out (by first | rfl | trivial) (by first | rfl | trivial) h
          clear HN HY hown HE HW
          generalize bookOk js = b3 at h3 hno3 hyes3
          have HN3 := Lib.hid hno3; have HY3 := Lib.hid hyes3; clear hno3 hyes3
          go_wp2_with fail
          refine h3.mono ?_
          rintro e w4 ⟨rfl, hb4⟩
          have hB4 := hBr.trans (hb4.mono hBr.size)
          rcases b3 with _ | _
          · go_wp2_with fail
            go_ret2
            exact maybe_nil (HN3.out (by first | rfl | trivial)) hB4
          · have hr : r = some js := HY3.out (by first | rfl | trivial)
            have HR := Lib.hid hr; clear hr
            go_wp2_with fail
            go_ret2
            rw [HR.out]
            exact ⟨_, rfl, (hown3k.below hb4 (Nat.le_refl _)).mono hs3, hB4⟩
theorem all2_stop {ps : List (Ent × Ent)} {k : Nat} (h : k < ps.length) (hf : le2 (P2 ps k) = false) : ps.all le2 = false := by
  rw [List.all_eq_false]
  exact ⟨P2 ps k, by rw [P2_get h]; exact List.getElem_mem _, by rw [hf]; simp⟩
theorem all2_next {ps : List (Ent × Ent)} {k : Nat} (h : k < ps.length) (ha : (ps.take k).all le2 = true) (hf : le2 (P2 ps k) = true) : (ps.take (k + 1)).all le2 = true := by
  rw [takeP h, List.all_append, ha]
  simp [hf]
theorem within_noP {xs ys : List Ent} (h : bookOk xs = false ∨ bookOk ys = false) : within xs ys = false := by
  unfold within
  rcases h with h | h <;> simp [h]
theorem within_yesP {xs ys : List Ent} (h1 : bookOk xs = true) (h2 : bookOk ys = true) : within xs ys = (pairs xs ys).all le2 := by
  unfold within withinP
  rw [h1, h2]
  rfl
set_option maxHeartbeats 2000000 in
set_option maxRecDepth 100000 in
theorem implWithin_any (B : Nat) (ao1 : Option Addr) (n1 cap1 : Nat) (xs : List Ent) (ao2 : Option Addr) (n2 cap2 : Nat) (ys : List Ent) (w : World)
    (hx1 : Ents B w ao1 n1 cap1 xs) (hx2 : Ents B w ao2 n2 cap2 ys) (hB : B ≤ w.heap.size) (hn1 : n1 ≤ 1048576) (hn2 : n2 ≤ 1048576) :
    Calls Tryz.prog 10 #[.slice ao1 n1 cap1, .slice ao2 n2 cap2] w (Says (.bool (within xs ys)) w) := by
  have h1 := implBookOk_any B ao1 n1 cap1 xs w hx1 hB
  have h2 := fun w' (hb : Below w.heap.size w w') => implBookOk_any B ao2 n2 cap2 ys w' (hx2.below hb hB (Nat.le_refl B)) (by have := hb.size; omega)
  have hj := fun w' (hb : Below w.heap.size w w') => pairsByKey_any B ao1 n1 cap1 xs ao2 n2 cap2 ys w' (hx1.below hb hB (Nat.le_refl B)) (hx2.below hb hB (Nat.le_refl B)) (by have := hb.size; omega) hn1 hn2
  have hpl := pairs_len xs ys
  have hl1 := hx1.hlen; have hl2 := hx2.hlen
  have hno : bookOk xs = false ∨ bookOk ys = false → within xs ys = false := within_noP
  have hyes : bookOk xs = true → bookOk ys = true → within xs ys = (pairs xs ys).all le2 := within_yesP
  generalize within xs ys = r at hno hyes
  generalize pairs xs ys = ps at hj hpl hyes
  generalize bookOk xs = b1 at h1 hno hyes
  generalize bookOk ys = b2 at h2 hno hyes
  have hpn : ps.length ≤ 2097152 := by omega
  have HN := Lib.hid hno; have HY := Lib.hid hyes; have HJ := Lib.hid hj; have H2 := Lib.hid h2
  clear hno hyes hj h2 hx1 hx2 hpl hl1 hl2
  go_enter Tryz.func10, Tryz.ntmps10
  go_wp2_with fail
  refine h1.mono ?_
  rintro e w1 ⟨rfl, hb1⟩
  rcases b1 with _ | _
  · go_wp2_with fail
    go_ret
    exact ⟨ret_bool (HN.out (.inl (by first | rfl | trivial))).symm, hb1⟩
  · go_wp2_with fail
    refine (H2.out _ hb1).mono ?_
    rintro e w2 ⟨rfl, hb2⟩
    have hB2 := hb1.trans (hb2.mono hb1.size)
    rcases b2 with _ | _
    · go_wp2_with fail
      go_ret
      exact ⟨ret_bool (HN.out (.inr (by first | rfl | trivial))).symm, hB2⟩
    · go_wp2_with fail
      refine (HJ.out _ hB2).mono ?_
      rintro e w3 ⟨v3, rfl, hown3, hb3⟩
      have hB3 := hB2.trans (hb3.mono hB2.size)
      obtain ⟨a3, c3, rfl, hp3⟩ := hown3.prs
      have hs3 := hB3.size
      have hpc := hp3.hcap; have hpm := hp3.hmax
      unfold maxLen at hpm
      have hr : r = ps.all le2 := HY.out (by first | rfl | trivial) (by first | rfl | trivial)
      have HR := Lib.hid hr; clear hr
      clear hown3 hb3 hb2 hb1 HJ H2 h1 HN HY
      go_wp2
      go_loopw [19] (fun s19 wr => ∃ k : Nat, k ≤ ps.length ∧ s19 = .int .i64 k ∧ Hid ((ps.take k).all le2 = true) ∧ Below w3.heap.size w3 wr) (fun s19 _ => ps.length - (intOf s19).toNat)
      case atStart => exact ⟨0, Nat.zero_le _, rfl, Lib.hid (by simp), Below.refl _ _⟩
      case round =>
        obtain ⟨k, hk, rfl, hall, hbel⟩ := hrel
        have hsz := hbel.size
        by_cases hlt : k < ps.length
        · have hpr := hp3.below hbel (Nat.le_refl _) (Nat.le_refl _)
          obtain ⟨g, rfl, hgB, hcx, hcy⟩ := hpr.cell k hlt
          have hgo : le2 (P2 ps k) = true → (ps.take (k + 1)).all le2 = true := all2_next hlt hall.out
          have hstop : le2 (P2 ps k) = false → r = false := fun h => by rw [HR.out]; exact all2_stop hlt h
          obtain ⟨x, y, hxy⟩ : ∃ x y, P2 ps k = (x, y) := ⟨_, _, rfl⟩
          rw [hxy] at hcx hcy hgo hstop
          obtain ⟨c0, c1, c2, c3'⟩ := hcx
          obtain ⟨p0, p1, p2, p3⟩ := hcy
          have hnw := fun w => pwithin_any x y w
          generalize le2 (x, y) = z at hnw hgo hstop
          have HGO := Lib.hid hgo; have HSTOP := Lib.hid hstop; clear hgo hstop hxy
          have i0 : (0 : Int) ≤ k := by omega
          have i1 : (k : Int) < ps.length := by omega
          obtain ⟨W, hW⟩ : ∃ W, W = wr.alloc (.cells #[.int .i64 x.o, .int .i64 x.s, .int .i64 x.a, .int .i64 x.d, .int .i64 y.o, .int .i64 y.s, .int .i64 y.a, .int .i64 y.d] 49) := ⟨_, rfl⟩
          have hbW : Blk W wr.heap.size 49 #[.int .i64 x.o, .int .i64 x.s, .int .i64 x.a, .int .i64 x.d, .int .i64 y.o, .int .i64 y.s, .int .i64 y.a, .int .i64 y.d] := by rw [hW]; exact Blk.new _ _ _
          have hWb : Below w3.heap.size w3 W := by rw [hW]; exact hbel.alloc hsz _
          have q0 := hbW.cell 0; have q1 := hbW.cell 1; have q2 := hbW.cell 2; have q3 := hbW.cell 3
          have q4 := hbW.cell 4; have q5 := hbW.cell 5; have q6 := hbW.cell 6; have q7 := hbW.cell 7
          have hsW := hWb.size
          go_upto_region 6 with fail
          rw [← hW]
          clear hW hbW hbel c0 c1 c2 c3' p0 p1 p2 p3 hpr
          go_wp2_with fail
          refine (hnw _).mono ?_
          rintro e wN ⟨rfl, hbN⟩
          have hBN := hWb.trans (hbN.mono hsW)
          clear q0 q1 q2 q3 q4 q5 q6 q7 hnw
          rcases z with _ | _
          · have hrf := Lib.hid (HSTOP.out (by first | rfl | trivial))
            clear HGO HSTOP
            go_wp2
            go_ret
            exact ⟨ret_bool hrf.out.symm, hB3.trans (hBN.mono hs3)⟩
          · have hn := Lib.hid (HGO.out (by first | rfl | trivial))
            clear HGO HSTOP
            go_wp2
            go_roundw
            case rel => exact ⟨k + 1, by omega, by go_num, hn, hBN⟩
            case measure => simp [intOf]; omega
        · have ek : k = ps.length := by omega
          subst ek
          have hrt : r = true := by rw [HR.out]; have h := hall.out; rwa [List.take_length] at h
          go_wp2
          go_ret
          exact ⟨ret_bool hrt.symm, hB3.trans (hbel.mono hs3)⟩
end Go.Proofs.YtoniahfdjhhalaaGreat
