/-
  impl.Joined.
-/
import Derived.Test.YtmimeoakoijjmaaPairsByKey
import Derived.Test.YtmimeoakoijjmaaImplBookOk
namespace Go.Proofs.Ytmimeoakoijjmaa
open Go.RowKit

theorem takeP {ps : List (Ent × Ent)} {k : Nat} (h : k < ps.length) : ps.take (k + 1) = ps.take k ++ [P2 ps k] := by
  rw [List.take_succ_eq_append_getElem h, P2_get h]

set_option maxHeartbeats 2000000 in
set_option maxRecDepth 100000 in
theorem implJoined_any (B : Nat) (ao1 : Option Addr) (n1 cap1 : Nat) (xs : List Ent) (ao2 : Option Addr) (n2 cap2 : Nat) (ys : List Ent) (w : World)
    (hx1 : Ents B w ao1 n1 cap1 xs) (hx2 : Ents B w ao2 n2 cap2 ys) (hB : B ≤ w.heap.size) (hn1 : n1 ≤ 1048576) (hn2 : n2 ≤ 1048576) :
    Calls Try.prog 8 #[.slice ao1 n1 cap1, .slice ao2 n2 cap2] w (MaybeEs (joinR xs ys) w) := by
  have h1 := implBookOk_any B ao1 n1 cap1 xs w hx1 hB
  have h2 := fun w' (hb : Below w.heap.size w w') => implBookOk_any B ao2 n2 cap2 ys w' (hx2.below hb hB (Nat.le_refl B)) (by have := hb.size; omega)
  have hj := fun w' (hb : Below w.heap.size w w') => pairsByKey_any B ao1 n1 cap1 xs ao2 n2 cap2 ys w' (hx1.below hb hB (Nat.le_refl B)) (hx2.below hb hB (Nat.le_refl B)) (by have := hb.size; omega) hn1 hn2
  have hjw := join_wf hx1.wf hx2.wf
  have hpl := pairs_len xs ys
  have hl1 := hx1.hlen; have hl2 := hx2.hlen
  have hno : bookOk xs = false ∨ bookOk ys = false ∨ bookOk (joinE xs ys) = false → joinR xs ys = none := joinR_no
  have hyes : bookOk xs = true → bookOk ys = true → bookOk (joinE xs ys) = true → joinR xs ys = some (joinE xs ys) := joinR_yes
  have hje : joinE xs ys = (pairs xs ys).map newer := rfl
  generalize joinR xs ys = r at hno hyes
  generalize joinE xs ys = js at hjw hno hyes hje
  generalize pairs xs ys = ps at hj hpl hje
  generalize bookOk xs = b1 at h1 hno hyes
  generalize bookOk ys = b2 at h2 hno hyes
  have hpn : ps.length ≤ 2097152 := by omega
  have HN := Lib.hid hno; have HY := Lib.hid hyes; have HJ := Lib.hid hj; have H2 := Lib.hid h2; have HE := Lib.hid hje; have HW := Lib.hid hjw
  clear hno hyes hj h2 hx1 hx2 hje hjw hpl hl1 hl2
  go_enter Try.func8, Try.ntmps8
  go_wp2_with fail
  refine h1.mono ?_
  rintro e w1 ⟨rfl, hb1⟩
  rcases b1 with _ | _
  · go_wp2_with fail
    go_ret2
    exact maybe_nil (HN.out (.inl (by first | rfl | trivial))) hb1
  · go_wp2_with fail
    refine (H2.out _ hb1).mono ?_
    rintro e w2 ⟨rfl, hb2⟩
    have hB2 := hb1.trans (hb2.mono hb1.size)
    rcases b2 with _ | _
    · go_wp2_with fail
      go_ret2
      exact maybe_nil (HN.out (.inr (.inl (by first | rfl | trivial)))) hB2
    · go_wp2_with fail
      refine (HJ.out _ hB2).mono ?_
      rintro e w3 ⟨v3, rfl, hown3, hb3⟩
      have hB3 := hB2.trans (hb3.mono hB2.size)
      obtain ⟨a3, c3, rfl, hp3⟩ := hown3.prs
      have hs3 := hB3.size
      have hpc := hp3.hcap; have hpm := hp3.hmax
      unfold maxLen at hpm
      clear hown3 hb3 hb2 hb1 HJ H2 h1
      go_wp2
      go_loopw [6, 21] (fun s6 s21 wr => ∃ k : Nat, k ≤ ps.length ∧ s21 = .int .i64 k ∧ OwnE w3.heap.size wr s6 ((ps.take k).map newer) ∧ Below w3.heap.size w3 wr) (fun _ s21 _ => ps.length - (intOf s21).toNat)
      case atStart => exact ⟨0, Nat.zero_le _, rfl, ownE_nil _ _, Below.refl _ _⟩
      case round =>
        obtain ⟨k, hk, rfl, hown, hbel⟩ := hrel
        have hsz := hbel.size
        by_cases hlt : k < ps.length
        · have hpr := hp3.below hbel (Nat.le_refl _) (Nat.le_refl _)
          obtain ⟨g, rfl, hgB, hcx, hcy⟩ := hpr.cell k hlt
          have hstep := takeP hlt
          obtain ⟨x, y, hxy⟩ : ∃ x y, P2 ps k = (x, y) := ⟨_, _, rfl⟩
          rw [hxy] at hcx hcy hstep
          obtain ⟨c0, c1, c2, c3'⟩ := hcx
          obtain ⟨p0, p1, p2, p3⟩ := hcy
          have hmap : (ps.take (k + 1)).map newer = (ps.take k).map newer ++ [newer (x, y)] := by rw [hstep, List.map_append]; rfl
          have HM := Lib.hid hmap; clear hmap hstep hxy
          have hnw := fun w => newer_any x y w
          generalize newer (x, y) = z at hnw HM
          have i0 : (0 : Int) ≤ k := by omega
          have i1 : (k : Int) < ps.length := by omega
          have hkl : ((ps.take k).map newer).length ≤ 1099511627776 := by rw [List.length_map, List.length_take]; omega
          obtain ⟨W, hW⟩ : ∃ W, W = wr.alloc (.cells #[.int .i64 x.o, .int .i64 x.s, .int .i64 x.a, .int .i64 x.d, .int .i64 y.o, .int .i64 y.s, .int .i64 y.a, .int .i64 y.d] 40) := ⟨_, rfl⟩
          have hbW : Blk W wr.heap.size 40 #[.int .i64 x.o, .int .i64 x.s, .int .i64 x.a, .int .i64 x.d, .int .i64 y.o, .int .i64 y.s, .int .i64 y.a, .int .i64 y.d] := by rw [hW]; exact Blk.new _ _ _
          have hWb : Below w3.heap.size w3 W := by rw [hW]; exact hbel.alloc hsz _
          have hoW := hown.alloc (.cells #[.int .i64 x.o, .int .i64 x.s, .int .i64 x.a, .int .i64 x.d, .int .i64 y.o, .int .i64 y.s, .int .i64 y.a, .int .i64 y.d] 40)
          rw [← hW] at hoW
          have q0 := hbW.cell 0; have q1 := hbW.cell 1; have q2 := hbW.cell 2; have q3 := hbW.cell 3
          have q4 := hbW.cell 4; have q5 := hbW.cell 5; have q6 := hbW.cell 6; have q7 := hbW.cell 7
          have hsW := hWb.size
          go_upto_region 7 with fail
          rw [← hW]
          clear hW hbW hown hbel c0 c1 c2 c3' p0 p1 p2 p3 hpr
          go_wp2_with fail
          refine (hnw _).mono ?_
          rintro e wN ⟨rfl, hbN⟩
          have hoN := hoW.below hbN (Nat.le_refl _)
          have hBN := hWb.trans (hbN.mono hsW)
          clear q0 q1 q2 q3 q4 q5 q6 q7 hoW hnw
          have hval : z.val = .agg #[.int .i64 z.o, .int .i64 z.s, .int .i64 z.a, .int .i64 z.d] := rfl
          rw [hval]
          go_wp2_with (at_builtin; refine appendE_one z rfl _ _ rfl w3.heap.size _ _ rfl rfl hoN hBN.size hkl ?_; intro v' w' hown' hb')
          go_roundw
          case rel => exact ⟨k + 1, by omega, by go_num, by rw [HM.out]; exact hown', hBN.trans hb'⟩
          case measure => simp [intOf]; omega
        · have ek : k = ps.length := by omega
          subst ek
          have hto : OwnE w3.heap.size wr u6 js := by rw [HE.out]; rw [List.take_length] at hown; exact hown
          have hBr := hB3.trans (hbel.mono hs3)
          have hown3k := hto
          obtain ⟨aJ, cJ, rfl, hi3, -⟩ := hto.ents HW.out
          have h3 := implBookOk_any _ _ _ _ _ _ hi3 (Nat.le_refl _)
          have hno3 : bookOk js = false → r = none := fun h => HN.out (.inr (.inr h))
          have hyes3 : bookOk js = true → r = some js := fun h => HY.out (by first | rfl | trivial) (by first | rfl | trivial) h
          clear HN HY hown HE HW
          generalize bookOk js = b3 at h3 hno3 hyes3
          have HN3 := Lib.hid hno3; have HY3 := Lib.hid hyes3; clear hno3 hyes3
          go_wp2_with fail
          refine h3.mono ?_
          rintro e w4 ⟨rfl, hb4⟩
          have hB4 := hBr.trans (hb4.mono hBr.size)
          rcases b3 with _ | _
          · go_wp2_with fail
            go_ret2
            exact maybe_nil (HN3.out (by first | rfl | trivial)) hB4
          · have hr : r = some js := HY3.out (by first | rfl | trivial)
            have HR := Lib.hid hr; clear hr
            go_wp2_with fail
            go_ret2
            rw [HR.out]
            exact ⟨_, rfl, (hown3k.below hb4 (Nat.le_refl _)).mono hs3, hB4⟩

end Go.Proofs.Ytmimeoakoijjmaa
