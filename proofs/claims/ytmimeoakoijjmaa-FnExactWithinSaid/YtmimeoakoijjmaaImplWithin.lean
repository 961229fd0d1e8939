/-
  impl.Within.
-/
import Derived.Test.YtmimeoakoijjmaaImplJoined
namespace Go.Proofs.Ytmimeoakoijjmaa
open Go.RowKit

theorem all2_stop {ps : List (Ent × Ent)} {k : Nat} (h : k < ps.length) (hf : le2 (P2 ps k) = false) : ps.all le2 = false := by
  rw [List.all_eq_false]
  exact ⟨P2 ps k, by rw [P2_get h]; exact List.getElem_mem _, by rw [hf]; simp⟩
theorem all2_next {ps : List (Ent × Ent)} {k : Nat} (h : k < ps.length) (ha : (ps.take k).all le2 = true) (hf : le2 (P2 ps k) = true) : (ps.take (k + 1)).all le2 = true := by
  rw [takeP h, List.all_append, ha]
  simp [hf]
theorem within_noP {xs ys : List Ent} (h : bookOk xs = false ∨ bookOk ys = false) : within xs ys = false := by
  unfold within
  rcases h with h | h <;> simp [h]
theorem within_yesP {xs ys : List Ent} (h1 : bookOk xs = true) (h2 : bookOk ys = true) : within xs ys = (pairs xs ys).all le2 := by
  unfold within withinP
  rw [h1, h2]
  rfl

set_option maxHeartbeats 2000000 in
set_option maxRecDepth 100000 in
theorem implWithin_any (B : Nat) (ao1 : Option Addr) (n1 cap1 : Nat) (xs : List Ent) (ao2 : Option Addr) (n2 cap2 : Nat) (ys : List Ent) (w : World)
    (hx1 : Ents B w ao1 n1 cap1 xs) (hx2 : Ents B w ao2 n2 cap2 ys) (hB : B ≤ w.heap.size) (hn1 : n1 ≤ 1048576) (hn2 : n2 ≤ 1048576) :
    Calls Try.prog 13 #[.slice ao1 n1 cap1, .slice ao2 n2 cap2] w (Says (.bool (within xs ys)) w) := by
  have h1 := implBookOk_any B ao1 n1 cap1 xs w hx1 hB
  have h2 := fun w' (hb : Below w.heap.size w w') => implBookOk_any B ao2 n2 cap2 ys w' (hx2.below hb hB (Nat.le_refl B)) (by have := hb.size; omega)
  have hj := fun w' (hb : Below w.heap.size w w') => pairsByKey_any B ao1 n1 cap1 xs ao2 n2 cap2 ys w' (hx1.below hb hB (Nat.le_refl B)) (hx2.below hb hB (Nat.le_refl B)) (by have := hb.size; omega) hn1 hn2
  have hpl := pairs_len xs ys
  have hl1 := hx1.hlen; have hl2 := hx2.hlen
  have hno : bookOk xs = false ∨ bookOk ys = false → within xs ys = false := within_noP
  have hyes : bookOk xs = true → bookOk ys = true → within xs ys = (pairs xs ys).all le2 := within_yesP
  generalize within xs ys = r at hno hyes
  generalize pairs xs ys = ps at hj hpl hyes
  generalize bookOk xs = b1 at h1 hno hyes
  generalize bookOk ys = b2 at h2 hno hyes
  have hpn : ps.length ≤ 2097152 := by omega
  have HN := Lib.hid hno; have HY := Lib.hid hyes; have HJ := Lib.hid hj; have H2 := Lib.hid h2
  clear hno hyes hj h2 hx1 hx2 hpl hl1 hl2
  go_enter Try.func13, Try.ntmps13
  go_wp2_with fail
  refine h1.mono ?_
  rintro e w1 ⟨rfl, hb1⟩
  rcases b1 with _ | _
  · go_wp2_with fail
    go_ret
    exact ⟨ret_bool (HN.out (.inl (by first | rfl | trivial))).symm, hb1⟩
  · go_wp2_with fail
    refine (H2.out _ hb1).mono ?_
    rintro e w2 ⟨rfl, hb2⟩
    have hB2 := hb1.trans (hb2.mono hb1.size)
    rcases b2 with _ | _
    · go_wp2_with fail
      go_ret
      exact ⟨ret_bool (HN.out (.inr (by first | rfl | trivial))).symm, hB2⟩
    · go_wp2_with fail
      refine (HJ.out _ hB2).mono ?_
      rintro e w3 ⟨v3, rfl, hown3, hb3⟩
      have hB3 := hB2.trans (hb3.mono hB2.size)
      obtain ⟨a3, c3, rfl, hp3⟩ := hown3.prs
      have hs3 := hB3.size
      have hpc := hp3.hcap; have hpm := hp3.hmax
      unfold maxLen at hpm
      have hr : r = ps.all le2 := HY.out (by first | rfl | trivial) (by first | rfl | trivial)
      have HR := Lib.hid hr; clear hr
      clear hown3 hb3 hb2 hb1 HJ H2 h1 HN HY
      go_wp2
      go_loopw [19] (fun s19 wr => ∃ k : Nat, k ≤ ps.length ∧ s19 = .int .i64 k ∧ Hid ((ps.take k).all le2 = true) ∧ Below w3.heap.size w3 wr) (fun s19 _ => ps.length - (intOf s19).toNat)
      case atStart => exact ⟨0, Nat.zero_le _, rfl, Lib.hid (by simp), Below.refl _ _⟩
      case round =>
        obtain ⟨k, hk, rfl, hall, hbel⟩ := hrel
        have hsz := hbel.size
        by_cases hlt : k < ps.length
        · have hpr := hp3.below hbel (Nat.le_refl _) (Nat.le_refl _)
          obtain ⟨g, rfl, hgB, hcx, hcy⟩ := hpr.cell k hlt
          have hgo : le2 (P2 ps k) = true → (ps.take (k + 1)).all le2 = true := all2_next hlt hall.out
          have hstop : le2 (P2 ps k) = false → r = false := fun h => by rw [HR.out]; exact all2_stop hlt h
          obtain ⟨x, y, hxy⟩ : ∃ x y, P2 ps k = (x, y) := ⟨_, _, rfl⟩
          rw [hxy] at hcx hcy hgo hstop
          obtain ⟨c0, c1, c2, c3'⟩ := hcx
          obtain ⟨p0, p1, p2, p3⟩ := hcy
          have hnw := fun w => pwithin_any x y w
          generalize le2 (x, y) = z at hnw hgo hstop
          have HGO := Lib.hid hgo; have HSTOP := Lib.hid hstop; clear hgo hstop hxy
          have i0 : (0 : Int) ≤ k := by omega
          have i1 : (k : Int) < ps.length := by omega
          obtain ⟨W, hW⟩ : ∃ W, W = wr.alloc (.cells #[.int .i64 x.o, .int .i64 x.s, .int .i64 x.a, .int .i64 x.d, .int .i64 y.o, .int .i64 y.s, .int .i64 y.a, .int .i64 y.d] 40) := ⟨_, rfl⟩
          have hbW : Blk W wr.heap.size 40 #[.int .i64 x.o, .int .i64 x.s, .int .i64 x.a, .int .i64 x.d, .int .i64 y.o, .int .i64 y.s, .int .i64 y.a, .int .i64 y.d] := by rw [hW]; exact Blk.new _ _ _
          have hWb : Below w3.heap.size w3 W := by rw [hW]; exact hbel.alloc hsz _
          have q0 := hbW.cell 0; have q1 := hbW.cell 1; have q2 := hbW.cell 2; have q3 := hbW.cell 3
          have q4 := hbW.cell 4; have q5 := hbW.cell 5; have q6 := hbW.cell 6; have q7 := hbW.cell 7
          have hsW := hWb.size
          go_upto_region 6 with fail
          rw [← hW]
          clear hW hbW hbel c0 c1 c2 c3' p0 p1 p2 p3 hpr
          go_wp2_with fail
          refine (hnw _).mono ?_
          rintro e wN ⟨rfl, hbN⟩
          have hBN := hWb.trans (hbN.mono hsW)
          clear q0 q1 q2 q3 q4 q5 q6 q7 hnw
          rcases z with _ | _
          · have hrf := Lib.hid (HSTOP.out (by first | rfl | trivial))
            clear HGO HSTOP
            go_wp2
            go_ret
            exact ⟨ret_bool hrf.out.symm, hB3.trans (hBN.mono hs3)⟩
          · have hn := Lib.hid (HGO.out (by first | rfl | trivial))
            clear HGO HSTOP
            go_wp2
            go_roundw
            case rel => exact ⟨k + 1, by omega, by go_num, hn, hBN⟩
            case measure => simp [intOf]; omega
        · have ek : k = ps.length := by omega
          subst ek
          have hrt : r = true := by rw [HR.out]; have h := hall.out; rwa [List.take_length] at h
          go_wp2
          go_ret
          exact ⟨ret_bool hrt.symm, hB3.trans (hbel.mono hs3)⟩

end Go.Proofs.Ytmimeoakoijjmaa
