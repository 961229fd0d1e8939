/- Texts of this claim, put together. -/
import Derived.Test.YtoniahfdjhhalaaGreatP1
import Derived.Test.YtoniahfdjhhalaaGreatP2
import Derived.Test.YtoniahfdjhhalaaGreatP6
import Derived.Test.YtoniahfdjhhalaaGreatP45
import Derived.WalkMore

namespace Go.Proofs.YtoniahfdjhhalaaGreat
open Go.RowKit
def NewPs (ps : List (Ent × Ent)) (w : World) (e : Ending) (w' : World) : Prop := ∃ v, e = .returned v ∧ OwnP w.heap.size w' v ps ∧ Below w.heap.size w w'
theorem pairs_drop {xs bs : List Ent} {k : Nat} (h : k < xs.length) : pairs (xs.drop k) bs = pairs (E xs k :: xs.drop (k + 1)) bs := by rw [dropE' h]
theorem pairs_low {xs b : List Ent} {y : Ent} {k : Nat} {ps R : List (Ent × Ent)} (hk : k < xs.length) (h : ps ++ pairs (xs.drop k) (y :: b) = R) (hl : y.key < (E xs k).key) : (ps ++ [(zeroE, y)]) ++ pairs (xs.drop k) b = R := by
  rw [← h, pairs_drop hk, pairs_drop hk, pairs_lt hl, List.append_assoc]
  rfl
theorem pairs_same {xs b : List Ent} {y : Ent} {k : Nat} {ps R : List (Ent × Ent)} (hk : k < xs.length) (h : ps ++ pairs (xs.drop k) (y :: b) = R) (hl : y.key = (E xs k).key) : (ps ++ [(E xs k, y)]) ++ pairs (xs.drop (k + 1)) b = R := by
  rw [← h, pairs_drop hk, pairs_eq hl, List.append_assoc]
  rfl
theorem pairs_high {xs b : List Ent} {y : Ent} {k : Nat} {ps R : List (Ent × Ent)} (hk : k < xs.length) (h : ps ++ pairs (xs.drop k) (y :: b) = R) (hl : (E xs k).key < y.key) : (ps ++ [(E xs k, zeroE)]) ++ pairs (xs.drop (k + 1)) (y :: b) = R := by
  rw [← h, pairs_drop hk, pairs_gt hl, List.append_assoc]
  rfl
theorem pairs_end {xs : List Ent} {k : Nat} {ps R : List (Ent × Ent)} (hk : k < xs.length) (h : ps ++ pairs (xs.drop k) [] = R) : (ps ++ [(E xs k, zeroE)]) ++ pairs (xs.drop (k + 1)) [] = R := by
  rw [← h, pairs_drop hk, pairs_one, List.append_assoc]
  rfl
theorem pairs_rest {b : List Ent} {j : Nat} {ps R : List (Ent × Ent)} (hj : j < b.length) (h : ps ++ pairs [] (b.drop j) = R) : (ps ++ [(zeroE, E b j)]) ++ pairs [] (b.drop (j + 1)) = R := by
  rw [← h, dropE' hj, pairs_nil, pairs_nil, List.append_assoc]
  rfl
def Rest (B : Nat) (w : World) (v : Value) (b : List Ent) : Prop := ∃ ao cap, v = .slice ao b.length cap ∧ Ents B w ao b.length cap b
theorem Rest.tail {B : Nat} {w : World} {bb off cap : Nat} {y : Ent} {r : List Ent} (h : Ents B w (some ⟨bb, off, none⟩) (y :: r).length cap (y :: r)) (hc : cap = 1) : Rest B w (.slice (some ⟨bb, off, none⟩) 0 0) r := by
  have h1 := h.drop 1 (by simp)
  subst hc
  have h2 : r.length + 1 ≤ 1 := h.hcap
  have hr : r = [] := List.eq_nil_of_length_eq_zero (by omega)
  subst hr
  exact ⟨_, _, rfl, by simpa using h1⟩
theorem Rest.tail2 {B : Nat} {w : World} {bb off cap : Nat} {y : Ent} {r : List Ent} (h : Ents B w (some ⟨bb, off, none⟩) (y :: r).length cap (y :: r)) (hc : ¬ cap = 1) : Rest B w (.slice (some ⟨bb, off + 4, none⟩) r.length (cap - 1)) r := by
  have h1 := h.drop 1 (by simp)
  rw [if_neg hc] at h1
  exact ⟨_, _, rfl, by simpa [Addr.add_lit] using h1⟩
set_option maxHeartbeats 4000000 in
set_option maxRecDepth 100000 in
theorem pairsByKey_any (B : Nat) (ao1 : Option Addr) (n1 cap1 : Nat) (xs : List Ent) (ao2 : Option Addr) (n2 cap2 : Nat) (ys : List Ent) (w : World)
    (hx1 : Ents B w ao1 n1 cap1 xs) (hx2 : Ents B w ao2 n2 cap2 ys) (hB : B ≤ w.heap.size) (hn1 : n1 ≤ 1048576) (hn2 : n2 ≤ 1048576) :
    Calls Tryz.prog 17 #[.slice ao1 n1 cap1, .slice ao2 n2 cap2] w (NewPs (pairs xs ys) w) := by
  have hl1 := hx1.hlen; have hl2 := hx2.hlen
  have hc1 := hx1.hcap; have hm1 := hx1.hmax
  unfold maxLen at hm1
  subst hl1 hl2
  have hr0 : Rest B w (.slice ao2 ys.length cap2) ys := ⟨_, _, rfl, hx2⟩
  have hlen0 := pairs_len xs ys
  generalize hR : pairs xs ys = R at hlen0
  have hin0 : [] ++ pairs (xs.drop 0) ys = R := by rw [← hR]; rfl
  have HR := Lib.hid hR; clear hR
  have hK := fun (x : Ent) w => implKeyOf_any x.o x.s x.a x.d w
  have hkE : ∀ x : Ent, keyOf x.o x.s x.a x.d = x.key := fun _ => rfl
  simp only [hkE] at hK
  clear hkE
  have HK := Lib.hid hK; clear hK
  have hRl : R.length ≤ 2097152 := by omega
  have hql : ∀ {ps q : List (Ent × Ent)}, ps ++ q = R → ps.length ≤ 2097152 := fun h => by rw [← h, List.length_append] at hRl; omega
  have HQ : Hid (∀ ps q : List (Ent × Ent), ps ++ q = R → ps.length ≤ 2097152) := Lib.hid (fun ps q h => hql h)
  clear hql hlen0 hRl
  go_enter Tryz.func17, Tryz.ntmps17
  go_wp2
  go_step3
  go_wp2
  go_step3
  go_wp2
  go_loopg [1, 5, 13] xs.length (fun g s1 s5 s13 wr => ∃ (k : Nat) (b : List Ent) (ps : List (Ent × Ent)), k + g = xs.length ∧ s13 = .int .i64 k ∧ b.length ≤ ys.length ∧ Hid (ps ++ pairs (xs.drop k) b = R) ∧ Rest B w s1 b ∧ OwnP w.heap.size wr s5 ps ∧ Below w.heap.size w wr)
  case atStart => exact ⟨0, ys, [], by omega, rfl, Nat.le_refl _, Lib.hid hin0, hr0, ownP_nil _ _, Below.refl _ _⟩
  case round =>
    obtain ⟨k, b, ps, hkg, rfl, hbl, hin, hrest, hown, hbel⟩ := hrel
    cases gk with
    | zero =>
      have hk0 : ¬ ((k : Int) < (xs.length : Int)) := by omega
      have hin2 := hin.out
      rw [List.drop_of_length_le (show xs.length ≤ k by omega)] at hin2
      have HIN : Hid (ps ++ pairs [] (b.drop 0) = R) := Lib.hid hin2
      clear hin2 hin hx1 hx2 hr0
      obtain ⟨aoB, capB, rfl, hxB⟩ := hrest
      have hcb := hxB.hcap; have hmb := hxB.hmax
      unfold maxLen at hmb
      go_wp2
      go_loopg [5, 58] b.length (fun g s5 s58 wy => ∃ (j : Nat) (qs : List (Ent × Ent)), j + g = b.length ∧ s58 = .int .i64 j ∧ Hid (qs ++ pairs [] (b.drop j) = R) ∧ OwnP w.heap.size wy s5 qs ∧ Below w.heap.size w wy)
      case atStart => exact ⟨0, ps, by omega, rfl, HIN, hown, hbel⟩
      case round =>
        obtain ⟨j, qs, hjg, rfl, hin, hown, hbel⟩ := hrel
        cases gk with
        | zero =>
          have hj0 : ¬ ((j : Int) < (b.length : Int)) := by omega
          have hqs : qs = R := by
            have h := hin.out
            rwa [List.drop_of_length_le (show b.length ≤ j by omega), pairs_nil, List.map_nil, List.append_nil] at h
          subst hqs
          go_wp2
          try rw [Exit.noGoto_ret]
          go_ret
          exact ⟨_, rfl, hown, hbel⟩
        | succ g2 =>
          have hj0 : (j : Int) < (b.length : Int) := by omega
          have hjl : j < b.length := by omega
          have hxr := hxB.below hbel hB (Nat.le_refl B)
          obtain ⟨bb, off, rfl, hbB, hc⟩ := hxr.at j hjl
          obtain ⟨c0, c1, c2, c3⟩ := hc j hjl
          clear hc hxr
          have hnext := pairs_rest hjl hin.out
          have hqn := HQ.out _ _ hin.out
          generalize E b j = y at c0 c1 c2 c3 hnext
          have HN := Lib.hid hnext; clear hnext hin
          have hsz := hbel.size
          obtain ⟨W, hW⟩ : ∃ W, W = wr.alloc (.cells #[.int .i64 y.o, .int .i64 y.s, .int .i64 y.a, .int .i64 y.d] 47) := ⟨_, rfl⟩
          have hbW : Blk W wr.heap.size 47 #[.int .i64 y.o, .int .i64 y.s, .int .i64 y.a, .int .i64 y.d] := by rw [hW]; exact Blk.new _ _ _
          have hWb : Below w.heap.size w W := by rw [hW]; exact hbel.alloc hsz _
          have hoW : OwnP w.heap.size W u5 qs := by rw [hW]; exact hown.alloc _
          have hsW := hWb.size
          have p0 := hbW.cell 0; have p1 := hbW.cell 1; have p2 := hbW.cell 2; have p3 := hbW.cell 3
          go_upto_region 16 with fail
          rw [← hW]
          clear hW hbW hown hbel c0 c1 c2 c3
          go_wp2_with (at_builtin; refine appendP_one zeroE y rfl _ _ rfl w.heap.size _ qs rfl rfl hoW hsW (by omega) ?_; intro v' w' hown' hb' hk')
          go_roundg g2
          case measure => omega
          case rel => exact ⟨j + 1, _, by omega, by go_num, HN, hown', hWb.trans hb'⟩
    | succ g =>
      have hk0 : (k : Int) < (xs.length : Int) := by omega
      have hkl : k < xs.length := by omega
      have hxr := hx1.below hbel hB (Nat.le_refl B)
      obtain ⟨b1, off1, rfl, hb1B, hc⟩ := hxr.at k hkl
      obtain ⟨c0, c1, c2, c3⟩ := hc k hkl
      clear hc hxr
      have hsz := hbel.size
      have hlow := fun (y : Ent) (b' : List Ent) (q : List (Ent × Ent)) (h : q ++ pairs (xs.drop k) (y :: b') = R) (hl : y.key < (E xs k).key) => pairs_low hkl h hl
      have hsame := fun (y : Ent) (b' : List Ent) (q : List (Ent × Ent)) (h : q ++ pairs (xs.drop k) (y :: b') = R) (hl : y.key = (E xs k).key) => pairs_same hkl h hl
      have hhigh := fun (y : Ent) (b' : List Ent) (q : List (Ent × Ent)) (h : q ++ pairs (xs.drop k) (y :: b') = R) (hl : (E xs k).key < y.key) => pairs_high hkl h hl
      have hend := fun (q : List (Ent × Ent)) (h : q ++ pairs (xs.drop k) [] = R) => pairs_end hkl h
      generalize E xs k = x at c0 c1 c2 c3 hlow hsame hhigh hend
      have HLO := Lib.hid hlow; have HSA := Lib.hid hsame; have HHI := Lib.hid hhigh; have HEN := Lib.hid hend; clear hlow hsame hhigh hend
      obtain ⟨gx, hgx⟩ : ∃ gx, gx = wr.heap.size := ⟨_, rfl⟩
      obtain ⟨W, hW⟩ : ∃ W, W = wr.alloc (.cells #[.int .i64 x.o, .int .i64 x.s, .int .i64 x.a, .int .i64 x.d] 47) := ⟨_, rfl⟩
      have hbW : Blk W gx 47 #[.int .i64 x.o, .int .i64 x.s, .int .i64 x.a, .int .i64 x.d] := by rw [hW, hgx]; exact Blk.new _ _ _
      have hWb : Below w.heap.size w W := by rw [hW]; exact hbel.alloc hsz _
      have hoW : OwnP w.heap.size W u5 ps := by rw [hW]; exact hown.alloc _
      have hwg : w.heap.size ≤ gx := by omega
      go_wp2
      rw [← hW, ← hgx]
      clear hW hgx hown hbel c0 c1 c2 c3
      go_loopg [1, 5] b.length (fun g2 s1 s5 wy => ∃ (b' : List Ent) (qs : List (Ent × Ent)), b'.length = g2 ∧ b'.length ≤ ys.length ∧ Hid (qs ++ pairs (xs.drop k) b' = R) ∧ Rest B w s1 b' ∧ OwnP w.heap.size wy s5 qs ∧ Below w.heap.size w wy ∧ Blk wy gx 47 #[.int .i64 x.o, .int .i64 x.s, .int .i64 x.a, .int .i64 x.d])
      case atStart => exact ⟨b, ps, rfl, hbl, hin, hrest, hoW, hWb, hbW⟩
      case round =>
        obtain ⟨b', qs, hg2, hbl', hin', hrest', hown', hbel', hblk⟩ := hrel
        have HQN : qs.length ≤ 1099511627776 := by have := HQ.out _ _ hin'.out; omega
        have hsz' := hbel'.size
        cases gk with
        | zero =>
          obtain rfl : b' = [] := List.eq_nil_of_length_eq_zero hg2
          have hnext := Lib.hid (HEN.out qs hin'.out)
          obtain ⟨aoB, capB, rfl, hxB⟩ := id hrest'
          have p0 := hblk.cell 0; have p1 := hblk.cell 1; have p2 := hblk.cell 2; have p3 := hblk.cell 3
          clear HLO HSA HHI HEN
          go_wp2_with fail
          go_quiet (fail)
          go_wp2_with (at_builtin; refine appendP_one x zeroE rfl _ _ rfl w.heap.size _ qs rfl rfl (hown'.below (below_drewN (Below.refl _ _) _) (Nat.le_refl _)) hsz' HQN ?_; intro v' w' hown' hb' hk')
          go_roundg g
          case measure => omega
          case rel => exact ⟨k + 1, [], _, by omega, by go_num, by simp, hnext, hrest', hown', (below_drewN hbel' _).trans hb'⟩
        | succ g2 =>
          obtain ⟨y, r, rfl⟩ : ∃ y r, b' = y :: r := by
            cases b' with
            | nil => simp at hg2
            | cons y r => exact ⟨y, r, rfl⟩
          obtain ⟨aoB, capB, rfl, hxB⟩ := id hrest'
          have hcb : r.length + 1 ≤ capB := hxB.hcap
          have hmb := hxB.hmax
          unfold maxLen at hmb
          have hxr := hxB.below hbel' hB (Nat.le_refl B)
          obtain ⟨bb, off, rfl, hbB, hc⟩ := hxr.at 0 (by simp)
          have g1 : Ent4 wr bb off y := by
            have h := hc 0 (by simp)
            rw [Nat.zero_mul, Nat.add_zero] at h
            exact h
          clear hc hxr
          have hgl := hblk.lt
          have HVV : ∀ w', Below wr.heap.size wr w' → Ent4 w' bb off y := fun w' h => g1.below h (by omega)
          have HDD : ∀ w', Below wr.heap.size wr w' → Blk w' gx 47 #[.int .i64 x.o, .int .i64 x.s, .int .i64 x.a, .int .i64 x.d] := fun w' h => hblk.below h hgl
          have HV := Lib.hid HVV; have HD := Lib.hid HDD; clear HVV HDD
          obtain ⟨c0, c1, c2, c3⟩ := g1
          have p0 := hblk.cell 0; have p1 := hblk.cell 1; have p2 := hblk.cell 2; have p3 := hblk.cell 3
          have HN1 : Hid (y.key < x.key → (qs ++ [(zeroE, y)]) ++ pairs (xs.drop k) r = R) := Lib.hid (HLO.out y r qs hin'.out)
          have HN2 : Hid (y.key = x.key → (qs ++ [(x, y)]) ++ pairs (xs.drop (k + 1)) r = R) := Lib.hid (HSA.out y r qs hin'.out)
          have HN3 : Hid (x.key < y.key → (qs ++ [(x, zeroE)]) ++ pairs (xs.drop (k + 1)) (y :: r) = R) := Lib.hid (HHI.out y r qs hin'.out)
          clear HLO HSA HHI HEN
          have hT1 : capB = 1 → Rest B w (.slice (some ⟨bb, off, none⟩) 0 0) r := Rest.tail hxB
          have hT2 : ¬ capB = 1 → Rest B w (.slice (some ⟨bb, off + 4, none⟩) r.length (capB - 1)) r := Rest.tail2 hxB
          have HT1 := Lib.hid hT1; have HT2 := Lib.hid hT2; clear hT1 hT2
          have hl0 : (0 : Int) < (r.length : Int) + 1 := by omega
          clear hxB
          go_wp2_with fail
          go_region_held3 (fun w' => w'.cell? ⟨bb, off, none⟩ = some (.int .i64 y.o) ∧ w'.cell? ⟨bb, off + 1, none⟩ = some (.int .i64 y.s) ∧ w'.cell? ⟨bb, off + 2, none⟩ = some (.int .i64 y.a) ∧ w'.cell? ⟨bb, off + 3, none⟩ = some (.int .i64 y.d) ∧ w'.cell? ⟨gx, 0, none⟩ = some (.int .i64 x.o) ∧ w'.cell? ⟨gx, 1, none⟩ = some (.int .i64 x.s) ∧ w'.cell? ⟨gx, 2, none⟩ = some (.int .i64 x.a) ∧ w'.cell? ⟨gx, 3, none⟩ = some (.int .i64 x.d))
            (first | exact ⟨(HV.out _ HBB).h0, (HV.out _ HBB).h1, (HV.out _ HBB).h2, (HV.out _ HBB).h3, (HD.out _ HBB).cell 0, (HD.out _ HBB).cell 1, (HD.out _ HBB).cell 2, (HD.out _ HBB).cell 3⟩ | exact ⟨(HV.out _ HBA).h0, (HV.out _ HBA).h1, (HV.out _ HBA).h2, (HV.out _ HBA).h3, (HD.out _ HBA).cell 0, (HD.out _ HBA).cell 1, (HD.out _ HBA).cell 2, (HD.out _ HBA).cell 3⟩ | exact ⟨c0, c1, c2, c3, p0, p1, p2, p3⟩)
            (first
              | (go_at_call_of 34 (Value.agg #[Value.int IntKind.i64 y.o, Value.int IntKind.i64 y.s, Value.int IntKind.i64 y.a, Value.int IntKind.i64 y.d]); refine (HK.out y _).mono ?_; rintro e wAHBA ⟨rfl, hbHBA⟩; have HBA := (Below.refl wr.heap.size wr).drew.trans hbHBA)
              | (go_at_call_of 34 (Value.agg #[Value.int IntKind.i64 x.o, Value.int IntKind.i64 x.s, Value.int IntKind.i64 x.a, Value.int IntKind.i64 x.d]); refine (HK.out x _).mono ?_; rintro e wAHBB ⟨rfl, hbHBB⟩; have HBB := HBA.trans (hbHBB.mono HBA.size)))
          have hblB : Below w.heap.size w wAHBB := hbel'.trans (HBB.mono hsz')
          have hoB := hown'.below HBB (Nat.le_refl _)
          have hkB := HD.out _ HBB
          have hszB := hblB.size
          clear c0 c1 c2 c3 p0 p1 p2 p3 hblk hbel' hown'
          have hg2' : r.length = g2 := by simp only [List.length_cons] at hg2; omega
          by_cases hgt : x.key < y.key
          · have d1 : decide (y.key ≤ x.key) = false := decide_eq_false (by omega)
            have hnext := Lib.hid (HN3.out hgt)
            have p0 := hkB.cell 0; have p1 := hkB.cell 1; have p2 := hkB.cell 2; have p3 := hkB.cell 3
            clear HN1 HN2 HN3 HV HD
            go_wp2_with (at_builtin; refine appendP_one x zeroE rfl _ _ rfl w.heap.size _ qs rfl rfl hoB hszB HQN ?_; intro v' w' hown' hb' hk')
            go_roundg g
            case measure => omega
            case rel => exact ⟨k + 1, y :: r, _, by omega, by go_num, hbl', hnext, (by first | exact hrest' | (rw [← hg2']; exact hrest')), hown', hblB.trans hb'⟩
          · have d1 : decide (y.key ≤ x.key) = true := decide_eq_true (by omega)
            obtain ⟨W2, hW2⟩ : ∃ W2, W2 = wAHBB.alloc (.cells #[.int .i64 y.o, .int .i64 y.s, .int .i64 y.a, .int .i64 y.d] 47) := ⟨_, rfl⟩
            obtain ⟨gy, hgy⟩ : ∃ gy, gy = wAHBB.heap.size := ⟨_, rfl⟩
            have hbY : Blk W2 gy 47 #[.int .i64 y.o, .int .i64 y.s, .int .i64 y.a, .int .i64 y.d] := by rw [hW2, hgy]; exact Blk.new _ _ _
            have hbX : Blk W2 gx 47 #[.int .i64 x.o, .int .i64 x.s, .int .i64 x.a, .int .i64 x.d] := by rw [hW2]; exact hkB.alloc _
            have hWb2 : Below w.heap.size w W2 := by rw [hW2]; exact hblB.alloc hszB _
            have hoW2 := hoB.alloc (.cells #[.int .i64 y.o, .int .i64 y.s, .int .i64 y.a, .int .i64 y.d] 47)
            rw [← hW2] at hoW2
            have hrl : r.length ≤ ys.length := by simp only [List.length_cons] at hbl'; omega
            obtain ⟨e0, e1, e2, e3⟩ := HV.out _ HBB
            have hr1 : (1 : Int) ≤ (r.length : Int) + 1 := by omega
            have hr2 : r.length + 1 ≤ capB := hcb
            by_cases hcap : capB = 1
            · have hrz : r = [] := List.eq_nil_of_length_eq_zero (by omega)
              have hgz : g2 = 0 := by omega
              have hrr := HT1.out hcap
              subst hrz hgz
              subst hcap
              go_upto_region 8 with fail
              rw [← hW2, ← hgy]
              clear hW2 hgy e0 e1 e2 e3 HV HD hoB hkB hblB HBA HBB HN3
              have hgyl := hbY.lt
              have hgxl := hbX.lt
              have HYY : ∀ w', Below W2.heap.size W2 w' → Blk w' gy 47 #[.int .i64 y.o, .int .i64 y.s, .int .i64 y.a, .int .i64 y.d] := fun w' h => hbY.below h hgyl
              have HXX : ∀ w', Below W2.heap.size W2 w' → Blk w' gx 47 #[.int .i64 x.o, .int .i64 x.s, .int .i64 x.a, .int .i64 x.d] := fun w' h => hbX.below h hgxl
              have HY := Lib.hid HYY; have HX := Lib.hid HXX; clear HYY HXX
              have y0 := hbY.cell 0; have y1 := hbY.cell 1; have y2 := hbY.cell 2; have y3 := hbY.cell 3
              have q0 := hbX.cell 0; have q1 := hbX.cell 1; have q2 := hbX.cell 2; have q3 := hbX.cell 3
              go_wp2_with fail
              go_region_held3 (fun w' => w'.cell? ⟨gy, 0, none⟩ = some (.int .i64 y.o) ∧ w'.cell? ⟨gy, 1, none⟩ = some (.int .i64 y.s) ∧ w'.cell? ⟨gy, 2, none⟩ = some (.int .i64 y.a) ∧ w'.cell? ⟨gy, 3, none⟩ = some (.int .i64 y.d) ∧ w'.cell? ⟨gx, 0, none⟩ = some (.int .i64 x.o) ∧ w'.cell? ⟨gx, 1, none⟩ = some (.int .i64 x.s) ∧ w'.cell? ⟨gx, 2, none⟩ = some (.int .i64 x.a) ∧ w'.cell? ⟨gx, 3, none⟩ = some (.int .i64 x.d))
                (first | exact ⟨(HY.out _ HBD).cell 0, (HY.out _ HBD).cell 1, (HY.out _ HBD).cell 2, (HY.out _ HBD).cell 3, (HX.out _ HBD).cell 0, (HX.out _ HBD).cell 1, (HX.out _ HBD).cell 2, (HX.out _ HBD).cell 3⟩ | exact ⟨(HY.out _ HBC).cell 0, (HY.out _ HBC).cell 1, (HY.out _ HBC).cell 2, (HY.out _ HBC).cell 3, (HX.out _ HBC).cell 0, (HX.out _ HBC).cell 1, (HX.out _ HBC).cell 2, (HX.out _ HBC).cell 3⟩ | exact ⟨y0, y1, y2, y3, q0, q1, q2, q3⟩)
                (first
                  | (go_at_call_of 34 (Value.agg #[Value.int IntKind.i64 y.o, Value.int IntKind.i64 y.s, Value.int IntKind.i64 y.a, Value.int IntKind.i64 y.d]); refine (HK.out y _).mono ?_; rintro e wAHBC ⟨rfl, hbHBC⟩; have HBC := (Below.refl W2.heap.size W2).drew.trans hbHBC)
                  | (go_at_call_of 34 (Value.agg #[Value.int IntKind.i64 x.o, Value.int IntKind.i64 x.s, Value.int IntKind.i64 x.a, Value.int IntKind.i64 x.d]); refine (HK.out x _).mono ?_; rintro e wAHBD ⟨rfl, hbHBD⟩; have HBD := HBC.trans (hbHBD.mono HBC.size)))
              have hbE := hWb2.trans (HBD.mono hWb2.size)
              have hoE := hoW2.below HBD (Nat.le_refl _)
              have hkx := HX.out _ HBD
              have hky := HY.out _ HBD
              have hszE := hbE.size
              clear y0 y1 y2 y3 q0 q1 q2 q3 HX HY hbX hbY hoW2 hWb2 HBC HBD
              have y0 := hky.cell 0; have y1 := hky.cell 1; have y2 := hky.cell 2; have y3 := hky.cell 3
              have q0 := hkx.cell 0; have q1 := hkx.cell 1; have q2 := hkx.cell 2; have q3 := hkx.cell 3
              by_cases heq : y.key = x.key
              · have d2 : (y.key == x.key) = true := by simpa using heq
                have hnext := Lib.hid (HN2.out heq)
                clear HN1 HN2 heq hgt
                go_wp2_with (at_builtin; refine appendP_one x y rfl _ _ rfl w.heap.size _ qs rfl rfl hoE hszE HQN ?_; intro v' w' hown' hb' hk')
                go_roundg g
                case measure => omega
                case rel => exact ⟨k + 1, [], _, by omega, by go_num, hrl, hnext, (by first | exact hrr | simpa using hrr), hown', hbE.trans hb'⟩
              · have d2 : (y.key == x.key) = false := by simpa using heq
                have hnext := Lib.hid (HN1.out (by omega))
                clear HN1 HN2 heq hgt
                go_wp2_with (at_builtin; refine appendP_one zeroE y rfl _ _ rfl w.heap.size _ qs rfl rfl hoE hszE HQN ?_; intro v' w' hown' hb' hk')
                go_roundg 0
                case measure => omega
                case rel => exact ⟨[], _, rfl, hrl, hnext, (by first | exact hrr | simpa using hrr), hown', hbE.trans hb', hk' _ _ hkx⟩
            ·
              have hrr := HT2.out hcap
              rw [hg2'] at hrr
              go_upto_region 8 with fail
              rw [← hW2, ← hgy]
              clear hW2 hgy e0 e1 e2 e3 HV HD hoB hkB hblB HBA HBB HN3
              have hgyl := hbY.lt
              have hgxl := hbX.lt
              have HYY : ∀ w', Below W2.heap.size W2 w' → Blk w' gy 47 #[.int .i64 y.o, .int .i64 y.s, .int .i64 y.a, .int .i64 y.d] := fun w' h => hbY.below h hgyl
              have HXX : ∀ w', Below W2.heap.size W2 w' → Blk w' gx 47 #[.int .i64 x.o, .int .i64 x.s, .int .i64 x.a, .int .i64 x.d] := fun w' h => hbX.below h hgxl
              have HY := Lib.hid HYY; have HX := Lib.hid HXX; clear HYY HXX
              have y0 := hbY.cell 0; have y1 := hbY.cell 1; have y2 := hbY.cell 2; have y3 := hbY.cell 3
              have q0 := hbX.cell 0; have q1 := hbX.cell 1; have q2 := hbX.cell 2; have q3 := hbX.cell 3
              go_wp2_with fail
              go_region_held3 (fun w' => w'.cell? ⟨gy, 0, none⟩ = some (.int .i64 y.o) ∧ w'.cell? ⟨gy, 1, none⟩ = some (.int .i64 y.s) ∧ w'.cell? ⟨gy, 2, none⟩ = some (.int .i64 y.a) ∧ w'.cell? ⟨gy, 3, none⟩ = some (.int .i64 y.d) ∧ w'.cell? ⟨gx, 0, none⟩ = some (.int .i64 x.o) ∧ w'.cell? ⟨gx, 1, none⟩ = some (.int .i64 x.s) ∧ w'.cell? ⟨gx, 2, none⟩ = some (.int .i64 x.a) ∧ w'.cell? ⟨gx, 3, none⟩ = some (.int .i64 x.d))
                (first | exact ⟨(HY.out _ HBD).cell 0, (HY.out _ HBD).cell 1, (HY.out _ HBD).cell 2, (HY.out _ HBD).cell 3, (HX.out _ HBD).cell 0, (HX.out _ HBD).cell 1, (HX.out _ HBD).cell 2, (HX.out _ HBD).cell 3⟩ | exact ⟨(HY.out _ HBC).cell 0, (HY.out _ HBC).cell 1, (HY.out _ HBC).cell 2, (HY.out _ HBC).cell 3, (HX.out _ HBC).cell 0, (HX.out _ HBC).cell 1, (HX.out _ HBC).cell 2, (HX.out _ HBC).cell 3⟩ | exact ⟨y0, y1, y2, y3, q0, q1, q2, q3⟩)
                (first
                  | (go_at_call_of 34 (Value.agg #[Value.int IntKind.i64 y.o, Value.int IntKind.i64 y.s, Value.int IntKind.i64 y.a, Value.int IntKind.i64 y.d]); refine (HK.out y _).mono ?_; rintro e wAHBC ⟨rfl, hbHBC⟩; have HBC := (Below.refl W2.heap.size W2).drew.trans hbHBC)
                  | (go_at_call_of 34 (Value.agg #[Value.int IntKind.i64 x.o, Value.int IntKind.i64 x.s, Value.int IntKind.i64 x.a, Value.int IntKind.i64 x.d]); refine (HK.out x _).mono ?_; rintro e wAHBD ⟨rfl, hbHBD⟩; have HBD := HBC.trans (hbHBD.mono HBC.size)))
              have hbE := hWb2.trans (HBD.mono hWb2.size)
              have hoE := hoW2.below HBD (Nat.le_refl _)
              have hkx := HX.out _ HBD
              have hky := HY.out _ HBD
              have hszE := hbE.size
              clear y0 y1 y2 y3 q0 q1 q2 q3 HX HY hbX hbY hoW2 hWb2 HBC HBD
              have y0 := hky.cell 0; have y1 := hky.cell 1; have y2 := hky.cell 2; have y3 := hky.cell 3
              have q0 := hkx.cell 0; have q1 := hkx.cell 1; have q2 := hkx.cell 2; have q3 := hkx.cell 3
              by_cases heq : y.key = x.key
              · have d2 : (y.key == x.key) = true := by simpa using heq
                have hnext := Lib.hid (HN2.out heq)
                clear HN1 HN2 heq hgt
                go_wp2_with (at_builtin; refine appendP_one x y rfl _ _ rfl w.heap.size _ qs rfl rfl hoE hszE HQN ?_; intro v' w' hown' hb' hk')
                go_roundg g
                case measure => omega
                case rel => exact ⟨k + 1, r, _, by omega, by go_num, hrl, hnext, (by first | exact hrr | simpa using hrr), hown', hbE.trans hb'⟩
              · have d2 : (y.key == x.key) = false := by simpa using heq
                have hnext := Lib.hid (HN1.out (by omega))
                clear HN1 HN2 heq hgt
                go_wp2_with (at_builtin; refine appendP_one zeroE y rfl _ _ rfl w.heap.size _ qs rfl rfl hoE hszE HQN ?_; intro v' w' hown' hb' hk')
                go_roundg g2
                case measure => omega
                case rel => exact ⟨r, _, hg2', hrl, hnext, (by first | exact hrr | simpa using hrr), hown', hbE.trans hb', hk' _ _ hkx⟩
def lastKey (es : List Ent) (i : Nat) : Int := if i = 0 then -1 else (E es (i - 1)).key
def Rise (es : List Ent) (k : Nat) : Prop := ∀ i, i < k → lastKey es i < (E es i).key
instance (es : List Ent) (k : Nat) : Decidable (Rise es k) := by unfold Rise; infer_instance
def rises (es : List Ent) : Bool := decide (Rise es es.length)
theorem rise_zero (es : List Ent) : Rise es 0 := fun i hi => absurd hi (by omega)
theorem rise_succ {es : List Ent} {k : Nat} (h : Rise es k) (hg : lastKey es k < (E es k).key) : Rise es (k + 1) := fun i hi => by
  by_cases e : i = k
  · subst e; exact hg
  · exact h i (by omega)
theorem rise_bad {es : List Ent} {k : Nat} (hk : k < es.length) (h : ¬ lastKey es k < (E es k).key) : rises es = false := decide_eq_false (fun hr => h (hr k hk))
theorem lastKey_succ (es : List Ent) (k : Nat) : lastKey es (k + 1) = (E es k).key := by simp [lastKey]
set_option maxHeartbeats 1000000 in
set_option maxRecDepth 100000 in
theorem rises_any (B : Nat) (ao : Option Addr) (n cap : Nat) (es : List Ent) (w : World) (hx : Ents B w ao n cap es) (hB : B ≤ w.heap.size) :
    Calls Tryz.prog 32 #[.agg #[.slice ao n cap, .func (.func 34) #[] #[]]] w (Says (.bool (rises es)) w) := by
  have hx0 := hx.hlen; have hx1 := hx.hcap; have hx2 := hx.hmax
  unfold maxLen at hx2
  have HX := Lib.hid hx0; clear hx0
  generalize hb : rises es = bb
  have HB := Lib.hid hb; clear hb
  have hb0 : Below w.heap.size w (w.alloc (.cells #[.slice ao n cap, .func (.func 34) #[] #[]] 72)) := (Below.refl _ _).alloc (Nat.le_refl _) _
  have hk0 : Blk (w.alloc (.cells #[.slice ao n cap, .func (.func 34) #[] #[]] 72)) w.heap.size 72 #[.slice ao n cap, .func (.func 34) #[] #[]] := Blk.new _ _ _
  go_enter Tryz.func32, Tryz.ntmps32
  go_wp2
  go_loopw [3, 10] (fun sl si wr => ∃ i : Nat, i ≤ n ∧ si = .int .i64 i ∧ sl = .int .i64 (lastKey es i) ∧ Hid (Rise es i) ∧ Below w.heap.size w wr ∧ Blk wr w.heap.size 72 #[.slice ao n cap, .func (.func 34) #[] #[]]) (fun _ si _ => n - (intOf si).toNat)
  case atStart => exact ⟨0, Nat.zero_le _, rfl, rfl, Lib.hid (rise_zero es), hb0, hk0⟩
  case round =>
    obtain ⟨i, hi, rfl, rfl, hr, hbel, hblk⟩ := hrel
    by_cases hlt : i < n
    · have hxr := hx.below hbel hB hB
      obtain ⟨b, off, rfl, hbB, hc⟩ := hxr.at i hlt
      have g1 := hc i hlt
      clear hc
      have hK := fun w => implKeyOf_any (E es i).o (E es i).s (E es i).a (E es i).d w
      have hkE : keyOf (E es i).o (E es i).s (E es i).a (E es i).d = (E es i).key := rfl
      rw [hkE] at hK
      clear hkE
      have hbad : ¬ lastKey es i < (E es i).key → bb = false := fun h => by rw [← HB.out]; exact rise_bad (by have := HX.out; omega) h
      have hgood : lastKey es i < (E es i).key → Rise es (i + 1) := rise_succ hr.out
      have hlast := lastKey_succ es i
      generalize lastKey es i = lk at hbad hgood
      generalize (E es i).key = ky at hK hbad hgood hlast
      generalize E es i = x at g1 hK
      have HBAD := Lib.hid hbad; have HGOOD := Lib.hid hgood; have HLAST := Lib.hid hlast; clear hbad hgood hlast
      obtain ⟨c0, c1, c2, c3⟩ := g1
      have hsz := hbel.size
      have hkl := hblk.lt
      have f0 := hblk.cell 0
      have f1 := hblk.cell 1
      have i1 : (0 : Int) ≤ i := by omega
      have i2 : (i : Int) < n := by omega
      go_wp2_with fail
      refine (hK _).mono ?_
      rintro e w1 ⟨rfl, hb1⟩
      have hB1 : Below w.heap.size w w1 := (hbel.alloc hsz _).trans (hb1.mono (by simp; omega))
      have hk1 := (hblk.alloc (.cells #[.int .i64 x.o, .int .i64 x.s, .int .i64 x.a, .int .i64 x.d] 47)).below hb1 (by simp; omega)
      clear hb1 hblk hbel f0 f1 c0 c1 c2 c3 hK hb0 hk0
      by_cases hlk : lk < ky
      · have d1 : decide (ky ≤ lk) = false := decide_eq_false (by omega)
        have hnext := Lib.hid (HGOOD.out hlk)
        clear HGOOD HBAD
        go_wp2
        go_roundw
        case rel => exact ⟨i + 1, by omega, by go_num, by rw [HLAST.out], hnext, hB1, hk1⟩
        case measure => simp [intOf]; omega
      · have d1 : decide (ky ≤ lk) = true := decide_eq_true (by omega)
        have hbb := Lib.hid (HBAD.out (by omega))
        clear HGOOD HBAD HLAST
        go_wp2
        go_ret
        exact ⟨ret_bool hbb.out.symm, hB1⟩
    · have ei : i = n := by omega
      subst ei
      have hgo : rises es = true := decide_eq_true (by rw [HX.out]; exact hr.out)
      rw [HB.out] at hgo
      go_wp2
      go_ret
      exact ⟨ret_bool hgo.symm, hbel⟩
end Go.Proofs.YtoniahfdjhhalaaGreat
