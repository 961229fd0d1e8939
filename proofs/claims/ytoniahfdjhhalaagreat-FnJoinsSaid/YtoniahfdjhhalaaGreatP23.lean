/- Texts of this claim, put together. -/
import Derived.Test.YtoniahfdjhhalaaGreatP1
import Derived.Test.YtoniahfdjhhalaaGreatP2
import Derived.Test.YtoniahfdjhhalaaGreatP7
import Derived.Test.YtoniahfdjhhalaaGreatP22

namespace Go.Proofs.YtoniahfdjhhalaaGreat
open Go.RowKit
theorem join_a {xs : List Ent} {i : Nat} {q R : List Ent} (hi : i < xs.length) (hx : (E xs i).ok = true) (h : q ++ joinE (xs.drop i) [] = R) : (q ++ [E xs i]) ++ joinE (xs.drop (i + 1)) [] = R := by
  rw [← h, dropE' hi, joinE_one hx, List.append_assoc]
  rfl
theorem join_b {ys : List Ent} {k : Nat} {q R : List Ent} (hk : k < ys.length) (hy : (E ys k).ok = true) (h : q ++ joinE [] (ys.drop k) = R) : (q ++ [E ys k]) ++ joinE [] (ys.drop (k + 1)) = R := by
  rw [← h, dropE' hk, joinE_nil hy, List.append_assoc]
  rfl
theorem join_gt {xs ys : List Ent} {i k : Nat} {q R : List Ent} (hi : i < xs.length) (hk : k < ys.length) (hx : (E xs i).ok = true) (h : q ++ joinE (xs.drop i) (ys.drop k) = R) (hl : (E xs i).key < (E ys k).key) : (q ++ [E xs i]) ++ joinE (xs.drop (i + 1)) (ys.drop k) = R := by
  rw [← h, dropE' hi, dropE' hk, joinE_gt hx hl, List.append_assoc]
  rfl
theorem join_lt {xs ys : List Ent} {i k : Nat} {q R : List Ent} (hi : i < xs.length) (hk : k < ys.length) (hy : (E ys k).ok = true) (h : q ++ joinE (xs.drop i) (ys.drop k) = R) (hl : (E ys k).key < (E xs i).key) : (q ++ [E ys k]) ++ joinE (xs.drop i) (ys.drop (k + 1)) = R := by
  rw [← h, dropE' hi, dropE' hk, joinE_lt hy hl, List.append_assoc]
  rfl
theorem join_eq {xs ys : List Ent} {i k : Nat} {q R : List Ent} (hi : i < xs.length) (hk : k < ys.length) (h : q ++ joinE (xs.drop i) (ys.drop k) = R) (hl : (E ys k).key = (E xs i).key) : (q ++ [newer (E xs i, E ys k)]) ++ joinE (xs.drop (i + 1)) (ys.drop (k + 1)) = R := by
  rw [← h, dropE' hi, dropE' hk, joinE_eq hl, List.append_assoc]
  rfl
theorem book_okE {es : List Ent} (h : bookOk es = true) {i : Nat} (hi : i < es.length) : (E es i).ok = true := (book_right h i hi).1
set_option linter.unusedSimpArgs false in
set_option maxHeartbeats 4000000 in
set_option maxRecDepth 100000 in
theorem l7Join_any (B : Nat) (ao1 : Option Addr) (n1 cap1 : Nat) (xs : List Ent) (ao2 : Option Addr) (n2 cap2 : Nat) (ys : List Ent) (w : World)
    (hx1 : Ents B w ao1 n1 cap1 xs) (hx2 : Ents B w ao2 n2 cap2 ys) (hB : B ≤ w.heap.size) (ho1 : bookOk xs = true) (ho2 : bookOk ys = true) :
    Calls Tryz.prog 20 #[.slice ao1 n1 cap1, .slice ao2 n2 cap2] w (NewEs (joinE xs ys) w) := by
  have hl1 := hx1.hlen; have hl2 := hx2.hlen
  have hc1 := hx1.hcap; have hm1 := hx1.hmax; have hc2 := hx2.hcap; have hm2 := hx2.hmax
  unfold maxLen at hm1 hm2
  subst hl1 hl2
  have hn1 := book_len ho1; have hn2 := book_len ho2
  have hlen0 := join_len xs ys
  generalize hR : joinE xs ys = R at hlen0
  have hin0 : [] ++ joinE (xs.drop 0) (ys.drop 0) = R := by rw [← hR]; rfl
  have HR := Lib.hid hR; clear hR
  have HA : Hid (∀ i q, i < xs.length → ∀ k, ys.length ≤ k → q ++ joinE (xs.drop i) (ys.drop k) = R → (q ++ [E xs i]) ++ joinE (xs.drop (i + 1)) (ys.drop k) = R) := Lib.hid (fun i q hi k hk h => by
    rw [List.drop_of_length_le hk] at h ⊢
    exact join_a hi (book_okE ho1 hi) h)
  have HB : Hid (∀ k q, k < ys.length → ∀ i, xs.length ≤ i → q ++ joinE (xs.drop i) (ys.drop k) = R → (q ++ [E ys k]) ++ joinE (xs.drop i) (ys.drop (k + 1)) = R) := Lib.hid (fun k q hk i hi h => by
    rw [List.drop_of_length_le hi] at h ⊢
    exact join_b hk (book_okE ho2 hk) h)
  have HG : Hid (∀ i k q, i < xs.length → k < ys.length → q ++ joinE (xs.drop i) (ys.drop k) = R → (E xs i).key < (E ys k).key → (q ++ [E xs i]) ++ joinE (xs.drop (i + 1)) (ys.drop k) = R) := Lib.hid (fun i k q hi hk h hl => join_gt hi hk (book_okE ho1 hi) h hl)
  have HL : Hid (∀ i k q, i < xs.length → k < ys.length → q ++ joinE (xs.drop i) (ys.drop k) = R → (E ys k).key < (E xs i).key → (q ++ [E ys k]) ++ joinE (xs.drop i) (ys.drop (k + 1)) = R) := Lib.hid (fun i k q hi hk h hl => join_lt hi hk (book_okE ho2 hk) h hl)
  have HE : Hid (∀ i k q, i < xs.length → k < ys.length → q ++ joinE (xs.drop i) (ys.drop k) = R → (E ys k).key = (E xs i).key → (q ++ [newer (E xs i, E ys k)]) ++ joinE (xs.drop (i + 1)) (ys.drop (k + 1)) = R) := Lib.hid (fun i k q hi hk h hl => join_eq hi hk h hl)
  have HQ : Hid (∀ q p : List Ent, q ++ p = R → q.length ≤ 40) := Lib.hid (fun q p h => by rw [← h, List.length_append] at hlen0; omega)
  have hK := fun (x : Ent) w => specKeyOf_any x.o x.s x.a x.d w
  have hkE : ∀ x : Ent, keyOf x.o x.s x.a x.d = x.key := fun _ => rfl
  simp only [hkE] at hK
  clear hkE hlen0 ho1 ho2
  have HK := Lib.hid hK; clear hK
  have ho0 := ownE_empty w
  have hb0 : Below w.heap.size w (w.alloc (.cells #[] 47)) := (Below.refl _ _).alloc (Nat.le_refl _) _
  go_enter Tryz.func20, Tryz.ntmps20
  go_wp2
  go_loopw [5, 6, 7] (fun s5 s6 s7 wr => ∃ (i k : Nat) (q : List Ent), i ≤ xs.length ∧ k ≤ ys.length ∧ s6 = .int .i64 i ∧ s7 = .int .i64 k ∧ Hid (q ++ joinE (xs.drop i) (ys.drop k) = R) ∧ OwnE w.heap.size wr s5 q ∧ Below w.heap.size w wr) (fun _ s6 s7 _ => xs.length + ys.length - (intOf s6).toNat - (intOf s7).toNat)
  case atStart => exact ⟨0, 0, [], Nat.zero_le _, Nat.zero_le _, rfl, rfl, Lib.hid hin0, ho0, hb0⟩
  case round =>
    obtain ⟨i, k, q, hi, hk, rfl, rfl, hin, hown, hbel⟩ := hrel
    have hq40 := HQ.out _ _ hin.out
    have hsz := hbel.size
    have i0 : (0 : Int) ≤ i := by omega
    have k0 : (0 : Int) ≤ k := by omega
    by_cases hlt : i < xs.length
    · have i1 : (i : Int) < xs.length := by omega
      have hxr := hx1.below hbel hB (Nat.le_refl B)
      obtain ⟨b1, off1, rfl, hb1B, hc⟩ := hxr.at i hlt
      have g1 := hc i hlt
      clear hc hxr
      by_cases hkt : k < ys.length
      · have k1 : (k : Int) < ys.length := by omega
        have k2 : decide ((ys.length : Int) ≤ k) = false := decide_eq_false (by omega)
        have k2n : decide (ys.length ≤ k) = false := decide_eq_false (by omega)
        have i2 : decide ((xs.length : Int) ≤ i) = false := decide_eq_false (by omega)
        have i2n : decide (xs.length ≤ i) = false := decide_eq_false (by omega)
        have hyr := hx2.below hbel hB (Nat.le_refl B)
        obtain ⟨b2, off2, rfl, hb2B, hc⟩ := hyr.at k hkt
        have g2 := hc k hkt
        clear hc hyr
        have hng := HG.out i k q hlt hkt hin.out
        have hnl := HL.out i k q hlt hkt hin.out
        have hne := HE.out i k q hlt hkt hin.out
        generalize E xs i = x at g1 hng hnl hne
        generalize E ys k = y at g2 hng hnl hne
        have HNG := Lib.hid hng; have HNL := Lib.hid hnl; have HNE := Lib.hid hne
        clear hng hnl hne HA HB HG HL HE
        have hvx : ∀ w', Below wr.heap.size wr w' → Ent4 w' b1 (off1 + i * 4) x := fun w' h => g1.below h (by omega)
        have hvy : ∀ w', Below wr.heap.size wr w' → Ent4 w' b2 (off2 + k * 4) y := fun w' h => g2.below h (by omega)
        have HX := Lib.hid hvx; have HY := Lib.hid hvy; clear hvx hvy
        obtain ⟨c0, c1, c2, c3⟩ := g1
        obtain ⟨p0, p1, p2, p3⟩ := g2
        go_wp2_with fail
        go_region_held3 (fun w' => w'.cell? ⟨b1, off1 + i * 4, none⟩ = some (.int .i64 x.o) ∧ w'.cell? ⟨b1, off1 + i * 4 + 1, none⟩ = some (.int .i64 x.s) ∧ w'.cell? ⟨b1, off1 + i * 4 + 2, none⟩ = some (.int .i64 x.a) ∧ w'.cell? ⟨b1, off1 + i * 4 + 3, none⟩ = some (.int .i64 x.d) ∧ w'.cell? ⟨b2, off2 + k * 4, none⟩ = some (.int .i64 y.o) ∧ w'.cell? ⟨b2, off2 + k * 4 + 1, none⟩ = some (.int .i64 y.s) ∧ w'.cell? ⟨b2, off2 + k * 4 + 2, none⟩ = some (.int .i64 y.a) ∧ w'.cell? ⟨b2, off2 + k * 4 + 3, none⟩ = some (.int .i64 y.d))
          (first | exact ⟨(HX.out _ HBB).h0, (HX.out _ HBB).h1, (HX.out _ HBB).h2, (HX.out _ HBB).h3, (HY.out _ HBB).h0, (HY.out _ HBB).h1, (HY.out _ HBB).h2, (HY.out _ HBB).h3⟩ | exact ⟨(HX.out _ HBA).h0, (HX.out _ HBA).h1, (HX.out _ HBA).h2, (HX.out _ HBA).h3, (HY.out _ HBA).h0, (HY.out _ HBA).h1, (HY.out _ HBA).h2, (HY.out _ HBA).h3⟩ | exact ⟨c0, c1, c2, c3, p0, p1, p2, p3⟩)
          (first
            | (go_at_call_of 23 (Value.agg #[Value.int IntKind.i64 x.o, Value.int IntKind.i64 x.s, Value.int IntKind.i64 x.a, Value.int IntKind.i64 x.d]); refine (HK.out x _).mono ?_; rintro e wAHBA ⟨rfl, hbHBA⟩; have HBA := (Below.refl wr.heap.size wr).drew.trans hbHBA)
            | (go_at_call_of 23 (Value.agg #[Value.int IntKind.i64 y.o, Value.int IntKind.i64 y.s, Value.int IntKind.i64 y.a, Value.int IntKind.i64 y.d]); refine (HK.out y _).mono ?_; rintro e wAHBB ⟨rfl, hbHBB⟩; have HBB := HBA.trans (hbHBB.mono HBA.size)))
        have hbC := hbel.trans (HBB.mono hsz)
        have hoC := hown.below HBB (Nat.le_refl _)
        have hsC := hbC.size
        have hsCC := HBB.size
        clear c0 c1 c2 c3 p0 p1 p2 p3
        obtain ⟨c0, c1, c2, c3⟩ := HX.out _ HBB
        obtain ⟨p0, p1, p2, p3⟩ := HY.out _ HBB
        by_cases hgt : x.key < y.key
        · have hnext := Lib.hid (HNG.out hgt)
          clear HNG HNL HNE p0 p1 p2 p3
          go_wp2_with (at_builtin; refine appendE_one x rfl _ _ rfl w.heap.size _ q rfl rfl hoC hsC (by omega) ?_; intro v' w' hown' hb')
          go_roundw
          case rel => exact ⟨i + 1, k, _, by omega, hk, by go_num, rfl, hnext, hown', hbC.trans hb'⟩
          case measure => simp [intOf]; omega
        · have HX2 : Hid (∀ w', Below wAHBB.heap.size wAHBB w' → Ent4 w' b1 (off1 + i * 4) x) := Lib.hid (fun w' h => HX.out w' (HBB.trans (h.mono hsCC)))
          have HY2 : Hid (∀ w', Below wAHBB.heap.size wAHBB w' → Ent4 w' b2 (off2 + k * 4) y) := Lib.hid (fun w' h => HY.out w' (HBB.trans (h.mono hsCC)))
          clear HX HY
          go_wp2_with fail
          go_region_held3 (fun w' => w'.cell? ⟨b1, off1 + i * 4, none⟩ = some (.int .i64 x.o) ∧ w'.cell? ⟨b1, off1 + i * 4 + 1, none⟩ = some (.int .i64 x.s) ∧ w'.cell? ⟨b1, off1 + i * 4 + 2, none⟩ = some (.int .i64 x.a) ∧ w'.cell? ⟨b1, off1 + i * 4 + 3, none⟩ = some (.int .i64 x.d) ∧ w'.cell? ⟨b2, off2 + k * 4, none⟩ = some (.int .i64 y.o) ∧ w'.cell? ⟨b2, off2 + k * 4 + 1, none⟩ = some (.int .i64 y.s) ∧ w'.cell? ⟨b2, off2 + k * 4 + 2, none⟩ = some (.int .i64 y.a) ∧ w'.cell? ⟨b2, off2 + k * 4 + 3, none⟩ = some (.int .i64 y.d))
            (first | exact ⟨(HX2.out _ HBD).h0, (HX2.out _ HBD).h1, (HX2.out _ HBD).h2, (HX2.out _ HBD).h3, (HY2.out _ HBD).h0, (HY2.out _ HBD).h1, (HY2.out _ HBD).h2, (HY2.out _ HBD).h3⟩ | exact ⟨(HX2.out _ HBC).h0, (HX2.out _ HBC).h1, (HX2.out _ HBC).h2, (HX2.out _ HBC).h3, (HY2.out _ HBC).h0, (HY2.out _ HBC).h1, (HY2.out _ HBC).h2, (HY2.out _ HBC).h3⟩ | exact ⟨c0, c1, c2, c3, p0, p1, p2, p3⟩)
            (first
              | (go_at_call_of 23 (Value.agg #[Value.int IntKind.i64 y.o, Value.int IntKind.i64 y.s, Value.int IntKind.i64 y.a, Value.int IntKind.i64 y.d]); refine (HK.out y _).mono ?_; rintro e wAHBC ⟨rfl, hbHBC⟩; have HBC := (Below.refl wAHBB.heap.size wAHBB).drew.trans hbHBC)
              | (go_at_call_of 23 (Value.agg #[Value.int IntKind.i64 x.o, Value.int IntKind.i64 x.s, Value.int IntKind.i64 x.a, Value.int IntKind.i64 x.d]); refine (HK.out x _).mono ?_; rintro e wAHBD ⟨rfl, hbHBD⟩; have HBD := HBC.trans (hbHBD.mono HBC.size)))
          have hbD := hbC.trans (HBD.mono hsC)
          have hoD := hoC.below HBD (Nat.le_refl _)
          have hsD := hbD.size
          clear c0 c1 c2 c3 p0 p1 p2 p3
          obtain ⟨c0, c1, c2, c3⟩ := HX2.out _ HBD
          obtain ⟨p0, p1, p2, p3⟩ := HY2.out _ HBD
          by_cases hls : y.key < x.key
          · have hnext := Lib.hid (HNL.out hls)
            clear HNG HNL HNE c0 c1 c2 c3
            go_wp2_with (at_builtin; refine appendE_one y rfl _ _ rfl w.heap.size _ q rfl rfl hoD hsD (by omega) ?_; intro v' w' hown' hb')
            go_roundw
            case rel => exact ⟨i, k + 1, _, hi, by omega, rfl, by go_num, hnext, hown', hbD.trans hb'⟩
            case measure => simp [intOf]; omega
          · have hnext := HNE.out (by omega)
            clear HNG HNL HNE
            obtain ⟨W2, hW2⟩ : ∃ W2, W2 = wAHBD.alloc (.cells #[.int .i64 x.o, .int .i64 x.s, .int .i64 x.a, .int .i64 x.d] 47) := ⟨_, rfl⟩
            obtain ⟨gx, hgx⟩ : ∃ gx, gx = wAHBD.heap.size := ⟨_, rfl⟩
            have hbX : Blk W2 gx 47 #[.int .i64 x.o, .int .i64 x.s, .int .i64 x.a, .int .i64 x.d] := by rw [hW2, hgx]; exact Blk.new _ _ _
            have hrefl : Below wAHBD.heap.size wAHBD W2 := by rw [hW2]; exact (Below.refl _ _).alloc (Nat.le_refl _) _
            have p0' := (HY2.out _ (HBD.trans (hrefl.mono HBD.size))).h0
            have p1' := (HY2.out _ (HBD.trans (hrefl.mono HBD.size))).h1
            have p2' := (HY2.out _ (HBD.trans (hrefl.mono HBD.size))).h2
            have p3' := (HY2.out _ (HBD.trans (hrefl.mono HBD.size))).h3
            go_upto_region 6 with fail
            rw [← hW2, ← hgx]
            have hgl : wAHBD.heap.size ≤ gx := by omega
            clear hW2 hgx HX2 HY2 HBC HBD HBA HBB c0 c1 c2 c3 p0 p1 p2 p3
            have z3 := hbX.cell 3
            by_cases hdt : x.d < y.d
            · have d1 : decide (x.d < y.d) = true := decide_eq_true hdt
              have hnw : newer (x, y) = y := if_pos hdt
              rw [hnw] at hnext
              have HNX := Lib.hid hnext; clear hnext hnw
              go_wp2_with fail
              go_quiet (fail)
              obtain ⟨W3, hW3⟩ : ∃ W3, W3 = W2.drewN nq := ⟨_, rfl⟩
              have hbX3 : Blk W3 gx 47 #[.int .i64 x.o, .int .i64 x.s, .int .i64 x.a, .int .i64 x.d] := by rw [hW3]; exact hbX.drewN _
              have hr3 : Below wAHBD.heap.size wAHBD W3 := by rw [hW3]; exact below_drewN hrefl _
              have q0 : W3.cell? ⟨b2, off2 + k * 4, none⟩ = some (.int .i64 y.o) := by rw [hW3]; exact p0'
              have q1 : W3.cell? ⟨b2, off2 + k * 4 + 1, none⟩ = some (.int .i64 y.s) := by rw [hW3]; exact p1'
              have q2 : W3.cell? ⟨b2, off2 + k * 4 + 2, none⟩ = some (.int .i64 y.a) := by rw [hW3]; exact p2'
              have q3 : W3.cell? ⟨b2, off2 + k * 4 + 3, none⟩ = some (.int .i64 y.d) := by rw [hW3]; exact p3'
              rw [← hW3]
              clear hW3 hbX hrefl p0' p1' p2' p3' z3
              have z0 := hbX3.cell 0; have z1 := hbX3.cell 1; have z2 := hbX3.cell 2; have z3 := hbX3.cell 3
              have f0 := hbX3.frozen 0; have f1 := hbX3.frozen 1; have f2 := hbX3.frozen 2; have f3 := hbX3.frozen 3
              obtain ⟨W4, hW4⟩ : ∃ W4, W4 = (((W3.setCell ⟨gx, 0, none⟩ (.int .i64 y.o)).setCell ⟨gx, 1, none⟩ (.int .i64 y.s)).setCell ⟨gx, 2, none⟩ (.int .i64 y.a)).setCell ⟨gx, 3, none⟩ (.int .i64 y.d) := ⟨_, rfl⟩
              have hbX4 : Blk W4 gx 47 #[.int .i64 y.o, .int .i64 y.s, .int .i64 y.a, .int .i64 y.d] := by
                rw [hW4]
                have h4 := (((hbX3.set_ 0 (.int .i64 y.o)).set_ 1 (.int .i64 y.s)).set_ 2 (.int .i64 y.a)).set_ 3 (.int .i64 y.d)
                simpa using h4
              have hr4 : Below wAHBD.heap.size wAHBD W4 := by
                rw [hW4]
                exact (((hr3.setCell (p := ⟨gx, 0, none⟩) hgl _).setCell (p := ⟨gx, 1, none⟩) hgl _).setCell (p := ⟨gx, 2, none⟩) hgl _).setCell (p := ⟨gx, 3, none⟩) hgl _
              go_upto_region 8 with fail
              rw [← hW4]
              clear hW4 z0 z1 z2 z3 f0 f1 f2 f3 q0 q1 q2 q3 hbX3 hr3
              have z0 := hbX4.cell 0; have z1 := hbX4.cell 1; have z2 := hbX4.cell 2; have z3 := hbX4.cell 3
              have hbE := hbD.trans (hr4.mono hsD)
              have hoE := hoD.below hr4 (Nat.le_refl _)
              go_wp2_with (at_builtin; refine appendE_one y rfl _ _ rfl w.heap.size _ q rfl rfl hoE hbE.size (by omega) ?_; intro v' w' hown' hb')
              go_roundw
              case rel => exact ⟨i + 1, k + 1, _, by omega, by omega, by go_num, by go_num, HNX, hown', hbE.trans hb'⟩
              case measure => simp [intOf]; omega
            · have d1 : decide (x.d < y.d) = false := decide_eq_false hdt
              have hnw : newer (x, y) = x := if_neg hdt
              rw [hnw] at hnext
              have HNX := Lib.hid hnext; clear hnext hnw
              go_wp2_with fail
              go_quiet (fail)
              have hbX3 := hbX.drewN nq
              have hr3 := below_drewN hrefl nq
              have z0 := hbX3.cell 0; have z1 := hbX3.cell 1; have z2 := hbX3.cell 2; have z3 := hbX3.cell 3
              have hbE := hbD.trans (hr3.mono hsD)
              have hoE := hoD.below hr3 (Nat.le_refl _)
              go_wp2_with (at_builtin; refine appendE_one x rfl _ _ rfl w.heap.size _ q rfl rfl hoE hbE.size (by omega) ?_; intro v' w' hown' hb')
              go_roundw
              case rel => exact ⟨i + 1, k + 1, _, by omega, by omega, by go_num, by go_num, HNX, hown', hbE.trans hb'⟩
              case measure => simp [intOf]; omega
      · have k2 : decide ((ys.length : Int) ≤ k) = true := decide_eq_true (by omega)
        have k2n : decide (ys.length ≤ k) = true := decide_eq_true (by omega)
        have k3 : decide ((k : Int) < ys.length) = false := decide_eq_false (by omega)
        have k3n : decide (k < ys.length) = false := decide_eq_false (by omega)
        have hnext := HA.out i q hlt k (by omega) hin.out
        generalize E xs i = x at g1 hnext
        have HNX := Lib.hid hnext
        clear hnext HA HB HG HL HE
        obtain ⟨c0, c1, c2, c3⟩ := g1
        go_wp2_with fail
        go_quiet (fail)
        go_wp2_with (at_builtin; refine appendE_one x rfl _ _ rfl w.heap.size _ q rfl rfl (hown.below (below_drewN (Below.refl _ _) _) (Nat.le_refl _)) hsz (by omega) ?_; intro v' w' hown' hb')
        go_roundw
        case rel => exact ⟨i + 1, k, _, by omega, hk, by go_num, rfl, HNX, hown', (below_drewN hbel _).trans hb'⟩
        case measure => simp [intOf]; omega
    · have i2 : decide ((xs.length : Int) ≤ i) = true := decide_eq_true (by omega)
      have i2n : decide (xs.length ≤ i) = true := decide_eq_true (by omega)
      have i3 : decide ((i : Int) < xs.length) = false := decide_eq_false (by omega)
      have i3n : decide (i < xs.length) = false := decide_eq_false (by omega)
      by_cases hkt : k < ys.length
      · have k1 : (k : Int) < ys.length := by omega
        have k2 : decide ((ys.length : Int) ≤ k) = false := decide_eq_false (by omega)
        have k2n : decide (ys.length ≤ k) = false := decide_eq_false (by omega)
        have hyr := hx2.below hbel hB (Nat.le_refl B)
        obtain ⟨b2, off2, rfl, hb2B, hc⟩ := hyr.at k hkt
        have g2 := hc k hkt
        clear hc hyr
        have hnext := HB.out k q hkt i (by omega) hin.out
        generalize E ys k = y at g2 hnext
        have HNX := Lib.hid hnext
        clear hnext HA HB HG HL HE
        obtain ⟨p0, p1, p2, p3⟩ := g2
        go_wp2_with fail
        go_quiet (fail)
        go_wp2_with fail
        go_quiet (fail)
        go_wp2_with (at_builtin; refine appendE_one y rfl _ _ rfl w.heap.size _ q rfl rfl (hown.below (below_drewN (Below.refl _ _) _) (Nat.le_refl _)) hsz (by omega) ?_; intro v' w' hown' hb')
        go_roundw
        case rel => exact ⟨i, k + 1, _, hi, by omega, rfl, by go_num, HNX, hown', (below_drewN hbel _).trans hb'⟩
        case measure => simp [intOf]; omega
      · have k3 : decide ((k : Int) < ys.length) = false := decide_eq_false (by omega)
        have k3n : decide (k < ys.length) = false := decide_eq_false (by omega)
        have hq : q = R := by
          have h := hin.out
          rwa [List.drop_of_length_le (show xs.length ≤ i by omega), List.drop_of_length_le (show ys.length ≤ k by omega), joinE, pairs_nil, List.map_nil, List.map_nil, List.append_nil] at h
        subst hq
        go_wp2
        go_ret
        exact ⟨_, rfl, hown, hbel⟩
set_option maxHeartbeats 1000000 in
set_option maxRecDepth 100000 in
theorem specJoined_any (B : Nat) (ao1 : Option Addr) (n1 cap1 : Nat) (xs : List Ent) (ao2 : Option Addr) (n2 cap2 : Nat) (ys : List Ent) (w : World)
    (hx1 : Ents B w ao1 n1 cap1 xs) (hx2 : Ents B w ao2 n2 cap2 ys) (hB : B ≤ w.heap.size) :
    Calls Tryz.prog 7 #[.slice ao1 n1 cap1, .slice ao2 n2 cap2] w (MaybeEs (joinR xs ys) w) := by
  have h1 := specBookOk_any B ao1 n1 cap1 xs w hx1 hB
  have h2 := fun w' (hb : Below w.heap.size w w') => specBookOk_any B ao2 n2 cap2 ys w' (hx2.below hb hB (Nat.le_refl B)) (by have := hb.size; omega)
  have hj := fun (ho1 : bookOk xs = true) (ho2 : bookOk ys = true) w' (hb : Below w.heap.size w w') => l7Join_any B ao1 n1 cap1 xs ao2 n2 cap2 ys w' (hx1.below hb hB (Nat.le_refl B)) (hx2.below hb hB (Nat.le_refl B)) (by have := hb.size; omega) ho1 ho2
  have hjw := join_wf hx1.wf hx2.wf
  have hno : bookOk xs = false ∨ bookOk ys = false ∨ bookOk (joinE xs ys) = false → joinR xs ys = none := joinR_no
  have hyes : bookOk xs = true → bookOk ys = true → bookOk (joinE xs ys) = true → joinR xs ys = some (joinE xs ys) := joinR_yes
  generalize joinR xs ys = r at hno hyes
  generalize joinE xs ys = js at hj hjw hno hyes
  generalize bookOk xs = b1 at h1 hj hno hyes
  generalize bookOk ys = b2 at h2 hj hno hyes
  have HN := Lib.hid hno; have HY := Lib.hid hyes; have HJ := Lib.hid hj; have H2 := Lib.hid h2; clear hno hyes hj h2 hx1 hx2
  go_enter Tryz.func7, Tryz.ntmps7
  go_wp2_with fail
  refine h1.mono ?_
  rintro e w1 ⟨rfl, hb1⟩
  rcases b1 with _ | _
  · go_wp2_with fail
    go_ret2
    exact maybe_none (HN.out (.inl (by first | rfl | trivial))) hb1
  · go_wp2_with fail
    refine (H2.out _ hb1).mono ?_
    rintro e w2 ⟨rfl, hb2⟩
    have hB2 := hb1.trans (hb2.mono hb1.size)
    rcases b2 with _ | _
    · go_wp2_with fail
      go_ret2
      exact maybe_none (HN.out (.inr (.inl (by first | rfl | trivial)))) hB2
    · go_wp2_with fail
      refine (HJ.out (by first | rfl | trivial) (by first | rfl | trivial) _ hB2).mono ?_
      rintro e w3 ⟨v3, rfl, hown3, hb3⟩
      have hB3 := hB2.trans (hb3.mono hB2.size)
      have hown3k := hown3
      obtain ⟨a3, c3, rfl, hi3, -⟩ := hown3.ents hjw
      have h3 := specBookOk_any _ _ _ _ _ _ hi3 (Nat.le_refl _)
      have hno3 : bookOk js = false → r = none := fun h => HN.out (.inr (.inr h))
      have hyes3 : bookOk js = true → r = some js := fun h => HY.out (by first | rfl | trivial) (by first | rfl | trivial) h
      clear HN HY hown3 HJ H2
      generalize bookOk js = b3 at h3 hno3 hyes3
      have HN3 := Lib.hid hno3; have HY3 := Lib.hid hyes3; clear hno3 hyes3
      go_wp2_with fail
      refine h3.mono ?_
      rintro e w4 ⟨rfl, hb4⟩
      have hB4 := hB3.trans (hb4.mono hB3.size)
      rcases b3 with _ | _
      · go_wp2_with fail
        go_ret2
        exact maybe_none (HN3.out (by first | rfl | trivial)) hB4
      · have hr : r = some js := HY3.out (by first | rfl | trivial)
        have HR := Lib.hid hr; clear hr
        go_wp2_with fail
        go_ret2
        rw [HR.out]
        exact ⟨_, rfl, (hown3k.below hb4 (Nat.le_refl _)).mono hB2.size, hB4⟩
def NodeBPost (r : Nd × Bool) (w : World) (e : Ending) (w' : World) : Prop := ∃ bv av, e = .returned (.tuple #[.agg #[.int .i64 r.1.me, bv, av], .bool r.2]) ∧ OwnE w.heap.size w' bv r.1.book ∧ OwnRows w.heap.size w' av r.1.acks ∧ Below w.heap.size w w'
theorem nodeB_zero {w w' : World} (hb : Below w.heap.size w w') : NodeBPost (zeroNd, false) w (.returned (.tuple #[.agg #[.int .i64 0, .slice none 0 0, .slice none 0 0], .bool false])) w' :=
  ⟨_, _, rfl, ownE_nil _ _, ownRows_nil _ _, hb⟩
def hearL (nd : Nd) (l : Let) : Nd × Bool := if ¬ l.t = nd.me then (nd, false) else match joinR nd.book l.p with
  | none => (nd, false)
  | some j => if soundE j = true then (⟨nd.me, j, nd.acks.set l.f.toNat (later (RW nd.acks l.f.toNat) l.v)⟩, true) else (nd, false)
def heard (nd : Nd) (xs : List Int) : Nd × Bool := if nodeOk nd.me nd.book nd.acks = true then (match openR xs with
  | none => (nd, false)
  | some l => hearL nd l) else (zeroNd, false)
theorem openR_ok {xs : List Int} {l : Let} (h : openR xs = some l) : letterOk l.f l.t l.v l.p = true := by
  unfold openR at h
  split at h
  · cases h
  · split at h
    · cases h
    · split at h
      · cases h
      · split at h
        · cases h
        · split at h
          · rename_i hh
            cases h
            exact hh.2
          · cases h
theorem later_i64' {xs ys : List Int} (hx : AllI64 xs) (hy : AllI64 ys) : AllI64 (later xs ys) := by
  unfold later
  split
  · intro z hz
    obtain ⟨i, hi, rfl⟩ := List.mem_iff_getElem.1 hz
    rw [List.getElem_zipWith]
    rw [List.length_zipWith] at hi
    have h1 := hx _ (List.getElem_mem (show i < xs.length by omega))
    have h2 := hy _ (List.getElem_mem (show i < ys.length by omega))
    unfold I64 at *
    omega
  · intro z hz; cases hz
theorem RW_set {rows : List (List Int)} {j i : Nat} {r : List Int} (hi : i < rows.length) : RW (rows.set j r) i = if i = j then r else RW rows i := by
  rw [RW_get (by rw [List.length_set]; exact hi), RW_get hi, List.getElem_set]
  by_cases e : j = i
  · subst e; simp
  · rw [if_neg e, if_neg (fun h => e h.symm)]
theorem OwnRows.ptr {base : Nat} {w : World} {v : Value} {rows : List (List Int)} (h : OwnRows base w v rows) (h0 : 0 < rows.length) : ∃ g cap, v = .slice (some ⟨g, 0, none⟩) rows.length cap ∧ base ≤ g ∧ ∃ cur, Blk w g 78 cur := by
  obtain ⟨cells, h1, h2⟩ := h
  rcases h1.2 with ⟨rfl, h3⟩ | ⟨g, cap, cur, rfl, hb, hg, hn, hm, hs, ht⟩
  · omega
  · exact ⟨g, cap, rfl, hb, cur, hg⟩
theorem OwnRows.spot {base g n cap : Nat} {w : World} {rows : List (List Int)} (h : OwnRows base w (.slice (some ⟨g, 0, none⟩) n cap) rows) (j : Nat) (hj : j < rows.length) : (∃ cv, w.cell? ⟨g, j, none⟩ = some cv) ∧ w.frozen? ⟨g, j, none⟩ = false := by
  obtain ⟨cells, h1, h2⟩ := h
  obtain ⟨c, hc, _⟩ := h2 j hj
  rcases h1.2 with ⟨hv, h3⟩ | ⟨g', cap', cur, hv, hb, hg, hn, hm, hs, ht⟩
  · cases hv
  · cases hv
    have hk : Blk w g 78 cur := hg
    refine ⟨⟨c, ?_⟩, hk.frozen j⟩
    rw [cell_of_row w g j cur _ (0, 0) hg, ← hc, ← ht, List.getElem?_take, if_pos (by omega)]
    simp
theorem OwnRows.stored {base g n cap : Nat} {w : World} {rows : List (List Int)} (h : OwnRows base w (.slice (some ⟨g, 0, none⟩) n cap) rows) (j : Nat) (hj : j < rows.length) {c : Value} {row : List Int} (hc : Own base w c row) : OwnRows base (w.setCell ⟨g, j, none⟩ c) (.slice (some ⟨g, 0, none⟩) n cap) (rows.set j row) := by
  obtain ⟨cells, h1, h2⟩ := h
  have hn : n = rows.length := by
    rcases h1.2 with ⟨hv, _⟩ | ⟨g', cap', cur, hv, _⟩
    · cases hv
    · cases hv; rfl
  subst hn
  have hst := (h1.stored j c).1
  have hlc : cells.length = rows.length := by have := h1.1; omega
  have hkeep : ∀ (cc : Value) (r : List Int), Own base w cc r → Own base (w.setCell ⟨g, j, none⟩ c) cc r := fun cc r ho => by
    refine World.ownsRow.kept ho ((Only.refl g w).setCell j c).keeps ?_
    have := ownsRow_tags ho h1 (by decide)
    exact this
  refine ⟨cells.set j c, by rw [List.length_set]; exact hst, fun i hi => ?_⟩
  rw [List.length_set] at hi
  obtain ⟨cc, hcc, hco⟩ := h2 i hi
  rw [RW_set hi]
  by_cases e : i = j
  · subst e
    rw [if_pos rfl]
    refine ⟨c, ?_, hkeep _ _ hc⟩
    rw [List.getElem?_set_self (by omega)]
  · rw [if_neg e]
    refine ⟨cc, ?_, hkeep _ _ hco⟩
    rw [List.getElem?_set_ne (fun h => e h.symm)]
    exact hcc
theorem OwnE.offR {base base' g n cap : Nat} {w w' : World} {v : Value} {es : List Ent} {rows : List (List Int)} (h : OwnE base w v es) (hr : OwnRows base' w (.slice (some ⟨g, 0, none⟩) n cap) rows) (hk : Keeps g w w') : OwnE base w' v es := by
  obtain ⟨cells, h1, h2⟩ := hr
  exact World.ownsRow.kept h hk (ownsRow_tags h h1 (by decide))
end Go.Proofs.YtoniahfdjhhalaaGreat
