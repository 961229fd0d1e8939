/- Texts of this claim, put together. -/
import Derived.Test.YtoniahfdjhhalaaGreatP1
import Derived.Test.YtoniahfdjhhalaaGreatP7
import Derived.Test.YtoniahfdjhhalaaGreatP22

namespace Go.Proofs.YtoniahfdjhhalaaGreat
open Go.RowKit
def hasF (x y : Ent) : Bool := y.key == x.key && decide (x.d ≤ y.d) && decide (x.a ≤ y.a)
def hasB (ys : List Ent) (x : Ent) : Bool := ys.any (hasF x)
theorem hasB_iff (ys : List Ent) (x : Ent) : hasB ys x = true ↔ Has ys x := by
  unfold hasB Has
  rw [List.any_eq_true]
  refine exists_congr fun y => and_congr_right fun _ => ?_
  unfold hasF
  simp [and_assoc]
theorem within_all {xs ys : List Ent} (h1 : bookOk xs = true) (h2 : bookOk ys = true) : within xs ys = xs.all (hasB ys) := by
  unfold within
  rw [h1, h2, Bool.true_and, Bool.true_and, Bool.eq_iff_iff, within_has (book_up h1) (book_up h2), List.all_eq_true]
  exact forall_congr' fun x => forall_congr' fun _ => (hasB_iff ys x).symm
theorem within_no {xs ys : List Ent} (h : bookOk xs = false ∨ bookOk ys = false) : within xs ys = false := by
  unfold within
  rcases h with h | h <;> simp [h]
theorem any_next {ys : List Ent} {f : Ent → Bool} {k : Nat} (h : k < ys.length) : (ys.take (k + 1)).any f = ((ys.take k).any f || f (E ys k)) := by
  rw [takeE h, List.any_append]
  simp
theorem all_stop {xs : List Ent} {f : Ent → Bool} {k : Nat} (h : k < xs.length) (hf : f (E xs k) = false) : xs.all f = false := by
  rw [List.all_eq_false]
  exact ⟨E xs k, by rw [E_get h]; exact List.getElem_mem _, by rw [hf]; simp⟩
theorem all_next {xs : List Ent} {f : Ent → Bool} {k : Nat} (h : k < xs.length) (ha : (xs.take k).all f = true) (hf : f (E xs k) = true) : (xs.take (k + 1)).all f = true := by
  rw [takeE h, List.all_append, ha]
  simp [hf]
theorem hasF_false {x y : Ent} (h : (y.key == x.key) = false ∨ decide (x.d ≤ y.d) = false) : hasF x y = false := by
  unfold hasF
  rcases h with h | h <;> simp [h]
theorem hasF_last {x y : Ent} (h1 : (y.key == x.key) = true) (h2 : decide (x.d ≤ y.d) = true) : hasF x y = decide (x.a ≤ y.a) := by
  unfold hasF
  rw [h1, h2]
  simp
set_option linter.unusedSimpArgs false in
set_option maxHeartbeats 4000000 in
set_option maxRecDepth 100000 in
theorem specWithin_any (B : Nat) (ao1 : Option Addr) (n1 cap1 : Nat) (xs : List Ent) (ao2 : Option Addr) (n2 cap2 : Nat) (ys : List Ent) (w : World)
    (hx1 : Ents B w ao1 n1 cap1 xs) (hx2 : Ents B w ao2 n2 cap2 ys) (hB : B ≤ w.heap.size) :
    Calls Tryz.prog 11 #[.slice ao1 n1 cap1, .slice ao2 n2 cap2] w (Says (.bool (within xs ys)) w) := by
  have hl1 := hx1.hlen; have hl2 := hx2.hlen
  have hc1 := hx1.hcap; have hm1 := hx1.hmax; have hc2 := hx2.hcap; have hm2 := hx2.hmax
  unfold maxLen at hm1 hm2
  subst hl1 hl2
  have h1 := specBookOk_any B ao1 _ cap1 xs w hx1 hB
  have h2 := fun w' (hb : Below w.heap.size w w') => specBookOk_any B ao2 _ cap2 ys w' (hx2.below hb hB (Nat.le_refl B)) (by have := hb.size; omega)
  have hK := fun (x : Ent) w => specKeyOf_any x.o x.s x.a x.d w
  have hkE : ∀ x : Ent, keyOf x.o x.s x.a x.d = x.key := fun _ => rfl
  simp only [hkE] at hK
  clear hkE
  have HK := Lib.hid hK; clear hK
  have hno : bookOk xs = false ∨ bookOk ys = false → within xs ys = false := within_no
  have hyes : bookOk xs = true → bookOk ys = true → within xs ys = xs.all (hasB ys) := within_all
  generalize within xs ys = r at hno hyes
  generalize bookOk xs = b1 at h1 hno hyes
  generalize bookOk ys = b2 at h2 hno hyes
  have HN := Lib.hid hno; have HY0 := Lib.hid hyes; have H2 := Lib.hid h2
  clear hno hyes h2
  go_enter Tryz.func11, Tryz.ntmps11
  go_wp2_with fail
  refine h1.mono ?_
  rintro e w1 ⟨rfl, hb1⟩
  rcases b1 with _ | _
  · go_wp2_with fail
    go_ret
    exact ⟨ret_bool (HN.out (.inl (by first | rfl | trivial))).symm, hb1⟩
  · go_wp2_with fail
    refine (H2.out _ hb1).mono ?_
    rintro e w2 ⟨rfl, hb2⟩
    have hB2 := hb1.trans (hb2.mono hb1.size)
    rcases b2 with _ | _
    · go_wp2_with fail
      go_ret
      exact ⟨ret_bool (HN.out (.inr (by first | rfl | trivial))).symm, hB2⟩
    · have hr : r = xs.all (hasB ys) := HY0.out (by first | rfl | trivial) (by first | rfl | trivial)
      have HR := Lib.hid hr
      clear hr HN HY0 H2 h1 hb2 hb1
      go_wp2
      go_loopw [5] (fun s5 wr => ∃ i : Nat, i ≤ xs.length ∧ s5 = .int .i64 i ∧ Hid ((xs.take i).all (hasB ys) = true) ∧ Below w.heap.size w wr) (fun s5 _ => xs.length - (intOf s5).toNat)
      case atStart => exact ⟨0, Nat.zero_le _, rfl, Lib.hid (by simp), hB2⟩
      case round =>
        obtain ⟨i, hi, rfl, hall, hbo⟩ := hrel
        by_cases hlt : i < xs.length
        · have hgo : hasB ys (E xs i) = true → (xs.take (i + 1)).all (hasB ys) = true := all_next hlt hall.out
          have hstop : hasB ys (E xs i) = false → r = false := fun h => by rw [HR.out]; exact all_stop hlt h
          have hx1w := hx1.at i hlt
          obtain ⟨b1, off1, rfl, hb1B, hc⟩ := hx1w
          have g1 := hc i hlt
          clear hc
          generalize hxi : E xs i = x at hgo hstop g1
          have HGO := Lib.hid hgo; have HSTOP := Lib.hid hstop; clear hgo hstop hxi
          have hvx : ∀ w', Below w.heap.size w w' → Ent4 w' b1 (off1 + i * 4) x := fun w' h => g1.below h (by omega)
          have HX0 := Lib.hid hvx; clear hvx g1
          have i0 : (0 : Int) ≤ i := by omega
          have i1 : (i : Int) < xs.length := by omega
          go_wp2
          go_loopw [6, 7] (fun s6 s7 wy => ∃ k : Nat, k ≤ ys.length ∧ s7 = .int .i64 k ∧ s6 = .bool ((ys.take k).any (hasF x)) ∧ Below w.heap.size w wy) (fun _ s7 _ => ys.length - (intOf s7).toNat)
          case atStart => exact ⟨0, Nat.zero_le _, rfl, by simp, hbo⟩
          case round =>
            obtain ⟨k, hk, rfl, rfl, hbel⟩ := hrel
            have hsz := hbel.size
            by_cases hkt : k < ys.length
            · have hx2w := hx2.at k hkt
              obtain ⟨b2, off2, rfl, hb2B, hc⟩ := hx2w
              have g2 := hc k hkt
              clear hc
              have hst : ∀ v : Bool, hasF x (E ys k) = v → Value.bool ((ys.take k).any (hasF x) || v) = Value.bool ((ys.take (k + 1)).any (hasF x)) := fun v h => by rw [any_next hkt, h]
              have hyr : Ent4 wr b2 (off2 + k * 4) (E ys k) := g2.below hbel (by omega)
              have hvy : ∀ w', Below wr.heap.size wr w' → Ent4 w' b2 (off2 + k * 4) (E ys k) := fun w' h => hyr.below h (by omega)
              have hvx : ∀ w', Below wr.heap.size wr w' → Ent4 w' b1 (off1 + i * 4) x := fun w' h => HX0.out w' (hbel.trans (h.mono hsz))
              have g1 := HX0.out wr hbel
              generalize E ys k = y at hst hyr hvy
              generalize (ys.take k).any (hasF x) = q at hst
              have HX := Lib.hid hvx; have HY := Lib.hid hvy; clear hvx hvy g2
              obtain ⟨c0, c1, c2, c3⟩ := g1
              obtain ⟨p0, p1, p2, p3⟩ := hyr
              have k0 : (0 : Int) ≤ k := by omega
              have k1 : (k : Int) < ys.length := by omega
              rcases q with _ | _
              · cases hkk : (y.key == x.key) with
                | false =>
                  have HST := Lib.hid (hst false (hasF_false (.inl hkk))); clear hst
                  go_wp2_with fail
                  refine wp_region_held_drew (S := (fun w' => w'.cell? ⟨b2, off2 + k * 4, none⟩ = some (.int .i64 y.o) ∧ w'.cell? ⟨b2, off2 + k * 4 + 1, none⟩ = some (.int .i64 y.s) ∧ w'.cell? ⟨b2, off2 + k * 4 + 2, none⟩ = some (.int .i64 y.a) ∧ w'.cell? ⟨b2, off2 + k * 4 + 3, none⟩ = some (.int .i64 y.d) ∧ w'.cell? ⟨b1, off1 + i * 4, none⟩ = some (.int .i64 x.o) ∧ w'.cell? ⟨b1, off1 + i * 4 + 1, none⟩ = some (.int .i64 x.s) ∧ w'.cell? ⟨b1, off1 + i * 4 + 2, none⟩ = some (.int .i64 x.a) ∧ w'.cell? ⟨b1, off1 + i * 4 + 3, none⟩ = some (.int .i64 x.d))) (by kernel_rfl) ⟨p0, p1, p2, p3, c0, c1, c2, c3⟩ (fun hHeld => ?_)
                  refine tk (i := 0) (v := ?va0) rfl (by kernel_rfl) (fun _ _ _ h => h) (Or.inl ⟨by rfl, ?hya0⟩) (by assumption) ?ra0
                  case hya0 => (intro w hSw; (try dsimp only at hSw); go_simp; try with_reducible rfl)
                  try simp only [Act.put, qGa, qGb, qGc, qSa, qSb, qSc]
                  refine tk (i := 1) (v := ?va1) rfl (by kernel_rfl) (fun _ _ _ h => h) (Or.inl ⟨by rfl, ?hya1⟩) (by assumption) ?ra1
                  case hya1 => (intro w hSw; (try dsimp only at hSw); go_simp; try with_reducible rfl)
                  try simp only [Act.put, qGa, qGb, qGc, qSa, qSb, qSc]
                  refine tk (i := 2) (v := ?va2) rfl (by kernel_rfl) (fun _ _ _ h => h) (Or.inl ⟨by rfl, ?hya2⟩) (by assumption) ?ra2
                  case hya2 => (intro w hSw; (try dsimp only at hSw); go_simp; try with_reducible rfl)
                  try simp only [Act.put, qGa, qGb, qGc, qSa, qSb, qSc]
                  refine tk (i := 3) (v := ?va3) rfl (by kernel_rfl) (fun _ _ _ h => h) (Or.inl ⟨by rfl, ?hya3⟩) (by assumption) ?ra3
                  case hya3 => (intro w hSw; (try dsimp only at hSw); go_simp; try with_reducible rfl)
                  try simp only [Act.put, qGa, qGb, qGc, qSa, qSb, qSc]
                  refine tk (i := 4) (v := ?va4) rfl (by kernel_rfl) (fun _ _ _ h => h) (Or.inl ⟨by rfl, ?hya4⟩) (by assumption) ?ra4
                  case hya4 => (intro w hSw; (try dsimp only at hSw); go_simp; try with_reducible rfl)
                  try simp only [Act.put, qGa, qGb, qGc, qSa, qSb, qSc]
                  refine tk (i := 5) (v := ?va5) rfl (by kernel_rfl) (fun _ _ _ h => h) (Or.inl ⟨by rfl, ?hya5⟩) (by assumption) ?ra5
                  case hya5 => (intro w hSw; (try dsimp only at hSw); go_simp; try with_reducible rfl)
                  try simp only [Act.put, qGa, qGb, qGc, qSa, qSb, qSc]
                  refine tk (i := 7) (v := ?va7) rfl (by kernel_rfl) (fun _ _ _ h => h) (Or.inl ⟨by rfl, ?hya7⟩) (by assumption) ?ra7
                  case hya7 => (intro w hSw; (try dsimp only at hSw); go_simp; try with_reducible rfl)
                  try simp only [Act.put, qGa, qGb, qGc, qSa, qSb, qSc]
                  refine tk (i := 8) (v := ?va8) rfl (by kernel_rfl) (fun _ _ _ h => h) (Or.inl ⟨by rfl, ?hya8⟩) (by assumption) ?ra8
                  case hya8 => (intro w hSw; (try dsimp only at hSw); go_simp; try with_reducible rfl)
                  try simp only [Act.put, qGa, qGb, qGc, qSa, qSb, qSc]
                  refine tk (i := 9) (v := ?va9) rfl (by kernel_rfl) (fun _ _ _ h => h) (Or.inl ⟨by rfl, ?hya9⟩) (by assumption) ?ra9
                  case hya9 => (intro w hSw; (try dsimp only at hSw); go_simp; try with_reducible rfl)
                  try simp only [Act.put, qGa, qGb, qGc, qSa, qSb, qSc]
                  refine tk (i := 10) (v := ?va10) rfl (by kernel_rfl) (fun _ _ _ h => h) (Or.inl ⟨by rfl, ?hya10⟩) (by assumption) ?ra10
                  case hya10 => (intro w hSw; (try dsimp only at hSw); go_simp; try with_reducible rfl)
                  try simp only [Act.put, qGa, qGb, qGc, qSa, qSb, qSc]
                  refine wpAnyH_ready (rs := [6]) (by kernel_rfl) (by simp) ?_
                  refine AllReadyH.cons rfl (fun Ka hKa => ?_) AllReadyH.nil
                  go_simp
                  refine (HK.out y _).mono ?_
                  rintro e wA ⟨rfl, hbA⟩
                  have HBA := (Below.refl wr.heap.size wr).drew.trans hbA
                  go_wp2_with fail
                  refine hKa.out _ _ ⟨(HY.out _ HBA).h0, (HY.out _ HBA).h1, (HY.out _ HBA).h2, (HY.out _ HBA).h3, (HX.out _ HBA).h0, (HX.out _ HBA).h1, (HX.out _ HBA).h2, (HX.out _ HBA).h3⟩ (fun hHeld => ?_)
                  clear hKa Ka
                  try simp only [Act.put, qGa, qGb, qGc, qSa, qSb, qSc]
                  refine wpAnyH_ready (rs := [11]) (by kernel_rfl) (by simp) ?_
                  refine AllReadyH.cons rfl (fun Ka2 hKa2 => ?_) AllReadyH.nil
                  go_simp
                  refine (HK.out x _).mono ?_
                  rintro e wB ⟨rfl, hbB⟩
                  have HBB := HBA.trans (hbB.mono HBA.size)
                  go_wp2_with fail
                  refine hKa2.out _ _ ⟨(HY.out _ HBB).h0, (HY.out _ HBB).h1, (HY.out _ HBB).h2, (HY.out _ HBB).h3, (HX.out _ HBB).h0, (HX.out _ HBB).h1, (HX.out _ HBB).h2, (HX.out _ HBB).h3⟩ (fun hHeld => ?_)
                  clear hKa2 Ka2
                  try simp only [Act.put, qGa, qGb, qGc, qSa, qSb, qSc]
                  refine tk (i := 12) (v := ?va12) rfl (by kernel_rfl) (fun _ _ _ h => h) (Or.inl ⟨by rfl, ?hya12⟩) (by assumption) ?ra12
                  case hya12 => (intro w hSw; (try dsimp only at hSw); go_simp; try with_reducible rfl)
                  try simp only [Act.put, qGa, qGb, qGc, qSa, qSb, qSc]
                  refine tk (i := 13) (v := ?va13) rfl (by kernel_rfl) (fun _ _ _ h => h) (Or.inl ⟨by rfl, ?hya13⟩) (by assumption) ?ra13
                  case hya13 => (intro w hSw; (try dsimp only at hSw); go_simp; try with_reducible rfl)
                  try simp only [Act.put, qGa, qGb, qGc, qSa, qSb, qSc]
                  refine tk (i := 14) (v := undef) rfl (by kernel_rfl) (fun _ _ _ h => h) (Or.inr ⟨by rfl, rfl⟩) (by assumption) ?_
                  try simp only [Act.put, qGa, qGb, qGc, qSa, qSb, qSc]
                  refine tk (i := 15) (v := undef) rfl (by kernel_rfl) (fun _ _ _ h => h) (Or.inr ⟨by rfl, rfl⟩) (by assumption) ?_
                  try simp only [Act.put, qGa, qGb, qGc, qSa, qSb, qSc]
                  refine tk (i := 16) (v := undef) rfl (by kernel_rfl) (fun _ _ _ h => h) (Or.inr ⟨by rfl, rfl⟩) (by assumption) ?_
                  try simp only [Act.put, qGa, qGb, qGc, qSa, qSb, qSc]
                  refine tk (i := 17) (v := undef) rfl (by kernel_rfl) (fun _ _ _ h => h) (Or.inr ⟨by rfl, rfl⟩) (by assumption) ?_
                  try simp only [Act.put, qGa, qGb, qGc, qSa, qSb, qSc]
                  refine tk (i := 18) (v := undef) rfl (by kernel_rfl) (fun _ _ _ h => h) (Or.inr ⟨by rfl, rfl⟩) (by assumption) ?_
                  try simp only [Act.put, qGa, qGb, qGc, qSa, qSb, qSc]
                  refine tk (i := 19) (v := undef) rfl (by kernel_rfl) (fun _ _ _ h => h) (Or.inr ⟨by rfl, rfl⟩) (by assumption) ?_
                  try simp only [Act.put, qGa, qGb, qGc, qSa, qSb, qSc]
                  refine tk (i := 20) (v := undef) rfl (by kernel_rfl) (fun _ _ _ h => h) (Or.inr ⟨by rfl, rfl⟩) (by assumption) ?_
                  try simp only [Act.put, qGa, qGb, qGc, qSa, qSb, qSc]
                  refine tk (i := 21) (v := undef) rfl (by kernel_rfl) (fun _ _ _ h => h) (Or.inr ⟨by rfl, rfl⟩) (by assumption) ?_
                  try simp only [Act.put, qGa, qGb, qGc, qSa, qSb, qSc]
                  refine tk (i := 22) (v := undef) rfl (by kernel_rfl) (fun _ _ _ h => h) (Or.inr ⟨by rfl, rfl⟩) (by assumption) ?_
                  try simp only [Act.put, qGa, qGb, qGc, qSa, qSb, qSc]
                  refine tk (i := 23) (v := undef) rfl (by kernel_rfl) (fun _ _ _ h => h) (Or.inr ⟨by rfl, rfl⟩) (by assumption) ?_
                  try simp only [Act.put, qGa, qGb, qGc, qSa, qSb, qSc]
                  refine tk (i := 24) (v := undef) rfl (by kernel_rfl) (fun _ _ _ h => h) (Or.inr ⟨by rfl, rfl⟩) (by assumption) ?_
                  try simp only [Act.put, qGa, qGb, qGc, qSa, qSb, qSc]
                  refine tk (i := 25) (v := ?va25) rfl (by kernel_rfl) (fun _ _ _ h => h) (Or.inl ⟨by rfl, ?hya25⟩) (by assumption) ?ra25
                  case hya25 => (intro w hSw; (try dsimp only at hSw); go_simp; try with_reducible rfl)
                  try simp only [Act.put, qGa, qGb, qGc, qSa, qSb, qSc]
                  refine tk (i := 26) (v := ?va26) rfl (by kernel_rfl) (fun _ _ _ h => h) (Or.inl ⟨by rfl, ?hya26⟩) (by assumption) ?ra26
                  case hya26 => (intro w hSw; (try dsimp only at hSw); go_simp; try with_reducible rfl)
                  try simp only [Act.put, qGa, qGb, qGc, qSa, qSb, qSc]
                  refine tk (i := 27) (v := undef) rfl (by kernel_rfl) (fun _ _ _ h => h) (Or.inr ⟨by rfl, rfl⟩) (by assumption) ?_
                  try simp only [Act.put, qGa, qGb, qGc, qSa, qSb, qSc]
                  refine tk (i := 28) (v := undef) rfl (by kernel_rfl) (fun _ _ _ h => h) (Or.inr ⟨by rfl, rfl⟩) (by assumption) ?_
                  try simp only [Act.put, qGa, qGb, qGc, qSa, qSb, qSc]
                  refine tk (i := 29) (v := undef) rfl (by kernel_rfl) (fun _ _ _ h => h) (Or.inr ⟨by rfl, rfl⟩) (by assumption) ?_
                  try simp only [Act.put, qGa, qGb, qGc, qSa, qSb, qSc]
                  refine tk (i := 30) (v := undef) rfl (by kernel_rfl) (fun _ _ _ h => h) (Or.inr ⟨by rfl, rfl⟩) (by assumption) ?_
                  try simp only [Act.put, qGa, qGb, qGc, qSa, qSb, qSc]
                  refine tk (i := 31) (v := undef) rfl (by kernel_rfl) (fun _ _ _ h => h) (Or.inr ⟨by rfl, rfl⟩) (by assumption) ?_
                  try simp only [Act.put, qGa, qGb, qGc, qSa, qSb, qSc]
                  refine tk (i := 32) (v := undef) rfl (by kernel_rfl) (fun _ _ _ h => h) (Or.inr ⟨by rfl, rfl⟩) (by assumption) ?_
                  try simp only [Act.put, qGa, qGb, qGc, qSa, qSb, qSc]
                  refine tk (i := 33) (v := undef) rfl (by kernel_rfl) (fun _ _ _ h => h) (Or.inr ⟨by rfl, rfl⟩) (by assumption) ?_
                  try simp only [Act.put, qGa, qGb, qGc, qSa, qSb, qSc]
                  refine tk (i := 34) (v := undef) rfl (by kernel_rfl) (fun _ _ _ h => h) (Or.inr ⟨by rfl, rfl⟩) (by assumption) ?_
                  try simp only [Act.put, qGa, qGb, qGc, qSa, qSb, qSc]
                  refine tk (i := 35) (v := undef) rfl (by kernel_rfl) (fun _ _ _ h => h) (Or.inr ⟨by rfl, rfl⟩) (by assumption) ?_
                  try simp only [Act.put, qGa, qGb, qGc, qSa, qSb, qSc]
                  refine tk (i := 36) (v := undef) rfl (by kernel_rfl) (fun _ _ _ h => h) (Or.inr ⟨by rfl, rfl⟩) (by assumption) ?_
                  try simp only [Act.put, qGa, qGb, qGc, qSa, qSb, qSc]
                  refine tk (i := 37) (v := undef) rfl (by kernel_rfl) (fun _ _ _ h => h) (Or.inr ⟨by rfl, rfl⟩) (by assumption) ?_
                  try simp only [Act.put, qGa, qGb, qGc, qSa, qSb, qSc]
                  refine tk (i := 38) (v := ?va38) rfl (by kernel_rfl) (fun _ _ _ h => h) (Or.inl ⟨by rfl, ?hya38⟩) (by assumption) ?ra38
                  case hya38 => (intro w hSw; (try dsimp only at hSw); go_simp; try with_reducible rfl)
                  try simp only [Act.put, qGa, qGb, qGc, qSa, qSb, qSc]
                  refine tk (i := 39) (v := ?va39) rfl (by kernel_rfl) (fun _ _ _ h => h) (Or.inl ⟨by rfl, ?hya39⟩) (by assumption) ?ra39
                  case hya39 => (intro w hSw; (try dsimp only at hSw); go_simp; try with_reducible rfl)
                  try simp only [Act.put, qGa, qGb, qGc, qSa, qSb, qSc]
                  refine tk (i := 40) (v := ?va40) rfl (by kernel_rfl) (fun _ _ _ h => h) (Or.inl ⟨by rfl, ?hya40⟩) (by assumption) ?ra40
                  case hya40 => (intro w hSw; (try dsimp only at hSw); go_simp; try with_reducible rfl)
                  try simp only [Act.put, qGa, qGb, qGc, qSa, qSb, qSc]
                  refine wpAnyH_done (by kernel_rfl) ?_ _
                  go_wp2_with fail
                  go_roundw
                  case rel => exact ⟨k + 1, by omega, by go_num, HST.out, hbel.trans (HBB.mono hsz)⟩
                  case measure => simp [intOf]; omega
                | true =>
                  cases hdd : decide (x.d ≤ y.d) with
                  | false =>
                    have HST := Lib.hid (hst false (hasF_false (.inr hdd))); clear hst
                    go_wp2_with fail
                    refine wp_region_held_drew (S := (fun w' => w'.cell? ⟨b2, off2 + k * 4, none⟩ = some (.int .i64 y.o) ∧ w'.cell? ⟨b2, off2 + k * 4 + 1, none⟩ = some (.int .i64 y.s) ∧ w'.cell? ⟨b2, off2 + k * 4 + 2, none⟩ = some (.int .i64 y.a) ∧ w'.cell? ⟨b2, off2 + k * 4 + 3, none⟩ = some (.int .i64 y.d) ∧ w'.cell? ⟨b1, off1 + i * 4, none⟩ = some (.int .i64 x.o) ∧ w'.cell? ⟨b1, off1 + i * 4 + 1, none⟩ = some (.int .i64 x.s) ∧ w'.cell? ⟨b1, off1 + i * 4 + 2, none⟩ = some (.int .i64 x.a) ∧ w'.cell? ⟨b1, off1 + i * 4 + 3, none⟩ = some (.int .i64 x.d))) (by kernel_rfl) ⟨p0, p1, p2, p3, c0, c1, c2, c3⟩ (fun hHeld => ?_)
                    refine tk (i := 0) (v := ?vb0) rfl (by kernel_rfl) (fun _ _ _ h => h) (Or.inl ⟨by rfl, ?hyb0⟩) (by assumption) ?rb0
                    case hyb0 => (intro w hSw; (try dsimp only at hSw); go_simp; try with_reducible rfl)
                    try simp only [Act.put, qGa, qGb, qGc, qSa, qSb, qSc]
                    refine tk (i := 1) (v := ?vb1) rfl (by kernel_rfl) (fun _ _ _ h => h) (Or.inl ⟨by rfl, ?hyb1⟩) (by assumption) ?rb1
                    case hyb1 => (intro w hSw; (try dsimp only at hSw); go_simp; try with_reducible rfl)
                    try simp only [Act.put, qGa, qGb, qGc, qSa, qSb, qSc]
                    refine tk (i := 2) (v := ?vb2) rfl (by kernel_rfl) (fun _ _ _ h => h) (Or.inl ⟨by rfl, ?hyb2⟩) (by assumption) ?rb2
                    case hyb2 => (intro w hSw; (try dsimp only at hSw); go_simp; try with_reducible rfl)
                    try simp only [Act.put, qGa, qGb, qGc, qSa, qSb, qSc]
                    refine tk (i := 3) (v := ?vb3) rfl (by kernel_rfl) (fun _ _ _ h => h) (Or.inl ⟨by rfl, ?hyb3⟩) (by assumption) ?rb3
                    case hyb3 => (intro w hSw; (try dsimp only at hSw); go_simp; try with_reducible rfl)
                    try simp only [Act.put, qGa, qGb, qGc, qSa, qSb, qSc]
                    refine tk (i := 4) (v := ?vb4) rfl (by kernel_rfl) (fun _ _ _ h => h) (Or.inl ⟨by rfl, ?hyb4⟩) (by assumption) ?rb4
                    case hyb4 => (intro w hSw; (try dsimp only at hSw); go_simp; try with_reducible rfl)
                    try simp only [Act.put, qGa, qGb, qGc, qSa, qSb, qSc]
                    refine tk (i := 5) (v := ?vb5) rfl (by kernel_rfl) (fun _ _ _ h => h) (Or.inl ⟨by rfl, ?hyb5⟩) (by assumption) ?rb5
                    case hyb5 => (intro w hSw; (try dsimp only at hSw); go_simp; try with_reducible rfl)
                    try simp only [Act.put, qGa, qGb, qGc, qSa, qSb, qSc]
                    refine tk (i := 7) (v := ?vb7) rfl (by kernel_rfl) (fun _ _ _ h => h) (Or.inl ⟨by rfl, ?hyb7⟩) (by assumption) ?rb7
                    case hyb7 => (intro w hSw; (try dsimp only at hSw); go_simp; try with_reducible rfl)
                    try simp only [Act.put, qGa, qGb, qGc, qSa, qSb, qSc]
                    refine tk (i := 8) (v := ?vb8) rfl (by kernel_rfl) (fun _ _ _ h => h) (Or.inl ⟨by rfl, ?hyb8⟩) (by assumption) ?rb8
                    case hyb8 => (intro w hSw; (try dsimp only at hSw); go_simp; try with_reducible rfl)
                    try simp only [Act.put, qGa, qGb, qGc, qSa, qSb, qSc]
                    refine tk (i := 9) (v := ?vb9) rfl (by kernel_rfl) (fun _ _ _ h => h) (Or.inl ⟨by rfl, ?hyb9⟩) (by assumption) ?rb9
                    case hyb9 => (intro w hSw; (try dsimp only at hSw); go_simp; try with_reducible rfl)
                    try simp only [Act.put, qGa, qGb, qGc, qSa, qSb, qSc]
                    refine tk (i := 10) (v := ?vb10) rfl (by kernel_rfl) (fun _ _ _ h => h) (Or.inl ⟨by rfl, ?hyb10⟩) (by assumption) ?rb10
                    case hyb10 => (intro w hSw; (try dsimp only at hSw); go_simp; try with_reducible rfl)
                    try simp only [Act.put, qGa, qGb, qGc, qSa, qSb, qSc]
                    refine wpAnyH_ready (rs := [6]) (by kernel_rfl) (by simp) ?_
                    refine AllReadyH.cons rfl (fun Kb hKb => ?_) AllReadyH.nil
                    go_simp
                    refine (HK.out y _).mono ?_
                    rintro e wA ⟨rfl, hbA⟩
                    have HBA := (Below.refl wr.heap.size wr).drew.trans hbA
                    go_wp2_with fail
                    refine hKb.out _ _ ⟨(HY.out _ HBA).h0, (HY.out _ HBA).h1, (HY.out _ HBA).h2, (HY.out _ HBA).h3, (HX.out _ HBA).h0, (HX.out _ HBA).h1, (HX.out _ HBA).h2, (HX.out _ HBA).h3⟩ (fun hHeld => ?_)
                    clear hKb Kb
                    try simp only [Act.put, qGa, qGb, qGc, qSa, qSb, qSc]
                    refine wpAnyH_ready (rs := [11]) (by kernel_rfl) (by simp) ?_
                    refine AllReadyH.cons rfl (fun Kb2 hKb2 => ?_) AllReadyH.nil
                    go_simp
                    refine (HK.out x _).mono ?_
                    rintro e wB ⟨rfl, hbB⟩
                    have HBB := HBA.trans (hbB.mono HBA.size)
                    go_wp2_with fail
                    refine hKb2.out _ _ ⟨(HY.out _ HBB).h0, (HY.out _ HBB).h1, (HY.out _ HBB).h2, (HY.out _ HBB).h3, (HX.out _ HBB).h0, (HX.out _ HBB).h1, (HX.out _ HBB).h2, (HX.out _ HBB).h3⟩ (fun hHeld => ?_)
                    clear hKb2 Kb2
                    try simp only [Act.put, qGa, qGb, qGc, qSa, qSb, qSc]
                    refine tk (i := 12) (v := ?vb12) rfl (by kernel_rfl) (fun _ _ _ h => h) (Or.inl ⟨by rfl, ?hyb12⟩) (by assumption) ?rb12
                    case hyb12 => (intro w hSw; (try dsimp only at hSw); go_simp; try with_reducible rfl)
                    try simp only [Act.put, qGa, qGb, qGc, qSa, qSb, qSc]
                    refine tk (i := 13) (v := ?vb13) rfl (by kernel_rfl) (fun _ _ _ h => h) (Or.inl ⟨by rfl, ?hyb13⟩) (by assumption) ?rb13
                    case hyb13 => (intro w hSw; (try dsimp only at hSw); go_simp; try with_reducible rfl)
                    try simp only [Act.put, qGa, qGb, qGc, qSa, qSb, qSc]
                    refine tk (i := 14) (v := ?vb14) rfl (by kernel_rfl) (fun _ _ _ h => h) (Or.inl ⟨by rfl, ?hyb14⟩) (by assumption) ?rb14
                    case hyb14 => (intro w hSw; (try dsimp only at hSw); go_simp; try with_reducible rfl)
                    try simp only [Act.put, qGa, qGb, qGc, qSa, qSb, qSc]
                    refine tk (i := 15) (v := ?vb15) rfl (by kernel_rfl) (fun _ _ _ h => h) (Or.inl ⟨by rfl, ?hyb15⟩) (by assumption) ?rb15
                    case hyb15 => (intro w hSw; (try dsimp only at hSw); go_simp; try with_reducible rfl)
                    try simp only [Act.put, qGa, qGb, qGc, qSa, qSb, qSc]
                    refine tk (i := 16) (v := ?vb16) rfl (by kernel_rfl) (fun _ _ _ h => h) (Or.inl ⟨by rfl, ?hyb16⟩) (by assumption) ?rb16
                    case hyb16 => (intro w hSw; (try dsimp only at hSw); go_simp; try with_reducible rfl)
                    try simp only [Act.put, qGa, qGb, qGc, qSa, qSb, qSc]
                    refine tk (i := 17) (v := ?vb17) rfl (by kernel_rfl) (fun _ _ _ h => h) (Or.inl ⟨by rfl, ?hyb17⟩) (by assumption) ?rb17
                    case hyb17 => (intro w hSw; (try dsimp only at hSw); go_simp; try with_reducible rfl)
                    try simp only [Act.put, qGa, qGb, qGc, qSa, qSb, qSc]
                    refine tk (i := 18) (v := ?vb18) rfl (by kernel_rfl) (fun _ _ _ h => h) (Or.inl ⟨by rfl, ?hyb18⟩) (by assumption) ?rb18
                    case hyb18 => (intro w hSw; (try dsimp only at hSw); go_simp; try with_reducible rfl)
                    try simp only [Act.put, qGa, qGb, qGc, qSa, qSb, qSc]
                    refine tk (i := 19) (v := ?vb19) rfl (by kernel_rfl) (fun _ _ _ h => h) (Or.inl ⟨by rfl, ?hyb19⟩) (by assumption) ?rb19
                    case hyb19 => (intro w hSw; (try dsimp only at hSw); go_simp; try with_reducible rfl)
                    try simp only [Act.put, qGa, qGb, qGc, qSa, qSb, qSc]
                    refine tk (i := 20) (v := ?vb20) rfl (by kernel_rfl) (fun _ _ _ h => h) (Or.inl ⟨by rfl, ?hyb20⟩) (by assumption) ?rb20
                    case hyb20 => (intro w hSw; (try dsimp only at hSw); go_simp; try with_reducible rfl)
                    try simp only [Act.put, qGa, qGb, qGc, qSa, qSb, qSc]
                    refine tk (i := 21) (v := ?vb21) rfl (by kernel_rfl) (fun _ _ _ h => h) (Or.inl ⟨by rfl, ?hyb21⟩) (by assumption) ?rb21
                    case hyb21 => (intro w hSw; (try dsimp only at hSw); go_simp; try with_reducible rfl)
                    try simp only [Act.put, qGa, qGb, qGc, qSa, qSb, qSc]
                    refine tk (i := 22) (v := ?vb22) rfl (by kernel_rfl) (fun _ _ _ h => h) (Or.inl ⟨by rfl, ?hyb22⟩) (by assumption) ?rb22
                    case hyb22 => (intro w hSw; (try dsimp only at hSw); go_simp; try with_reducible rfl)
                    try simp only [Act.put, qGa, qGb, qGc, qSa, qSb, qSc]
                    refine tk (i := 23) (v := ?vb23) rfl (by kernel_rfl) (fun _ _ _ h => h) (Or.inl ⟨by rfl, ?hyb23⟩) (by assumption) ?rb23
                    case hyb23 => (intro w hSw; (try dsimp only at hSw); go_simp; try with_reducible rfl)
                    try simp only [Act.put, qGa, qGb, qGc, qSa, qSb, qSc]
                    refine tk (i := 24) (v := ?vb24) rfl (by kernel_rfl) (fun _ _ _ h => h) (Or.inl ⟨by rfl, ?hyb24⟩) (by assumption) ?rb24
                    case hyb24 => (intro w hSw; (try dsimp only at hSw); go_simp; try with_reducible rfl)
                    try simp only [Act.put, qGa, qGb, qGc, qSa, qSb, qSc]
                    refine tk (i := 25) (v := ?vb25) rfl (by kernel_rfl) (fun _ _ _ h => h) (Or.inl ⟨by rfl, ?hyb25⟩) (by assumption) ?rb25
                    case hyb25 => (intro w hSw; (try dsimp only at hSw); go_simp; try with_reducible rfl)
                    try simp only [Act.put, qGa, qGb, qGc, qSa, qSb, qSc]
                    refine tk (i := 26) (v := ?vb26) rfl (by kernel_rfl) (fun _ _ _ h => h) (Or.inl ⟨by rfl, ?hyb26⟩) (by assumption) ?rb26
                    case hyb26 => (intro w hSw; (try dsimp only at hSw); go_simp; try with_reducible rfl)
                    try simp only [Act.put, qGa, qGb, qGc, qSa, qSb, qSc]
                    refine tk (i := 27) (v := undef) rfl (by kernel_rfl) (fun _ _ _ h => h) (Or.inr ⟨by rfl, rfl⟩) (by assumption) ?_
                    try simp only [Act.put, qGa, qGb, qGc, qSa, qSb, qSc]
                    refine tk (i := 28) (v := undef) rfl (by kernel_rfl) (fun _ _ _ h => h) (Or.inr ⟨by rfl, rfl⟩) (by assumption) ?_
                    try simp only [Act.put, qGa, qGb, qGc, qSa, qSb, qSc]
                    refine tk (i := 29) (v := undef) rfl (by kernel_rfl) (fun _ _ _ h => h) (Or.inr ⟨by rfl, rfl⟩) (by assumption) ?_
                    try simp only [Act.put, qGa, qGb, qGc, qSa, qSb, qSc]
                    refine tk (i := 30) (v := undef) rfl (by kernel_rfl) (fun _ _ _ h => h) (Or.inr ⟨by rfl, rfl⟩) (by assumption) ?_
                    try simp only [Act.put, qGa, qGb, qGc, qSa, qSb, qSc]
                    refine tk (i := 31) (v := undef) rfl (by kernel_rfl) (fun _ _ _ h => h) (Or.inr ⟨by rfl, rfl⟩) (by assumption) ?_
                    try simp only [Act.put, qGa, qGb, qGc, qSa, qSb, qSc]
                    refine tk (i := 32) (v := undef) rfl (by kernel_rfl) (fun _ _ _ h => h) (Or.inr ⟨by rfl, rfl⟩) (by assumption) ?_
                    try simp only [Act.put, qGa, qGb, qGc, qSa, qSb, qSc]
                    refine tk (i := 33) (v := undef) rfl (by kernel_rfl) (fun _ _ _ h => h) (Or.inr ⟨by rfl, rfl⟩) (by assumption) ?_
                    try simp only [Act.put, qGa, qGb, qGc, qSa, qSb, qSc]
                    refine tk (i := 34) (v := undef) rfl (by kernel_rfl) (fun _ _ _ h => h) (Or.inr ⟨by rfl, rfl⟩) (by assumption) ?_
                    try simp only [Act.put, qGa, qGb, qGc, qSa, qSb, qSc]
                    refine tk (i := 35) (v := undef) rfl (by kernel_rfl) (fun _ _ _ h => h) (Or.inr ⟨by rfl, rfl⟩) (by assumption) ?_
                    try simp only [Act.put, qGa, qGb, qGc, qSa, qSb, qSc]
                    refine tk (i := 36) (v := undef) rfl (by kernel_rfl) (fun _ _ _ h => h) (Or.inr ⟨by rfl, rfl⟩) (by assumption) ?_
                    try simp only [Act.put, qGa, qGb, qGc, qSa, qSb, qSc]
                    refine tk (i := 37) (v := undef) rfl (by kernel_rfl) (fun _ _ _ h => h) (Or.inr ⟨by rfl, rfl⟩) (by assumption) ?_
                    try simp only [Act.put, qGa, qGb, qGc, qSa, qSb, qSc]
                    refine tk (i := 38) (v := ?vb38) rfl (by kernel_rfl) (fun _ _ _ h => h) (Or.inl ⟨by rfl, ?hyb38⟩) (by assumption) ?rb38
                    case hyb38 => (intro w hSw; (try dsimp only at hSw); go_simp; try with_reducible rfl)
                    try simp only [Act.put, qGa, qGb, qGc, qSa, qSb, qSc]
                    refine tk (i := 39) (v := ?vb39) rfl (by kernel_rfl) (fun _ _ _ h => h) (Or.inl ⟨by rfl, ?hyb39⟩) (by assumption) ?rb39
                    case hyb39 => (intro w hSw; (try dsimp only at hSw); go_simp; try with_reducible rfl)
                    try simp only [Act.put, qGa, qGb, qGc, qSa, qSb, qSc]
                    refine tk (i := 40) (v := ?vb40) rfl (by kernel_rfl) (fun _ _ _ h => h) (Or.inl ⟨by rfl, ?hyb40⟩) (by assumption) ?rb40
                    case hyb40 => (intro w hSw; (try dsimp only at hSw); go_simp; try with_reducible rfl)
                    try simp only [Act.put, qGa, qGb, qGc, qSa, qSb, qSc]
                    refine wpAnyH_done (by kernel_rfl) ?_ _
                    go_wp2_with fail
                    go_roundw
                    case rel => exact ⟨k + 1, by omega, by go_num, HST.out, hbel.trans (HBB.mono hsz)⟩
                    case measure => simp [intOf]; omega
                  | true =>
                    have HST := Lib.hid (hst _ (hasF_last hkk hdd)); clear hst
                    go_wp2_with fail
                    refine wp_region_held_drew (S := (fun w' => w'.cell? ⟨b2, off2 + k * 4, none⟩ = some (.int .i64 y.o) ∧ w'.cell? ⟨b2, off2 + k * 4 + 1, none⟩ = some (.int .i64 y.s) ∧ w'.cell? ⟨b2, off2 + k * 4 + 2, none⟩ = some (.int .i64 y.a) ∧ w'.cell? ⟨b2, off2 + k * 4 + 3, none⟩ = some (.int .i64 y.d) ∧ w'.cell? ⟨b1, off1 + i * 4, none⟩ = some (.int .i64 x.o) ∧ w'.cell? ⟨b1, off1 + i * 4 + 1, none⟩ = some (.int .i64 x.s) ∧ w'.cell? ⟨b1, off1 + i * 4 + 2, none⟩ = some (.int .i64 x.a) ∧ w'.cell? ⟨b1, off1 + i * 4 + 3, none⟩ = some (.int .i64 x.d))) (by kernel_rfl) ⟨p0, p1, p2, p3, c0, c1, c2, c3⟩ (fun hHeld => ?_)
                    refine tk (i := 0) (v := ?vc0) rfl (by kernel_rfl) (fun _ _ _ h => h) (Or.inl ⟨by rfl, ?hyc0⟩) (by assumption) ?rc0
                    case hyc0 => (intro w hSw; (try dsimp only at hSw); go_simp; try with_reducible rfl)
                    try simp only [Act.put, qGa, qGb, qGc, qSa, qSb, qSc]
                    refine tk (i := 1) (v := ?vc1) rfl (by kernel_rfl) (fun _ _ _ h => h) (Or.inl ⟨by rfl, ?hyc1⟩) (by assumption) ?rc1
                    case hyc1 => (intro w hSw; (try dsimp only at hSw); go_simp; try with_reducible rfl)
                    try simp only [Act.put, qGa, qGb, qGc, qSa, qSb, qSc]
                    refine tk (i := 2) (v := ?vc2) rfl (by kernel_rfl) (fun _ _ _ h => h) (Or.inl ⟨by rfl, ?hyc2⟩) (by assumption) ?rc2
                    case hyc2 => (intro w hSw; (try dsimp only at hSw); go_simp; try with_reducible rfl)
                    try simp only [Act.put, qGa, qGb, qGc, qSa, qSb, qSc]
                    refine tk (i := 3) (v := ?vc3) rfl (by kernel_rfl) (fun _ _ _ h => h) (Or.inl ⟨by rfl, ?hyc3⟩) (by assumption) ?rc3
                    case hyc3 => (intro w hSw; (try dsimp only at hSw); go_simp; try with_reducible rfl)
                    try simp only [Act.put, qGa, qGb, qGc, qSa, qSb, qSc]
                    refine tk (i := 4) (v := ?vc4) rfl (by kernel_rfl) (fun _ _ _ h => h) (Or.inl ⟨by rfl, ?hyc4⟩) (by assumption) ?rc4
                    case hyc4 => (intro w hSw; (try dsimp only at hSw); go_simp; try with_reducible rfl)
                    try simp only [Act.put, qGa, qGb, qGc, qSa, qSb, qSc]
                    refine tk (i := 5) (v := ?vc5) rfl (by kernel_rfl) (fun _ _ _ h => h) (Or.inl ⟨by rfl, ?hyc5⟩) (by assumption) ?rc5
                    case hyc5 => (intro w hSw; (try dsimp only at hSw); go_simp; try with_reducible rfl)
                    try simp only [Act.put, qGa, qGb, qGc, qSa, qSb, qSc]
                    refine tk (i := 7) (v := ?vc7) rfl (by kernel_rfl) (fun _ _ _ h => h) (Or.inl ⟨by rfl, ?hyc7⟩) (by assumption) ?rc7
                    case hyc7 => (intro w hSw; (try dsimp only at hSw); go_simp; try with_reducible rfl)
                    try simp only [Act.put, qGa, qGb, qGc, qSa, qSb, qSc]
                    refine tk (i := 8) (v := ?vc8) rfl (by kernel_rfl) (fun _ _ _ h => h) (Or.inl ⟨by rfl, ?hyc8⟩) (by assumption) ?rc8
                    case hyc8 => (intro w hSw; (try dsimp only at hSw); go_simp; try with_reducible rfl)
                    try simp only [Act.put, qGa, qGb, qGc, qSa, qSb, qSc]
                    refine tk (i := 9) (v := ?vc9) rfl (by kernel_rfl) (fun _ _ _ h => h) (Or.inl ⟨by rfl, ?hyc9⟩) (by assumption) ?rc9
                    case hyc9 => (intro w hSw; (try dsimp only at hSw); go_simp; try with_reducible rfl)
                    try simp only [Act.put, qGa, qGb, qGc, qSa, qSb, qSc]
                    refine tk (i := 10) (v := ?vc10) rfl (by kernel_rfl) (fun _ _ _ h => h) (Or.inl ⟨by rfl, ?hyc10⟩) (by assumption) ?rc10
                    case hyc10 => (intro w hSw; (try dsimp only at hSw); go_simp; try with_reducible rfl)
                    try simp only [Act.put, qGa, qGb, qGc, qSa, qSb, qSc]
                    refine wpAnyH_ready (rs := [6]) (by kernel_rfl) (by simp) ?_
                    refine AllReadyH.cons rfl (fun Kc hKc => ?_) AllReadyH.nil
                    go_simp
                    refine (HK.out y _).mono ?_
                    rintro e wA ⟨rfl, hbA⟩
                    have HBA := (Below.refl wr.heap.size wr).drew.trans hbA
                    go_wp2_with fail
                    refine hKc.out _ _ ⟨(HY.out _ HBA).h0, (HY.out _ HBA).h1, (HY.out _ HBA).h2, (HY.out _ HBA).h3, (HX.out _ HBA).h0, (HX.out _ HBA).h1, (HX.out _ HBA).h2, (HX.out _ HBA).h3⟩ (fun hHeld => ?_)
                    clear hKc Kc
                    try simp only [Act.put, qGa, qGb, qGc, qSa, qSb, qSc]
                    refine wpAnyH_ready (rs := [11]) (by kernel_rfl) (by simp) ?_
                    refine AllReadyH.cons rfl (fun Kc2 hKc2 => ?_) AllReadyH.nil
                    go_simp
                    refine (HK.out x _).mono ?_
                    rintro e wB ⟨rfl, hbB⟩
                    have HBB := HBA.trans (hbB.mono HBA.size)
                    go_wp2_with fail
                    refine hKc2.out _ _ ⟨(HY.out _ HBB).h0, (HY.out _ HBB).h1, (HY.out _ HBB).h2, (HY.out _ HBB).h3, (HX.out _ HBB).h0, (HX.out _ HBB).h1, (HX.out _ HBB).h2, (HX.out _ HBB).h3⟩ (fun hHeld => ?_)
                    clear hKc2 Kc2
                    try simp only [Act.put, qGa, qGb, qGc, qSa, qSb, qSc]
                    refine tk (i := 12) (v := ?vc12) rfl (by kernel_rfl) (fun _ _ _ h => h) (Or.inl ⟨by rfl, ?hyc12⟩) (by assumption) ?rc12
                    case hyc12 => (intro w hSw; (try dsimp only at hSw); go_simp; try with_reducible rfl)
                    try simp only [Act.put, qGa, qGb, qGc, qSa, qSb, qSc]
                    refine tk (i := 13) (v := ?vc13) rfl (by kernel_rfl) (fun _ _ _ h => h) (Or.inl ⟨by rfl, ?hyc13⟩) (by assumption) ?rc13
                    case hyc13 => (intro w hSw; (try dsimp only at hSw); go_simp; try with_reducible rfl)
                    try simp only [Act.put, qGa, qGb, qGc, qSa, qSb, qSc]
                    refine tk (i := 14) (v := ?vc14) rfl (by kernel_rfl) (fun _ _ _ h => h) (Or.inl ⟨by rfl, ?hyc14⟩) (by assumption) ?rc14
                    case hyc14 => (intro w hSw; (try dsimp only at hSw); go_simp; try with_reducible rfl)
                    try simp only [Act.put, qGa, qGb, qGc, qSa, qSb, qSc]
                    refine tk (i := 15) (v := ?vc15) rfl (by kernel_rfl) (fun _ _ _ h => h) (Or.inl ⟨by rfl, ?hyc15⟩) (by assumption) ?rc15
                    case hyc15 => (intro w hSw; (try dsimp only at hSw); go_simp; try with_reducible rfl)
                    try simp only [Act.put, qGa, qGb, qGc, qSa, qSb, qSc]
                    refine tk (i := 16) (v := ?vc16) rfl (by kernel_rfl) (fun _ _ _ h => h) (Or.inl ⟨by rfl, ?hyc16⟩) (by assumption) ?rc16
                    case hyc16 => (intro w hSw; (try dsimp only at hSw); go_simp; try with_reducible rfl)
                    try simp only [Act.put, qGa, qGb, qGc, qSa, qSb, qSc]
                    refine tk (i := 17) (v := ?vc17) rfl (by kernel_rfl) (fun _ _ _ h => h) (Or.inl ⟨by rfl, ?hyc17⟩) (by assumption) ?rc17
                    case hyc17 => (intro w hSw; (try dsimp only at hSw); go_simp; try with_reducible rfl)
                    try simp only [Act.put, qGa, qGb, qGc, qSa, qSb, qSc]
                    refine tk (i := 18) (v := ?vc18) rfl (by kernel_rfl) (fun _ _ _ h => h) (Or.inl ⟨by rfl, ?hyc18⟩) (by assumption) ?rc18
                    case hyc18 => (intro w hSw; (try dsimp only at hSw); go_simp; try with_reducible rfl)
                    try simp only [Act.put, qGa, qGb, qGc, qSa, qSb, qSc]
                    refine tk (i := 19) (v := ?vc19) rfl (by kernel_rfl) (fun _ _ _ h => h) (Or.inl ⟨by rfl, ?hyc19⟩) (by assumption) ?rc19
                    case hyc19 => (intro w hSw; (try dsimp only at hSw); go_simp; try with_reducible rfl)
                    try simp only [Act.put, qGa, qGb, qGc, qSa, qSb, qSc]
                    refine tk (i := 20) (v := ?vc20) rfl (by kernel_rfl) (fun _ _ _ h => h) (Or.inl ⟨by rfl, ?hyc20⟩) (by assumption) ?rc20
                    case hyc20 => (intro w hSw; (try dsimp only at hSw); go_simp; try with_reducible rfl)
                    try simp only [Act.put, qGa, qGb, qGc, qSa, qSb, qSc]
                    refine tk (i := 21) (v := ?vc21) rfl (by kernel_rfl) (fun _ _ _ h => h) (Or.inl ⟨by rfl, ?hyc21⟩) (by assumption) ?rc21
                    case hyc21 => (intro w hSw; (try dsimp only at hSw); go_simp; try with_reducible rfl)
                    try simp only [Act.put, qGa, qGb, qGc, qSa, qSb, qSc]
                    refine tk (i := 22) (v := ?vc22) rfl (by kernel_rfl) (fun _ _ _ h => h) (Or.inl ⟨by rfl, ?hyc22⟩) (by assumption) ?rc22
                    case hyc22 => (intro w hSw; (try dsimp only at hSw); go_simp; try with_reducible rfl)
                    try simp only [Act.put, qGa, qGb, qGc, qSa, qSb, qSc]
                    refine tk (i := 23) (v := ?vc23) rfl (by kernel_rfl) (fun _ _ _ h => h) (Or.inl ⟨by rfl, ?hyc23⟩) (by assumption) ?rc23
                    case hyc23 => (intro w hSw; (try dsimp only at hSw); go_simp; try with_reducible rfl)
                    try simp only [Act.put, qGa, qGb, qGc, qSa, qSb, qSc]
                    refine tk (i := 24) (v := ?vc24) rfl (by kernel_rfl) (fun _ _ _ h => h) (Or.inl ⟨by rfl, ?hyc24⟩) (by assumption) ?rc24
                    case hyc24 => (intro w hSw; (try dsimp only at hSw); go_simp; try with_reducible rfl)
                    try simp only [Act.put, qGa, qGb, qGc, qSa, qSb, qSc]
                    refine tk (i := 25) (v := ?vc25) rfl (by kernel_rfl) (fun _ _ _ h => h) (Or.inl ⟨by rfl, ?hyc25⟩) (by assumption) ?rc25
                    case hyc25 => (intro w hSw; (try dsimp only at hSw); go_simp; try with_reducible rfl)
                    try simp only [Act.put, qGa, qGb, qGc, qSa, qSb, qSc]
                    refine tk (i := 26) (v := ?vc26) rfl (by kernel_rfl) (fun _ _ _ h => h) (Or.inl ⟨by rfl, ?hyc26⟩) (by assumption) ?rc26
                    case hyc26 => (intro w hSw; (try dsimp only at hSw); go_simp; try with_reducible rfl)
                    try simp only [Act.put, qGa, qGb, qGc, qSa, qSb, qSc]
                    refine tk (i := 27) (v := ?vc27) rfl (by kernel_rfl) (fun _ _ _ h => h) (Or.inl ⟨by rfl, ?hyc27⟩) (by assumption) ?rc27
                    case hyc27 => (intro w hSw; (try dsimp only at hSw); go_simp; try with_reducible rfl)
                    try simp only [Act.put, qGa, qGb, qGc, qSa, qSb, qSc]
                    refine tk (i := 28) (v := ?vc28) rfl (by kernel_rfl) (fun _ _ _ h => h) (Or.inl ⟨by rfl, ?hyc28⟩) (by assumption) ?rc28
                    case hyc28 => (intro w hSw; (try dsimp only at hSw); go_simp; try with_reducible rfl)
                    try simp only [Act.put, qGa, qGb, qGc, qSa, qSb, qSc]
                    refine tk (i := 29) (v := ?vc29) rfl (by kernel_rfl) (fun _ _ _ h => h) (Or.inl ⟨by rfl, ?hyc29⟩) (by assumption) ?rc29
                    case hyc29 => (intro w hSw; (try dsimp only at hSw); go_simp; try with_reducible rfl)
                    try simp only [Act.put, qGa, qGb, qGc, qSa, qSb, qSc]
                    refine tk (i := 30) (v := ?vc30) rfl (by kernel_rfl) (fun _ _ _ h => h) (Or.inl ⟨by rfl, ?hyc30⟩) (by assumption) ?rc30
                    case hyc30 => (intro w hSw; (try dsimp only at hSw); go_simp; try with_reducible rfl)
                    try simp only [Act.put, qGa, qGb, qGc, qSa, qSb, qSc]
                    refine tk (i := 31) (v := ?vc31) rfl (by kernel_rfl) (fun _ _ _ h => h) (Or.inl ⟨by rfl, ?hyc31⟩) (by assumption) ?rc31
                    case hyc31 => (intro w hSw; (try dsimp only at hSw); go_simp; try with_reducible rfl)
                    try simp only [Act.put, qGa, qGb, qGc, qSa, qSb, qSc]
                    refine tk (i := 32) (v := ?vc32) rfl (by kernel_rfl) (fun _ _ _ h => h) (Or.inl ⟨by rfl, ?hyc32⟩) (by assumption) ?rc32
                    case hyc32 => (intro w hSw; (try dsimp only at hSw); go_simp; try with_reducible rfl)
                    try simp only [Act.put, qGa, qGb, qGc, qSa, qSb, qSc]
                    refine tk (i := 33) (v := ?vc33) rfl (by kernel_rfl) (fun _ _ _ h => h) (Or.inl ⟨by rfl, ?hyc33⟩) (by assumption) ?rc33
                    case hyc33 => (intro w hSw; (try dsimp only at hSw); go_simp; try with_reducible rfl)
                    try simp only [Act.put, qGa, qGb, qGc, qSa, qSb, qSc]
                    refine tk (i := 34) (v := ?vc34) rfl (by kernel_rfl) (fun _ _ _ h => h) (Or.inl ⟨by rfl, ?hyc34⟩) (by assumption) ?rc34
                    case hyc34 => (intro w hSw; (try dsimp only at hSw); go_simp; try with_reducible rfl)
                    try simp only [Act.put, qGa, qGb, qGc, qSa, qSb, qSc]
                    refine tk (i := 35) (v := ?vc35) rfl (by kernel_rfl) (fun _ _ _ h => h) (Or.inl ⟨by rfl, ?hyc35⟩) (by assumption) ?rc35
                    case hyc35 => (intro w hSw; (try dsimp only at hSw); go_simp; try with_reducible rfl)
                    try simp only [Act.put, qGa, qGb, qGc, qSa, qSb, qSc]
                    refine tk (i := 36) (v := ?vc36) rfl (by kernel_rfl) (fun _ _ _ h => h) (Or.inl ⟨by rfl, ?hyc36⟩) (by assumption) ?rc36
                    case hyc36 => (intro w hSw; (try dsimp only at hSw); go_simp; try with_reducible rfl)
                    try simp only [Act.put, qGa, qGb, qGc, qSa, qSb, qSc]
                    refine tk (i := 37) (v := ?vc37) rfl (by kernel_rfl) (fun _ _ _ h => h) (Or.inl ⟨by rfl, ?hyc37⟩) (by assumption) ?rc37
                    case hyc37 => (intro w hSw; (try dsimp only at hSw); go_simp; try with_reducible rfl)
                    try simp only [Act.put, qGa, qGb, qGc, qSa, qSb, qSc]
                    refine tk (i := 38) (v := ?vc38) rfl (by kernel_rfl) (fun _ _ _ h => h) (Or.inl ⟨by rfl, ?hyc38⟩) (by assumption) ?rc38
                    case hyc38 => (intro w hSw; (try dsimp only at hSw); go_simp; try with_reducible rfl)
                    try simp only [Act.put, qGa, qGb, qGc, qSa, qSb, qSc]
                    refine tk (i := 39) (v := ?vc39) rfl (by kernel_rfl) (fun _ _ _ h => h) (Or.inl ⟨by rfl, ?hyc39⟩) (by assumption) ?rc39
                    case hyc39 => (intro w hSw; (try dsimp only at hSw); go_simp; try with_reducible rfl)
                    try simp only [Act.put, qGa, qGb, qGc, qSa, qSb, qSc]
                    refine tk (i := 40) (v := ?vc40) rfl (by kernel_rfl) (fun _ _ _ h => h) (Or.inl ⟨by rfl, ?hyc40⟩) (by assumption) ?rc40
                    case hyc40 => (intro w hSw; (try dsimp only at hSw); go_simp; try with_reducible rfl)
                    try simp only [Act.put, qGa, qGb, qGc, qSa, qSb, qSc]
                    refine wpAnyH_done (by kernel_rfl) ?_ _
                    go_wp2_with fail
                    go_roundw
                    case rel => exact ⟨k + 1, by omega, by go_num, HST.out, hbel.trans (HBB.mono hsz)⟩
                    case measure => simp [intOf]; omega
              · have HST := Lib.hid (hst _ rfl); clear hst HX HY
                clear c0 c1 c2 c3 p0 p1 p2 p3
                go_wp2_with fail
                go_quiet (fail)
                go_wp2_with fail
                go_roundw
                case rel => exact ⟨k + 1, by omega, by go_num, HST.out, below_drewN hbel _⟩
                case measure => simp [intOf]; omega
            · have ek : k = ys.length := by omega
              subst ek
              rw [List.take_length]
              have hq : hasB ys x = ys.any (hasF x) := rfl
              rw [← hq]
              clear hq
              generalize hasB ys x = q at HGO HSTOP ⊢
              rcases q with _ | _
              · have hrf := Lib.hid (HSTOP.out rfl)
                clear HGO HSTOP
                go_wp2
                go_ret
                exact ⟨ret_bool hrf.out.symm, hbel⟩
              · have hn := Lib.hid (HGO.out rfl)
                clear HGO HSTOP
                go_wp2
                go_roundw
                case rel => exact ⟨i + 1, by omega, by go_num, hn, hbel⟩
                case measure => simp [intOf]; omega
        · have ei : i = xs.length := by omega
          subst ei
          have hrt : r = true := by rw [HR.out]; have h := hall.out; rwa [List.take_length] at h
          go_wp2
          go_ret
          exact ⟨ret_bool hrt.symm, hbo⟩
end Go.Proofs.YtoniahfdjhhalaaGreat
