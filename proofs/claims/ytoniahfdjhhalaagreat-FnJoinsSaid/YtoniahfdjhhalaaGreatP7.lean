/- Texts of this claim, put together. -/
import Derived.Test.YtoniahfdjhhalaaGreatP1
import Derived.Test.YtoniahfdjhhalaaGreatP6
import Derived.Deep.DeepCutAuto

namespace Go.Proofs.YtoniahfdjhhalaaGreat
open Go.RowKit
set_option linter.unusedSimpArgs false in
set_option maxHeartbeats 8000000 in
set_option maxRecDepth 100000 in
theorem specBookOk_any (B : Nat) (ao : Option Addr) (n cap : Nat) (es : List Ent) (w : World) (hx : Ents B w ao n cap es) (hB : B ≤ w.heap.size) :
    Calls Tryz.prog 19 #[.slice ao n cap] w (Says (.bool (bookOk es)) w) := by
  have hx0 := hx.hlen; have hx1 := hx.hcap; have hx2 := hx.hmax
  unfold maxLen at hx2
  by_cases hbig : 20 < n
  · have hbad := book_big (es := es) (by omega)
    rw [hbad]
    clear hbad hx0
    go_enter Tryz.func19, Tryz.ntmps19
    go_wp2
    go_ret
    exact ⟨rfl, Below.refl _ _⟩
  · have HX := Lib.hid hx0; clear hx0
    generalize hb : bookOk es = bb
    have HB := Lib.hid hb; clear hb
    go_enter Tryz.func19, Tryz.ntmps19
    go_wp2
    go_loopw [3] (fun si wr => ∃ i : Nat, i ≤ n ∧ si = .int .i64 i ∧ Hid (Right es i) ∧ Below w.heap.size w wr) (fun si _ => n - (intOf si).toNat)
    case atStart => exact ⟨0, Nat.zero_le _, rfl, Lib.hid (right_zero es), Below.refl _ _⟩
    case round =>
      obtain ⟨i, hi, rfl, hr, hbel⟩ := hrel
      by_cases hlt : i < n
      · have hxr := hx.below hbel hB hB
        obtain ⟨b, off, rfl, hbB, hc⟩ := hxr.at i hlt
        have hc0 : ∀ j, j < n → Ent4 w b (off + j * 4) (E es j) := fun j hj => by
          obtain ⟨b', off', e', _, h'⟩ := hx.cell j hj
          cases e'
          exact h'
        have g1 := hc i hlt
        have hS := fun w => specEntryOk_any (E es i).o (E es i).s (E es i).a (E es i).d w
        have hokE : entryOk (E es i).o (E es i).s (E es i).a (E es i).d = (E es i).ok := rfl
        rw [hokE] at hS
        have hbad := book_bad (es := es) (k := i) (by have := HX.out; omega)
        have hgood : Good es i → Right es (i + 1) := fun h => right_succ hr.out h
        unfold Good at hbad hgood
        have hK := fun w => specKeyOf_any (E es i).o (E es i).s (E es i).a (E es i).d w
        have hkE : keyOf (E es i).o (E es i).s (E es i).a (E es i).d = (E es i).key := rfl
        rw [hkE] at hK
        have hsz := hbel.size
        have HC : ∀ w', Below wr.heap.size wr w' → Ent4 w' b (off + i * 4) (E es i) := fun w' h => g1.below h (by omega)
        have HP : ∀ w', 0 < i → Below wr.heap.size wr w' → Ent4 w' b (off + (i - 1) * 4) (E es (i - 1)) := fun w' hi0 h => (hc (i - 1) (by omega)).below h (by omega)
        generalize hxi : E es i = x at hS hK HC hbad hgood g1
        generalize hok : x.ok = okb at hS hbad hgood
        generalize hky : x.key = ky at hK hbad hgood
        clear hokE hkE
        have HBAD := Lib.hid hbad; have HGOOD := Lib.hid hgood; have HXI := Lib.hid hxi; have HOK := Lib.hid hok; have HKY := Lib.hid hky
        clear hbad hgood hxi hok hky
        have HW := Lib.hid HC; have HV := Lib.hid HP; clear HC HP
        obtain ⟨c0, c1, c2, c3⟩ := g1
        clear hc
        have i1 : (0 : Int) ≤ i := by omega
        have i2 : (i : Int) < n := by omega
        go_upto_region 6 with fail
        go_cut [37] (fun sq wx => ∃ q : Bool, sq = .bool q ∧ Hid (q = true → bb = false) ∧ Hid (q = false → okb = true ∧ (0 < i → (E es (i - 1)).key < ky)) ∧ Below w.heap.size w wx)
        case first =>
          rcases okb with _ | _
          ·
            refine wp_region_held_drew (S := (fun w' => w'.cell? ⟨b, off + i * 4, none⟩ = some (.int .i64 x.o) ∧ w'.cell? ⟨b, off + i * 4 + 1, none⟩ = some (.int .i64 x.s) ∧ w'.cell? ⟨b, off + i * 4 + 2, none⟩ = some (.int .i64 x.a) ∧ w'.cell? ⟨b, off + i * 4 + 3, none⟩ = some (.int .i64 x.d))) (by kernel_rfl) ⟨c0, c1, c2, c3⟩ (fun hHeld => ?_)
            refine tk (i := 0) (v := ?va0) rfl (by kernel_rfl) (fun _ _ _ h => h) (Or.inl ⟨by rfl, ?hya0⟩) (by assumption) ?ra0
            case hya0 => (intro w hSw; (try dsimp only at hSw); go_simp; try with_reducible rfl)
            try simp only [Act.put, qGa, qGb, qGc, qSa, qSb, qSc]
            refine tk (i := 1) (v := ?va1) rfl (by kernel_rfl) (fun _ _ _ h => h) (Or.inl ⟨by rfl, ?hya1⟩) (by assumption) ?ra1
            case hya1 => (intro w hSw; (try dsimp only at hSw); go_simp; try with_reducible rfl)
            try simp only [Act.put, qGa, qGb, qGc, qSa, qSb, qSc]
            refine tk (i := 2) (v := ?va2) rfl (by kernel_rfl) (fun _ _ _ h => h) (Or.inl ⟨by rfl, ?hya2⟩) (by assumption) ?ra2
            case hya2 => (intro w hSw; (try dsimp only at hSw); go_simp; try with_reducible rfl)
            try simp only [Act.put, qGa, qGb, qGc, qSa, qSb, qSc]
            refine tk (i := 3) (v := ?va3) rfl (by kernel_rfl) (fun _ _ _ h => h) (Or.inl ⟨by rfl, ?hya3⟩) (by assumption) ?ra3
            case hya3 => (intro w hSw; (try dsimp only at hSw); go_simp; try with_reducible rfl)
            try simp only [Act.put, qGa, qGb, qGc, qSa, qSb, qSc]
            refine wpAnyH_ready (rs := [4]) (by kernel_rfl) (by simp) ?_
            refine AllReadyH.cons rfl (fun Ka hKa => ?_) AllReadyH.nil
            go_simp
            refine (hS _).mono ?_
            rintro e wA ⟨rfl, hbA⟩
            have HBA := (Below.refl wr.heap.size wr).drew.trans hbA
            go_wp2_with fail
            refine hKa.out _ _ ⟨(HW.out _ HBA).h0, (HW.out _ HBA).h1, (HW.out _ HBA).h2, (HW.out _ HBA).h3⟩ (fun hHeld => ?_)
            clear hKa Ka
            try simp only [Act.put, qGa, qGb, qGc, qSa, qSb, qSc]
            refine tk (i := 5) (v := ?va5) rfl (by kernel_rfl) (fun _ _ _ h => h) (Or.inl ⟨by rfl, ?hya5⟩) (by assumption) ?ra5
            case hya5 => (intro w hSw; (try dsimp only at hSw); go_simp; try with_reducible rfl)
            try simp only [Act.put, qGa, qGb, qGc, qSa, qSb, qSc]
            refine tk (i := 6) (v := ?va6) rfl (by kernel_rfl) (fun _ _ _ h => h) (Or.inl ⟨by rfl, ?hya6⟩) (by assumption) ?ra6
            case hya6 => (intro w hSw; (try dsimp only at hSw); go_simp; try with_reducible rfl)
            try simp only [Act.put, qGa, qGb, qGc, qSa, qSb, qSc]
            refine tk (i := 7) (v := undef) rfl (by kernel_rfl) (fun _ _ _ h => h) (Or.inr ⟨by rfl, rfl⟩) (by assumption) ?_
            try simp only [Act.put, qGa, qGb, qGc, qSa, qSb, qSc]
            refine tk (i := 8) (v := undef) rfl (by kernel_rfl) (fun _ _ _ h => h) (Or.inr ⟨by rfl, rfl⟩) (by assumption) ?_
            try simp only [Act.put, qGa, qGb, qGc, qSa, qSb, qSc]
            refine tk (i := 9) (v := undef) rfl (by kernel_rfl) (fun _ _ _ h => h) (Or.inr ⟨by rfl, rfl⟩) (by assumption) ?_
            try simp only [Act.put, qGa, qGb, qGc, qSa, qSb, qSc]
            refine tk (i := 10) (v := undef) rfl (by kernel_rfl) (fun _ _ _ h => h) (Or.inr ⟨by rfl, rfl⟩) (by assumption) ?_
            try simp only [Act.put, qGa, qGb, qGc, qSa, qSb, qSc]
            refine tk (i := 11) (v := undef) rfl (by kernel_rfl) (fun _ _ _ h => h) (Or.inr ⟨by rfl, rfl⟩) (by assumption) ?_
            try simp only [Act.put, qGa, qGb, qGc, qSa, qSb, qSc]
            refine tk (i := 12) (v := undef) rfl (by kernel_rfl) (fun _ _ _ h => h) (Or.inr ⟨by rfl, rfl⟩) (by assumption) ?_
            try simp only [Act.put, qGa, qGb, qGc, qSa, qSb, qSc]
            refine tk (i := 13) (v := undef) rfl (by kernel_rfl) (fun _ _ _ h => h) (Or.inr ⟨by rfl, rfl⟩) (by assumption) ?_
            try simp only [Act.put, qGa, qGb, qGc, qSa, qSb, qSc]
            refine tk (i := 14) (v := undef) rfl (by kernel_rfl) (fun _ _ _ h => h) (Or.inr ⟨by rfl, rfl⟩) (by assumption) ?_
            try simp only [Act.put, qGa, qGb, qGc, qSa, qSb, qSc]
            refine tk (i := 15) (v := undef) rfl (by kernel_rfl) (fun _ _ _ h => h) (Or.inr ⟨by rfl, rfl⟩) (by assumption) ?_
            try simp only [Act.put, qGa, qGb, qGc, qSa, qSb, qSc]
            refine tk (i := 16) (v := undef) rfl (by kernel_rfl) (fun _ _ _ h => h) (Or.inr ⟨by rfl, rfl⟩) (by assumption) ?_
            try simp only [Act.put, qGa, qGb, qGc, qSa, qSb, qSc]
            refine tk (i := 17) (v := undef) rfl (by kernel_rfl) (fun _ _ _ h => h) (Or.inr ⟨by rfl, rfl⟩) (by assumption) ?_
            try simp only [Act.put, qGa, qGb, qGc, qSa, qSb, qSc]
            refine tk (i := 18) (v := undef) rfl (by kernel_rfl) (fun _ _ _ h => h) (Or.inr ⟨by rfl, rfl⟩) (by assumption) ?_
            try simp only [Act.put, qGa, qGb, qGc, qSa, qSb, qSc]
            refine tk (i := 19) (v := undef) rfl (by kernel_rfl) (fun _ _ _ h => h) (Or.inr ⟨by rfl, rfl⟩) (by assumption) ?_
            try simp only [Act.put, qGa, qGb, qGc, qSa, qSb, qSc]
            refine tk (i := 20) (v := undef) rfl (by kernel_rfl) (fun _ _ _ h => h) (Or.inr ⟨by rfl, rfl⟩) (by assumption) ?_
            try simp only [Act.put, qGa, qGb, qGc, qSa, qSb, qSc]
            refine tk (i := 21) (v := undef) rfl (by kernel_rfl) (fun _ _ _ h => h) (Or.inr ⟨by rfl, rfl⟩) (by assumption) ?_
            try simp only [Act.put, qGa, qGb, qGc, qSa, qSb, qSc]
            refine tk (i := 22) (v := undef) rfl (by kernel_rfl) (fun _ _ _ h => h) (Or.inr ⟨by rfl, rfl⟩) (by assumption) ?_
            try simp only [Act.put, qGa, qGb, qGc, qSa, qSb, qSc]
            refine tk (i := 23) (v := ?va23) rfl (by kernel_rfl) (fun _ _ _ h => h) (Or.inl ⟨by rfl, ?hya23⟩) (by assumption) ?ra23
            case hya23 => (intro w hSw; (try dsimp only at hSw); go_simp; try with_reducible rfl)
            try simp only [Act.put, qGa, qGb, qGc, qSa, qSb, qSc]
            refine wpAnyH_done (by kernel_rfl) ?_ _
            go_wp2_with fail
            go_meet
            exact ⟨true, rfl, Lib.hid (fun _ => HB.out.symm.trans (HBAD.out (fun h => by cases h.1))), Lib.hid (fun h => by cases h), hbel.trans (HBA.mono hsz)⟩
          · by_cases hi0 : 0 < i
            · obtain ⟨m, rfl⟩ : ∃ m, i = m + 1 := ⟨i - 1, by omega⟩
              have hP : Ent4 wr b (off + m * 4) (E es m) := HV.out wr hi0 (Below.refl _ _)
              have hKy := fun w => specKeyOf_any (E es m).o (E es m).s (E es m).a (E es m).d w
              have hkE : keyOf (E es m).o (E es m).s (E es m).a (E es m).d = (E es m).key := rfl
              rw [hkE] at hKy
              have HCC2 : ∀ w', Below wr.heap.size wr w' → Ent4 w' b (off + m * 4) (E es m) := fun w' h => HV.out w' hi0 h
              have hbad := HBAD.out
              have hlo : ∀ h : (E es m).key < ky, (true = true ∧ (0 < m + 1 → (E es (m + 1 - 1)).key < ky)) := fun h => ⟨rfl, fun _ => h⟩
              rw [Nat.add_sub_cancel] at hbad hlo
              clear HBAD HGOOD hkE HV
              generalize hyi : E es m = y at hKy hP HCC2 hbad hlo
              generalize hyk : y.key = kp at hKy hbad hlo
              have HBAD := Lib.hid hbad; have HLO := Lib.hid hlo
              clear hbad hlo
              obtain ⟨p0, p1, p2, p3⟩ := hP
              have HY := Lib.hid HCC2; clear HCC2
              have HYI := Lib.hid hyi; have HYK := Lib.hid hyk; clear hyi hyk
              have i3 : IntKind.i64.wrap (m : Int) = (m : Int) := by rw [IntKind.wrap_i64]; omega
              have i4 : (0 : Int) ≤ (m : Int) := by omega
              have i6 : (m : Int) < n := by omega
              have i7 : (0 : Int) < (m : Int) + 1 := by omega
              have i8 : (0 : Int) ≤ (m : Int) + 1 := by omega
              have i9 : (m : Int) + 1 < n := by omega
              go_region_held3 (fun w' => w'.cell? ⟨b, off + (m + 1) * 4, none⟩ = some (.int .i64 x.o) ∧ w'.cell? ⟨b, off + (m + 1) * 4 + 1, none⟩ = some (.int .i64 x.s) ∧ w'.cell? ⟨b, off + (m + 1) * 4 + 2, none⟩ = some (.int .i64 x.a) ∧ w'.cell? ⟨b, off + (m + 1) * 4 + 3, none⟩ = some (.int .i64 x.d) ∧ w'.cell? ⟨b, off + m * 4, none⟩ = some (.int .i64 y.o) ∧ w'.cell? ⟨b, off + m * 4 + 1, none⟩ = some (.int .i64 y.s) ∧ w'.cell? ⟨b, off + m * 4 + 2, none⟩ = some (.int .i64 y.a) ∧ w'.cell? ⟨b, off + m * 4 + 3, none⟩ = some (.int .i64 y.d))
                (first | exact ⟨(HW.out _ HBC).h0, (HW.out _ HBC).h1, (HW.out _ HBC).h2, (HW.out _ HBC).h3, (HY.out _ HBC).h0, (HY.out _ HBC).h1, (HY.out _ HBC).h2, (HY.out _ HBC).h3⟩ | exact ⟨(HW.out _ HBB).h0, (HW.out _ HBB).h1, (HW.out _ HBB).h2, (HW.out _ HBB).h3, (HY.out _ HBB).h0, (HY.out _ HBB).h1, (HY.out _ HBB).h2, (HY.out _ HBB).h3⟩ | exact ⟨(HW.out _ HBA).h0, (HW.out _ HBA).h1, (HW.out _ HBA).h2, (HW.out _ HBA).h3, (HY.out _ HBA).h0, (HY.out _ HBA).h1, (HY.out _ HBA).h2, (HY.out _ HBA).h3⟩ | exact ⟨c0, c1, c2, c3, p0, p1, p2, p3⟩)
                (first
                  | (go_at_call 35; refine (hS _).mono ?_; rintro e wA ⟨rfl, hbA⟩; have HBA := (Below.refl wr.heap.size wr).drew.trans hbA)
                  | (go_at_call_of 23 (Value.agg #[Value.int IntKind.i64 x.o, Value.int IntKind.i64 x.s, Value.int IntKind.i64 x.a, Value.int IntKind.i64 x.d]); refine (hK _).mono ?_; rintro e wB ⟨rfl, hbK⟩; have HBB := HBA.trans (hbK.mono HBA.size))
                  | (go_at_call_of 23 (Value.agg #[Value.int IntKind.i64 y.o, Value.int IntKind.i64 y.s, Value.int IntKind.i64 y.a, Value.int IntKind.i64 y.d]); refine (hKy _).mono ?_; rintro e wC ⟨rfl, hbC⟩; have HBC := HBB.trans (hbC.mono HBB.size)))
              go_wp2_with fail
              go_meet
              refine ⟨_, rfl, ?_, ?_, hbel.trans (HBC.mono hsz)⟩
              · refine Lib.hid (fun h => HB.out.symm.trans (HBAD.out (fun hg => ?_)))
                have h1 := hg.2.1 hi0
                have h2 : ky ≤ kp := by simpa using h
                omega
              · refine Lib.hid (fun h => ⟨by first | rfl | trivial, fun _ => ?_⟩)
                have h2 : kp < ky := by simpa using h
                rw [Nat.add_sub_cancel, HYI.out, HYK.out]
                exact h2
            ·
              refine wp_region_held_drew (S := (fun w' => w'.cell? ⟨b, off + i * 4, none⟩ = some (.int .i64 x.o) ∧ w'.cell? ⟨b, off + i * 4 + 1, none⟩ = some (.int .i64 x.s) ∧ w'.cell? ⟨b, off + i * 4 + 2, none⟩ = some (.int .i64 x.a) ∧ w'.cell? ⟨b, off + i * 4 + 3, none⟩ = some (.int .i64 x.d))) (by kernel_rfl) ⟨c0, c1, c2, c3⟩ (fun hHeld => ?_)
              refine tk (i := 0) (v := ?vb0) rfl (by kernel_rfl) (fun _ _ _ h => h) (Or.inl ⟨by rfl, ?hyb0⟩) (by assumption) ?rb0
              case hyb0 => (intro w hSw; (try dsimp only at hSw); go_simp; try with_reducible rfl)
              try simp only [Act.put, qGa, qGb, qGc, qSa, qSb, qSc]
              refine tk (i := 1) (v := ?vb1) rfl (by kernel_rfl) (fun _ _ _ h => h) (Or.inl ⟨by rfl, ?hyb1⟩) (by assumption) ?rb1
              case hyb1 => (intro w hSw; (try dsimp only at hSw); go_simp; try with_reducible rfl)
              try simp only [Act.put, qGa, qGb, qGc, qSa, qSb, qSc]
              refine tk (i := 2) (v := ?vb2) rfl (by kernel_rfl) (fun _ _ _ h => h) (Or.inl ⟨by rfl, ?hyb2⟩) (by assumption) ?rb2
              case hyb2 => (intro w hSw; (try dsimp only at hSw); go_simp; try with_reducible rfl)
              try simp only [Act.put, qGa, qGb, qGc, qSa, qSb, qSc]
              refine tk (i := 3) (v := ?vb3) rfl (by kernel_rfl) (fun _ _ _ h => h) (Or.inl ⟨by rfl, ?hyb3⟩) (by assumption) ?rb3
              case hyb3 => (intro w hSw; (try dsimp only at hSw); go_simp; try with_reducible rfl)
              try simp only [Act.put, qGa, qGb, qGc, qSa, qSb, qSc]
              refine wpAnyH_ready (rs := [4]) (by kernel_rfl) (by simp) ?_
              refine AllReadyH.cons rfl (fun Kb hKb => ?_) AllReadyH.nil
              go_simp
              refine (hS _).mono ?_
              rintro e wA ⟨rfl, hbA⟩
              have HBA := (Below.refl wr.heap.size wr).drew.trans hbA
              go_wp2_with fail
              refine hKb.out _ _ ⟨(HW.out _ HBA).h0, (HW.out _ HBA).h1, (HW.out _ HBA).h2, (HW.out _ HBA).h3⟩ (fun hHeld => ?_)
              clear hKb Kb
              try simp only [Act.put, qGa, qGb, qGc, qSa, qSb, qSc]
              refine tk (i := 5) (v := ?vb5) rfl (by kernel_rfl) (fun _ _ _ h => h) (Or.inl ⟨by rfl, ?hyb5⟩) (by assumption) ?rb5
              case hyb5 => (intro w hSw; (try dsimp only at hSw); go_simp; try with_reducible rfl)
              try simp only [Act.put, qGa, qGb, qGc, qSa, qSb, qSc]
              refine tk (i := 6) (v := ?vb6) rfl (by kernel_rfl) (fun _ _ _ h => h) (Or.inl ⟨by rfl, ?hyb6⟩) (by assumption) ?rb6
              case hyb6 => (intro w hSw; (try dsimp only at hSw); go_simp; try with_reducible rfl)
              try simp only [Act.put, qGa, qGb, qGc, qSa, qSb, qSc]
              refine tk (i := 7) (v := ?vb7) rfl (by kernel_rfl) (fun _ _ _ h => h) (Or.inl ⟨by rfl, ?hyb7⟩) (by assumption) ?rb7
              case hyb7 => (intro w hSw; (try dsimp only at hSw); go_simp; try with_reducible rfl)
              try simp only [Act.put, qGa, qGb, qGc, qSa, qSb, qSc]
              refine tk (i := 8) (v := ?vb8) rfl (by kernel_rfl) (fun _ _ _ h => h) (Or.inl ⟨by rfl, ?hyb8⟩) (by assumption) ?rb8
              case hyb8 => (intro w hSw; (try dsimp only at hSw); go_simp; try with_reducible rfl)
              try simp only [Act.put, qGa, qGb, qGc, qSa, qSb, qSc]
              refine tk (i := 9) (v := ?vb9) rfl (by kernel_rfl) (fun _ _ _ h => h) (Or.inl ⟨by rfl, ?hyb9⟩) (by assumption) ?rb9
              case hyb9 => (intro w hSw; (try dsimp only at hSw); go_simp; try with_reducible rfl)
              try simp only [Act.put, qGa, qGb, qGc, qSa, qSb, qSc]
              refine tk (i := 10) (v := undef) rfl (by kernel_rfl) (fun _ _ _ h => h) (Or.inr ⟨by rfl, rfl⟩) (by assumption) ?_
              try simp only [Act.put, qGa, qGb, qGc, qSa, qSb, qSc]
              refine tk (i := 11) (v := undef) rfl (by kernel_rfl) (fun _ _ _ h => h) (Or.inr ⟨by rfl, rfl⟩) (by assumption) ?_
              try simp only [Act.put, qGa, qGb, qGc, qSa, qSb, qSc]
              refine tk (i := 12) (v := undef) rfl (by kernel_rfl) (fun _ _ _ h => h) (Or.inr ⟨by rfl, rfl⟩) (by assumption) ?_
              try simp only [Act.put, qGa, qGb, qGc, qSa, qSb, qSc]
              refine tk (i := 13) (v := undef) rfl (by kernel_rfl) (fun _ _ _ h => h) (Or.inr ⟨by rfl, rfl⟩) (by assumption) ?_
              try simp only [Act.put, qGa, qGb, qGc, qSa, qSb, qSc]
              refine tk (i := 14) (v := undef) rfl (by kernel_rfl) (fun _ _ _ h => h) (Or.inr ⟨by rfl, rfl⟩) (by assumption) ?_
              try simp only [Act.put, qGa, qGb, qGc, qSa, qSb, qSc]
              refine tk (i := 15) (v := undef) rfl (by kernel_rfl) (fun _ _ _ h => h) (Or.inr ⟨by rfl, rfl⟩) (by assumption) ?_
              try simp only [Act.put, qGa, qGb, qGc, qSa, qSb, qSc]
              refine tk (i := 16) (v := undef) rfl (by kernel_rfl) (fun _ _ _ h => h) (Or.inr ⟨by rfl, rfl⟩) (by assumption) ?_
              try simp only [Act.put, qGa, qGb, qGc, qSa, qSb, qSc]
              refine tk (i := 17) (v := undef) rfl (by kernel_rfl) (fun _ _ _ h => h) (Or.inr ⟨by rfl, rfl⟩) (by assumption) ?_
              try simp only [Act.put, qGa, qGb, qGc, qSa, qSb, qSc]
              refine tk (i := 18) (v := undef) rfl (by kernel_rfl) (fun _ _ _ h => h) (Or.inr ⟨by rfl, rfl⟩) (by assumption) ?_
              try simp only [Act.put, qGa, qGb, qGc, qSa, qSb, qSc]
              refine tk (i := 19) (v := undef) rfl (by kernel_rfl) (fun _ _ _ h => h) (Or.inr ⟨by rfl, rfl⟩) (by assumption) ?_
              try simp only [Act.put, qGa, qGb, qGc, qSa, qSb, qSc]
              refine tk (i := 20) (v := undef) rfl (by kernel_rfl) (fun _ _ _ h => h) (Or.inr ⟨by rfl, rfl⟩) (by assumption) ?_
              try simp only [Act.put, qGa, qGb, qGc, qSa, qSb, qSc]
              refine tk (i := 21) (v := undef) rfl (by kernel_rfl) (fun _ _ _ h => h) (Or.inr ⟨by rfl, rfl⟩) (by assumption) ?_
              try simp only [Act.put, qGa, qGb, qGc, qSa, qSb, qSc]
              refine tk (i := 22) (v := ?vb22) rfl (by kernel_rfl) (fun _ _ _ h => h) (Or.inl ⟨by rfl, ?hyb22⟩) (by assumption) ?rb22
              case hyb22 => (intro w hSw; (try dsimp only at hSw); go_simp; try with_reducible rfl)
              try simp only [Act.put, qGa, qGb, qGc, qSa, qSb, qSc]
              refine tk (i := 23) (v := ?vb23) rfl (by kernel_rfl) (fun _ _ _ h => h) (Or.inl ⟨by rfl, ?hyb23⟩) (by assumption) ?rb23
              case hyb23 => (intro w hSw; (try dsimp only at hSw); go_simp; try with_reducible rfl)
              try simp only [Act.put, qGa, qGb, qGc, qSa, qSb, qSc]
              refine wpAnyH_done (by kernel_rfl) ?_ _
              go_wp2_with fail
              go_meet
              exact ⟨false, rfl, Lib.hid (fun h => by cases h), Lib.hid (fun _ => ⟨by first | rfl | trivial, fun h => absurd h hi0⟩), hbel.trans (HBA.mono hsz)⟩
        case rest =>
          obtain ⟨q, rfl, hq1, hq2, hbL⟩ := hcut
          clear hS hK HW HV c0 c1 c2 c3
          have HAL : ∀ w', Below w.heap.size w w' → ∀ j, j < n → Ent4 w' b (off + j * 4) (E es j) := fun w' h j hj => (hc0 j hj).below h hbB
          have HAL' := Lib.hid HAL; clear HAL hc0
          rcases q with _ | _
          · have hlo := hq2.out rfl
            clear hq1 hq2
            have HLO := Lib.hid hlo; clear hlo
            have i0 : (0 : Int) ≤ i := by omega
            go_wp2
            go_loopw [4] (fun sk wr => ∃ k : Nat, k ≤ i ∧ sk = .int .i64 k ∧ Hid (∀ j, j < k → ¬ ((E es j).o = x.o ∧ (E es j).d = x.d)) ∧ Below w.heap.size w wr) (fun sk _ => i - (intOf sk).toNat)
            case atStart => exact ⟨0, Nat.zero_le _, rfl, Lib.hid (fun j hj => absurd hj (by omega)), hbL⟩
            case round =>
              obtain ⟨k, hk, rfl, hno, hbq⟩ := hrel
              by_cases hki : k < i
              · have q1 := HAL'.out wr hbq k (by omega)
                have q2 := HAL'.out wr hbq i hlt
                rw [HXI.out] at q2
                obtain ⟨a0, -, -, a3⟩ := q1
                obtain ⟨b0, -, -, b3⟩ := q2
                have htwin : (E es k).o = x.o ∧ (E es k).d = x.d → bb = false := fun h => by
                  rw [← HB.out]; exact book_bad (k := i) (by have := HX.out; omega) (fun hg => hg.2.2 k hki (by rw [HXI.out]; exact h))
                have hstep : ¬ ((E es k).o = x.o ∧ (E es k).d = x.d) → ∀ j, j < k + 1 → ¬ ((E es j).o = x.o ∧ (E es j).d = x.d) := fun h j hj => by
                  by_cases e : j = k
                  · subst e; exact h
                  · exact hno.out j (by omega)
                generalize (E es k).o = yo at a0 htwin hstep
                generalize (E es k).d = yd at a3 htwin hstep
                have HT := Lib.hid htwin; have HST := Lib.hid hstep; clear htwin hstep
                have k1 : (0 : Int) ≤ k := by omega
                have k2 : (k : Int) < n := by omega
                have k3 : (k : Int) < i := by omega
                by_cases ho : yo = x.o
                · have ho' : (yo == x.o) = true := by simpa using ho
                  by_cases hd : yd = x.d
                  · have hd' : (yd == x.d) = true := by simpa using hd
                    have hbb := Lib.hid (HT.out ⟨ho, hd⟩)
                    clear ho hd HLO HBAD HGOOD HT HST
                    go_wp2
                    go_quiet (fail)
                    go_wp2
                    go_ret
                    exact ⟨ret_bool hbb.out.symm, below_drewN hbq _⟩
                  · have hd' : (yd == x.d) = false := by simpa using hd
                    have hs := Lib.hid (HST.out (fun h => hd h.2))
                    clear ho hd HLO HBAD HGOOD HT HST
                    go_wp2
                    go_quiet (fail)
                    go_wp2
                    go_roundw
                    case rel => exact ⟨k + 1, by omega, by go_num, hs, below_drewN hbq _⟩
                    case measure => simp [intOf]; omega
                · have ho' : (yo == x.o) = false := by simpa using ho
                  have hs := Lib.hid (HST.out (fun h => ho h.1))
                  clear ho HLO HBAD HGOOD HT HST
                  go_wp2
                  go_quiet (fail)
                  go_wp2
                  go_roundw
                  case rel => exact ⟨k + 1, by omega, by go_num, hs, below_drewN hbq _⟩
                  case measure => simp [intOf]; omega
              · have ek : k = i := by omega
                have hgo := Lib.hid (HGOOD.out ⟨HLO.out.1, HLO.out.2, fun j hj => hno.out j (by omega)⟩)
                subst ek
                clear HLO HBAD HGOOD
                go_wp2
                go_roundw
                case rel => exact ⟨k + 1, by omega, by go_num, hgo, hbq⟩
                case measure => simp [intOf]; omega
          · have hbb := Lib.hid (hq1.out rfl)
            clear hq1 hq2
            go_wp2
            go_ret
            exact ⟨ret_bool hbb.out.symm, hbL⟩
      · have ei : i = n := by omega
        subst ei
        have hgo : bookOk es = true := book_good (by rw [HX.out]; exact hr.out)
        rw [HB.out] at hgo
        go_wp2
        go_ret
        exact ⟨ret_bool hgo.symm, hbel⟩
end Go.Proofs.YtoniahfdjhhalaaGreat
