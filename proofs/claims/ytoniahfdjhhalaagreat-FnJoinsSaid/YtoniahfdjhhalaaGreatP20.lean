/- Texts of this claim, put together. -/
import Derived.Test.YtoniahfdjhhalaaGreatP1
import Derived.Test.YtoniahfdjhhalaaGreatP8
import Derived.Test.YtoniahfdjhhalaaGreatP14
import Derived.Test.YtoniahfdjhhalaaGreatP15
import Derived.Test.YtoniahfdjhhalaaGreatP17
import Derived.Test.YtoniahfdjhhalaaGreatP19

namespace Go.Proofs.YtoniahfdjhhalaaGreat
open Go.RowKit
theorem amount_rangeD {es : List Ent} (h : ∀ e ∈ es, e.ok = true) (o s : Int) : 0 ≤ amount es o s ∧ amount es o s ≤ 1000000 := by
  induction es with
  | nil => simp [amount]
  | cons e r ih =>
    rw [amount]
    split
    · have := Ent.ok_all (h e (List.mem_cons_self ..)); omega
    · exact ih (fun x hx => h x (List.mem_cons_of_mem _ hx))
def deedEnt (es : List Ent) (k nd t m : Int) : Ent := ⟨nd, slotOf k nd t, amount es nd (slotOf k nd t) + m, mx es nd + 1⟩
def doneR (es : List Ent) (k nd t m : Int) : List Ent × Int :=
  if ¬ k = 1 ∧ held es nd < m then (es, 1) else if (deedEnt es k nd t m).ok = true then (putE es (deedEnt es k nd t m), 0) else (es, 2)
theorem done_short {es : List Ent} {k nd t m : Int} (h1 : ¬ k = 1) (h2 : held es nd < m) : doneR es k nd t m = (es, 1) := by rw [doneR, if_pos ⟨h1, h2⟩]
theorem done_ok {es : List Ent} {k nd t m : Int} (h1 : k = 1 ∨ ¬ held es nd < m) (h2 : (deedEnt es k nd t m).ok = true) : doneR es k nd t m = (putE es (deedEnt es k nd t m), 0) := by
  rw [doneR, if_neg (fun h => h1.elim h.1 (fun hh => hh h.2)), if_pos h2]
theorem done_limit {es : List Ent} {k nd t m : Int} (h1 : k = 1 ∨ ¬ held es nd < m) (h2 : (deedEnt es k nd t m).ok = false) : doneR es k nd t m = (es, 2) := by
  rw [doneR, if_neg (fun h => h1.elim h.1 (fun hh => hh h.2)), if_neg (by rw [h2]; simp)]
def NewEsN (r : List Ent × Int) (w : World) (e : Ending) (w' : World) : Prop := ∃ v, e = .returned (.tuple #[v, .int .i64 r.2]) ∧ OwnE w.heap.size w' v r.1 ∧ Below w.heap.size w w'
set_option linter.unusedSimpArgs false in
set_option maxHeartbeats 4000000 in
set_option maxRecDepth 100000 in
theorem l8Done_any (B : Nat) (ao : Option Addr) (n cap : Nat) (es : List Ent) (k nd t m : Int) (w : World) (hx : Ents B w ao n cap es) (hz : ao = none → cap = 0) (hB : B ≤ w.heap.size) (hok : bookOk es = true) (hd : deedOk k nd t m = true) :
    Calls Tryz.prog 77 #[.slice ao n cap, .agg #[.int .i64 k, .int .i64 nd, .int .i64 t, .int .i64 m]] w (NewEsN (doneR es k nd t m) w) := by
  have hnm : (0 ≤ nd ∧ nd ≤ 3) ∧ 1 ≤ m ∧ m ≤ 1000000 := by
    simp only [deedOk, inB, Bool.and_eq_true, decide_eq_true_eq] at hd
    omega
  have hlen := hx.hlen
  have hn20 : n ≤ 20 := by have := book_len hok; omega
  have hall : ∀ e ∈ es, e.ok = true := fun e he => by
    obtain ⟨i, hi, rfl⟩ := List.mem_iff_getElem.1 he
    have := (book_right hok i hi).1
    rwa [E_get hi] at this
  have hamt := amount_rangeD hall nd (slotOf k nd t)
  have hmx := mx_range hall nd
  obtain ⟨j, hj⟩ : ∃ j : Nat, nd = j := ⟨nd.toNat, by omega⟩
  subst hj
  have hj4 : j < 4 := by omega
  have hvec0 := vec_get0 es j hj4
  have hshort : ¬ k = 1 → held es j < m → doneR es k j t m = (es, 1) := done_short
  have hgood : (k = 1 ∨ ¬ held es j < m) → (deedEnt es k j t m).ok = true → doneR es k j t m = (putE es (deedEnt es k j t m), 0) := done_ok
  have hlim : (k = 1 ∨ ¬ held es j < m) → (deedEnt es k j t m).ok = false → doneR es k j t m = (es, 2) := done_limit
  have hde : deedEnt es k j t m = ⟨j, slotOf k j t, amount es j (slotOf k j t) + m, mx es j + 1⟩ := rfl
  have hsl := fun w => l8Slot_any k j t m w
  have hht := fun w' (hb : Below w.heap.size w w') => l6Held_any B ao n cap es j w' (hx.below hb hB (Nat.le_refl B)) (by have := hb.size; omega) hok
  have hat := fun w' (hb : Below w.heap.size w w') => l4Amount_any B ao n cap es j (slotOf k j t) w' (hx.below hb hB (Nat.le_refl B))
  have hvt := fun w' (hb : Below w.heap.size w w') => l5Vec_any B ao n cap es w' (hx.below hb hB (Nat.le_refl B)) (by have := hb.size; omega) hok
  have hct := fun w' (hb : Below w.heap.size w w') => l4Copy_any B ao n cap es w' (hx.below hb hB (Nat.le_refl B)) hz (by have := hb.size; omega) (by omega)
  generalize doneR es k j t m = r at hshort hgood hlim
  generalize deedEnt es k j t m = x at hgood hlim hde
  generalize slotOf k j t = sl at hamt hde hsl hat
  generalize amount es j sl = am at hamt hde hat
  rw [← hvec0] at hde hmx
  generalize held es j = hh at hshort hgood hlim hht
  generalize hvs : vec es = vs at hvt hmx hde
  have hvl : vs.length = 4 := by rw [← hvs]; rfl
  have HVW : Hid (AllI64 vs) := Lib.hid (by rw [← hvs]; exact vec_i64 hall)
  obtain ⟨md, hmd⟩ : ∃ md, vs.getD j 0 = md := ⟨_, rfl⟩
  rw [hmd] at hmx hde
  have HSH := Lib.hid hshort; have HGO := Lib.hid hgood; have HLI := Lib.hid hlim; have HDE := Lib.hid hde
  have HHT := Lib.hid hht; have HAT := Lib.hid hat; have HVT := Lib.hid hvt; have HCT := Lib.hid hct
  clear hshort hgood hlim hde hht hat hvt hct hvs hvec0 hd hall
  obtain ⟨wb, hwb⟩ : ∃ wb, wb = w.alloc (.cells #[.int .i64 k, .int .i64 j, .int .i64 t, .int .i64 m] 60) := ⟨_, rfl⟩
  have hblk : Blk wb w.heap.size 60 #[.int .i64 k, .int .i64 j, .int .i64 t, .int .i64 m] := by rw [hwb]; exact Blk.new _ _ _
  have hb0 : Below w.heap.size w wb := by rw [hwb]; exact (Below.refl _ _).alloc (Nat.le_refl _) _
  have hblt := hblk.lt
  have hDD : ∀ w', Below wb.heap.size wb w' → Blk w' w.heap.size 60 #[.int .i64 k, .int .i64 j, .int .i64 t, .int .i64 m] := fun w' h => hblk.below h hblt
  have HD := Lib.hid hDD; clear hDD
  have hs0 := hb0.size
  have d0 := hblk.cell 0; have d1 := hblk.cell 1; have d2 := hblk.cell 2; have d3 := hblk.cell 3
  go_enter Tryz.func77, Tryz.ntmps77
  go_upto_region 1 with fail
  rw [← hwb]
  clear hwb
  go_cut [19] (fun sq wx => ∃ q : Bool, sq = .bool q ∧ Hid (q = true → r = (es, 1)) ∧ Hid (q = false → k = 1 ∨ ¬ hh < m) ∧ Below wb.heap.size wb wx)
  case first =>
    by_cases k1 : k = 1
    · have k1' : (k != 1) = false := by simpa using k1
      have K1 := Lib.hid k1; clear k1
      go_wp2_with fail
      go_quiet (fail)
      go_wp2_with fail
      go_meet
      exact ⟨false, rfl, Lib.hid (fun h => by cases h), Lib.hid (fun _ => .inl K1.out), below_drewN (Below.refl _ _) _⟩
    · have k1' : (k != 1) = true := by simpa using k1
      go_wp2_with fail
      go_region_held3 (fun w' => w'.cell? ⟨w.heap.size, 0, none⟩ = some (.int .i64 k) ∧ w'.cell? ⟨w.heap.size, 1, none⟩ = some (.int .i64 j) ∧ w'.cell? ⟨w.heap.size, 2, none⟩ = some (.int .i64 t) ∧ w'.cell? ⟨w.heap.size, 3, none⟩ = some (.int .i64 m))
        (first | exact ⟨(HD.out _ HBA).cell 0, (HD.out _ HBA).cell 1, (HD.out _ HBA).cell 2, (HD.out _ HBA).cell 3⟩ | exact ⟨d0, d1, d2, d3⟩)
        (first
          | (go_at_call 89; refine (HHT.out _ (hb0.trans ((Below.refl wb.heap.size wb).drew.mono hs0))).mono ?_; rintro e wA ⟨rfl, hbA⟩; have HBA := (Below.refl wb.heap.size wb).drew.trans hbA))
      go_wp2_with fail
      go_meet
      refine ⟨_, rfl, ?_, ?_, HBA⟩
      · exact Lib.hid (fun h => HSH.out k1 (by simpa using h))
      · exact Lib.hid (fun h => .inr (by simpa using h))
  case rest =>
    obtain ⟨q, rfl, hq1, hq2, hbx⟩ := hcut
    have hB1 := hb0.trans (hbx.mono hs0)
    rcases q with _ | _
    · have hq := hq2.out rfl
      have HQ := Lib.hid hq; clear hq hq1 hq2
      have hk1 := HD.out _ hbx
      have p0 := hk1.cell 0; have p1 := hk1.cell 1; have p2 := hk1.cell 2; have p3 := hk1.cell 3
      clear d0 d1 d2 d3
      go_wp2_with fail
      refine (hsl _).mono ?_
      rintro e w2 ⟨rfl, hb2⟩
      have hbx2 := hbx.trans (hb2.mono hbx.size)
      have hB2 := hB1.trans (hb2.mono hB1.size)
      have hk2 := HD.out _ hbx2
      clear p0 p1 p2 p3
      have p0 := hk2.cell 0; have p1 := hk2.cell 1; have p2 := hk2.cell 2; have p3 := hk2.cell 3
      have hs2 := hbx2.size
      have HD2 : Hid (∀ w', Below w2.heap.size w2 w' → Blk w' w.heap.size 60 #[.int .i64 k, .int .i64 j, .int .i64 t, .int .i64 m]) := Lib.hid (fun w' h => HD.out w' (hbx2.trans (h.mono hs2)))
      have HA2 : Hid (∀ w', Below w2.heap.size w2 w' → Below w.heap.size w w') := Lib.hid (fun w' h => hB2.trans (h.mono hB2.size))
      have j0 : (0 : Int) ≤ j := by omega
      have j1 : (j : Int) < 4 := by omega
      have w1 : IntKind.i64.wrap (am + m) = am + m := by rw [IntKind.wrap_i64]; omega
      have w2' : IntKind.i64.wrap (md + 1) = md + 1 := by rw [IntKind.wrap_i64]; omega
      have hvw : AllI64 vs := HVW.out
      go_upto_region 4 with fail
      go_cut [7] (fun s7 wx => ∃ g : Nat, s7 = .pointer (some ⟨g, 0, none⟩) ∧ Blk wx g 47 #[.int .i64 j, .int .i64 sl, .int .i64 (am + m), .int .i64 (md + 1)] ∧ Below w2.heap.size w2 wx)
      case first =>
        refine wp_region_held_drew (S := fun w' => w'.cell? ⟨w.heap.size, 0, none⟩ = some (.int .i64 k) ∧ w'.cell? ⟨w.heap.size, 1, none⟩ = some (.int .i64 j) ∧ w'.cell? ⟨w.heap.size, 2, none⟩ = some (.int .i64 t) ∧ w'.cell? ⟨w.heap.size, 3, none⟩ = some (.int .i64 m)) (by kernel_rfl) ⟨p0, p1, p2, p3⟩ (fun hHeld => ?_)
        obtain ⟨W0, hW0⟩ : ∃ x, x = w2.drew := ⟨_, rfl⟩
        have hbW : Below w2.heap.size w2 W0 := by rw [hW0]; exact (Below.refl _ _).drew
        rw [← hW0] at hHeld ⊢
        clear hW0
        refine tk (i := 0) (v := ?vi0) rfl (by kernel_rfl) (fun _ _ _ h => h) (Or.inl ⟨by rfl, ?hyi0⟩) (by assumption) ?ri0
        case hyi0 => (intro w hSw; (try dsimp only at hSw); go_simp; try with_reducible rfl)
        try simp only [Act.put, qGa, qGb, qGc, qSa, qSb, qSc]
        refine tk (i := 1) (v := ?vi1) rfl (by kernel_rfl) (fun _ _ _ h => h) (Or.inl ⟨by rfl, ?hyi1⟩) (by assumption) ?ri1
        case hyi1 => (intro w hSw; (try dsimp only at hSw); go_simp; try with_reducible rfl)
        try simp only [Act.put, qGa, qGb, qGc, qSa, qSb, qSc]
        refine tk (i := 2) (v := ?vi2) rfl (by kernel_rfl) (fun _ _ _ h => h) (Or.inl ⟨by rfl, ?hyi2⟩) (by assumption) ?ri2
        case hyi2 => (intro w hSw; (try dsimp only at hSw); go_simp; try with_reducible rfl)
        try simp only [Act.put, qGa, qGb, qGc, qSa, qSb, qSc]
        refine tk (i := 3) (v := ?vi3) rfl (by kernel_rfl) (fun _ _ _ h => h) (Or.inl ⟨by rfl, ?hyi3⟩) (by assumption) ?ri3
        case hyi3 => (intro w hSw; (try dsimp only at hSw); go_simp; try with_reducible rfl)
        try simp only [Act.put, qGa, qGb, qGc, qSa, qSb, qSc]
        refine tk (i := 4) (v := ?vi4) rfl (by kernel_rfl) (fun _ _ _ h => h) (Or.inl ⟨by rfl, ?hyi4⟩) (by assumption) ?ri4
        case hyi4 => (intro w hSw; (try dsimp only at hSw); go_simp; try with_reducible rfl)
        try simp only [Act.put, qGa, qGb, qGc, qSa, qSb, qSc]
        refine tk (i := 5) (v := ?vi5) rfl (by kernel_rfl) (fun _ _ _ h => h) (Or.inl ⟨by rfl, ?hyi5⟩) (by assumption) ?ri5
        case hyi5 => (intro w hSw; (try dsimp only at hSw); go_simp; try with_reducible rfl)
        try simp only [Act.put, qGa, qGb, qGc, qSa, qSb, qSc]
        refine tk (i := 6) (v := ?vi6) rfl (by kernel_rfl) (fun _ _ _ h => h) (Or.inl ⟨by rfl, ?hyi6⟩) (by assumption) ?ri6
        case hyi6 => (intro w hSw; (try dsimp only at hSw); go_simp; try with_reducible rfl)
        try simp only [Act.put, qGa, qGb, qGc, qSa, qSb, qSc]
        refine tk (i := 8) (v := ?vi8) rfl (by kernel_rfl) (fun _ _ _ h => h) (Or.inl ⟨by rfl, ?hyi8⟩) (by assumption) ?ri8
        case hyi8 => (intro w hSw; (try dsimp only at hSw); go_simp; try with_reducible rfl)
        try simp only [Act.put, qGa, qGb, qGc, qSa, qSb, qSc]
        refine tk (i := 9) (v := ?vi9) rfl (by kernel_rfl) (fun _ _ _ h => h) (Or.inl ⟨by rfl, ?hyi9⟩) (by assumption) ?ri9
        case hyi9 => (intro w hSw; (try dsimp only at hSw); go_simp; try with_reducible rfl)
        try simp only [Act.put, qGa, qGb, qGc, qSa, qSb, qSc]
        refine tk (i := 11) (v := ?vi11) rfl (by kernel_rfl) (fun _ _ _ h => h) (Or.inl ⟨by rfl, ?hyi11⟩) (by assumption) ?ri11
        case hyi11 => (intro w hSw; (try dsimp only at hSw); go_simp; try with_reducible rfl)
        try simp only [Act.put, qGa, qGb, qGc, qSa, qSb, qSc]
        refine tk (i := 13) (v := ?vi13) rfl (by kernel_rfl) (fun _ _ _ h => h) (Or.inl ⟨by rfl, ?hyi13⟩) (by assumption) ?ri13
        case hyi13 => (intro w hSw; (try dsimp only at hSw); go_simp; try with_reducible rfl)
        try simp only [Act.put, qGa, qGb, qGc, qSa, qSb, qSc]
        refine tk (i := 14) (v := ?vi14) rfl (by kernel_rfl) (fun _ _ _ h => h) (Or.inl ⟨by rfl, ?hyi14⟩) (by assumption) ?ri14
        case hyi14 => (intro w hSw; (try dsimp only at hSw); go_simp; try with_reducible rfl)
        try simp only [Act.put, qGa, qGb, qGc, qSa, qSb, qSc]
        refine wpAnyH_ready (rs := [7, 19]) (by kernel_rfl) (by simp) ?_
        refine AllReadyH.cons rfl (fun K2 hK2 => ?_) (AllReadyH.cons rfl (fun K3 hK3 => ?_) AllReadyH.nil)
        · go_simp
          refine (HAT.out _ (HA2.out _ hbW)).mono ?_
          rintro e wC4 ⟨rfl, hdr⟩
          have hb4 := hbW.trans (hdr.below W0.heap.size |>.mono hbW.size)
          go_wp2_with fail
          refine hK2.out _ _ ⟨(HD2.out _ hb4).cell 0, (HD2.out _ hb4).cell 1, (HD2.out _ hb4).cell 2, (HD2.out _ hb4).cell 3⟩ (fun hHeld => ?_)
          clear hK2 K2 hdr
          try simp only [Act.put, qGa, qGb, qGc, qSa, qSb, qSc]
          refine tk (i := 10) (v := ?va410) rfl (by kernel_rfl) (fun _ _ _ h => h) (Or.inl ⟨by rfl, ?hya410⟩) (by assumption) ?ra410
          case hya410 => (intro w hSw; (try dsimp only at hSw); go_simp; try with_reducible rfl)
          try simp only [Act.put, qGa, qGb, qGc, qSa, qSb, qSc]
          refine wpAnyH_ready (rs := [12, 19]) (by kernel_rfl) (by simp) ?_
          refine AllReadyH.cons rfl (fun K6 hK6 => ?_) (AllReadyH.cons rfl (fun K7 hK7 => ?_) AllReadyH.nil)
          · go_simp
            refine (HVT.out _ (HA2.out _ hb4)).mono ?_
            rintro e wV8 ⟨vV, rfl, hoV, hbV⟩
            have hb8 := hb4.trans (hbV.mono hb4.size)
            obtain ⟨aV, cV, rfl, hiV⟩ := hoV.ints hvw
            rw [hvl] at hiV ⊢
            obtain ⟨bV, oV, rfl, hltV, hcV⟩ := hiV.at j hj4
            have q8 : wV8.cell? ⟨bV, oV + j, none⟩ = some (.int .i64 md) := by rw [hcV j hj4, hmd]
            clear hcV hiV hoV hbV
            go_wp2_with fail
            refine hK6.out _ _ ⟨(HD2.out _ hb8).cell 0, (HD2.out _ hb8).cell 1, (HD2.out _ hb8).cell 2, (HD2.out _ hb8).cell 3⟩ (fun hHeld => ?_)
            clear hK6 K6
            try simp only [Act.put, qGa, qGb, qGc, qSa, qSb, qSc]
            refine tk (i := 15) (v := ?vb815) rfl (by kernel_rfl) (fun _ _ _ h => h) (Or.inl ⟨by rfl, ?hyb815⟩) (by assumption) ?rb815
            case hyb815 => (intro w hSw; (try dsimp only at hSw); go_simp; try with_reducible rfl)
            try simp only [Act.put, qGa, qGb, qGc, qSa, qSb, qSc]
            refine wpAnyH_ready (rs := [16, 19]) (by kernel_rfl) (by simp) ?_
            refine AllReadyH.cons rfl (fun K10 hK10 => ?_) (AllReadyH.cons rfl (fun K11 hK11 => ?_) AllReadyH.nil)
            · go_simp
              refine hK10.out _ _ ⟨(HD2.out _ hb8).cell 0, (HD2.out _ hb8).cell 1, (HD2.out _ hb8).cell 2, (HD2.out _ hb8).cell 3⟩ (fun hHeld => ?_)
              clear hK10 K10
              try simp only [Act.put, qGa, qGb, qGc, qSa, qSb, qSc]
              refine tk (i := 17) (v := ?vc1217) rfl (by kernel_rfl) (fun _ _ _ h => h) (Or.inl ⟨by rfl, ?hyc1217⟩) (by assumption) ?rc1217
              case hyc1217 => (intro w hSw; (try dsimp only at hSw); go_simp; try with_reducible rfl)
              try simp only [Act.put, qGa, qGb, qGc, qSa, qSb, qSc]
              refine tk (i := 18) (v := ?vc1218) rfl (by kernel_rfl) (fun _ _ _ h => h) (Or.inl ⟨by rfl, ?hyc1218⟩) (by assumption) ?rc1218
              case hyc1218 => (intro w hSw; (try dsimp only at hSw); go_simp; try with_reducible rfl)
              try simp only [Act.put, qGa, qGb, qGc, qSa, qSb, qSc]
              refine wpAnyH_ready (rs := [19]) (by kernel_rfl) (by simp) ?_
              refine AllReadyH.cons rfl (fun K14 hK14 => ?_) AllReadyH.nil
              obtain ⟨wA15, hW⟩ : ∃ x, x = wV8.alloc (.cells #[.int .i64 0, .int .i64 0, .int .i64 0, .int .i64 0] 47) := ⟨_, rfl⟩
              obtain ⟨gA15, hg⟩ : ∃ x, x = wV8.heap.size := ⟨_, rfl⟩
              have hA15 : Blk wA15 gA15 47 #[.int .i64 0, .int .i64 0, .int .i64 0, .int .i64 0] := by rw [hW, hg]; exact Blk.new _ _ _
              have hb15 : Below w2.heap.size w2 wA15 := by rw [hW]; exact hb8.alloc hb8.size _
              have hl15 : w2.heap.size ≤ gA15 := by rw [hg]; exact hb8.size
              have q15 : wA15.cell? ⟨bV, oV + j, none⟩ = some (.int .i64 md) := by rw [hW, World.cell?_alloc_some _ _ _ (by rw [q8]; rfl)]; exact q8
              go_simp
              rw [← hW, ← hg]
              refine hK14.out _ _ ⟨(HD2.out _ hb15).cell 0, (HD2.out _ hb15).cell 1, (HD2.out _ hb15).cell 2, (HD2.out _ hb15).cell 3⟩ (fun hHeld => ?_)
              clear hK14 K14 hW hg
              try simp only [Act.put, qGa, qGb, qGc, qSa, qSb, qSc]
              have z0 := hA15.cell 0; have z1 := hA15.cell 1; have z2 := hA15.cell 2; have z3 := hA15.cell 3
              have f0 := hA15.frozen 0; have f1 := hA15.frozen 1; have f2 := hA15.frozen 2; have f3 := hA15.frozen 3
              refine wpAnyH_ready (rs := [20]) (by kernel_rfl) (by simp) ?_
              refine AllReadyH.cons rfl (fun KS hKS => ?_) AllReadyH.nil
              have hE := Blk.set4 hA15 (.int .i64 j) (.int .i64 sl) (.int .i64 (am + m)) (.int .i64 (md + 1))
              have hbE := ((((hb15.setCell (p := ⟨gA15, 0, none⟩) hl15 (.int .i64 j)).setCell (p := ⟨gA15, 1, none⟩) hl15 (.int .i64 sl)).setCell (p := ⟨gA15, 2, none⟩) hl15 (.int .i64 (am + m))).setCell (p := ⟨gA15, 3, none⟩) hl15 (.int .i64 (md + 1)))
              go_simp
              refine hKS.out _ _ ⟨(HD2.out _ hbE).cell 0, (HD2.out _ hbE).cell 1, (HD2.out _ hbE).cell 2, (HD2.out _ hbE).cell 3⟩ (fun hHeld => ?_)
              clear hKS KS
              try simp only [Act.put, qGa, qGb, qGc, qSa, qSb, qSc]
              refine wpAnyH_done (by kernel_rfl) ?_ _
              go_wp2_with fail
              go_meet
              exact ⟨_, rfl, hE, hbE⟩
            · obtain ⟨wA18, hW⟩ : ∃ x, x = wV8.alloc (.cells #[.int .i64 0, .int .i64 0, .int .i64 0, .int .i64 0] 47) := ⟨_, rfl⟩
              obtain ⟨gA18, hg⟩ : ∃ x, x = wV8.heap.size := ⟨_, rfl⟩
              have hA18 : Blk wA18 gA18 47 #[.int .i64 0, .int .i64 0, .int .i64 0, .int .i64 0] := by rw [hW, hg]; exact Blk.new _ _ _
              have hb18 : Below w2.heap.size w2 wA18 := by rw [hW]; exact hb8.alloc hb8.size _
              have hl18 : w2.heap.size ≤ gA18 := by rw [hg]; exact hb8.size
              have q18 : wA18.cell? ⟨bV, oV + j, none⟩ = some (.int .i64 md) := by rw [hW, World.cell?_alloc_some _ _ _ (by rw [q8]; rfl)]; exact q8
              go_simp
              rw [← hW, ← hg]
              refine hK11.out _ _ ⟨(HD2.out _ hb18).cell 0, (HD2.out _ hb18).cell 1, (HD2.out _ hb18).cell 2, (HD2.out _ hb18).cell 3⟩ (fun hHeld => ?_)
              clear hK11 K11 hW hg
              try simp only [Act.put, qGa, qGb, qGc, qSa, qSb, qSc]
              refine wpAnyH_ready (rs := [16]) (by kernel_rfl) (by simp) ?_
              refine AllReadyH.cons rfl (fun K20 hK20 => ?_) AllReadyH.nil
              go_simp
              refine hK20.out _ _ ⟨(HD2.out _ hb18).cell 0, (HD2.out _ hb18).cell 1, (HD2.out _ hb18).cell 2, (HD2.out _ hb18).cell 3⟩ (fun hHeld => ?_)
              clear hK20 K20
              try simp only [Act.put, qGa, qGb, qGc, qSa, qSb, qSc]
              refine tk (i := 17) (v := ?vc2117) rfl (by kernel_rfl) (fun _ _ _ h => h) (Or.inl ⟨by rfl, ?hyc2117⟩) (by assumption) ?rc2117
              case hyc2117 => (intro w hSw; (try dsimp only at hSw); go_simp; try with_reducible rfl)
              try simp only [Act.put, qGa, qGb, qGc, qSa, qSb, qSc]
              refine tk (i := 18) (v := ?vc2118) rfl (by kernel_rfl) (fun _ _ _ h => h) (Or.inl ⟨by rfl, ?hyc2118⟩) (by assumption) ?rc2118
              case hyc2118 => (intro w hSw; (try dsimp only at hSw); go_simp; try with_reducible rfl)
              try simp only [Act.put, qGa, qGb, qGc, qSa, qSb, qSc]
              have z0 := hA18.cell 0; have z1 := hA18.cell 1; have z2 := hA18.cell 2; have z3 := hA18.cell 3
              have f0 := hA18.frozen 0; have f1 := hA18.frozen 1; have f2 := hA18.frozen 2; have f3 := hA18.frozen 3
              refine wpAnyH_ready (rs := [20]) (by kernel_rfl) (by simp) ?_
              refine AllReadyH.cons rfl (fun KS hKS => ?_) AllReadyH.nil
              have hE := Blk.set4 hA18 (.int .i64 j) (.int .i64 sl) (.int .i64 (am + m)) (.int .i64 (md + 1))
              have hbE := ((((hb18.setCell (p := ⟨gA18, 0, none⟩) hl18 (.int .i64 j)).setCell (p := ⟨gA18, 1, none⟩) hl18 (.int .i64 sl)).setCell (p := ⟨gA18, 2, none⟩) hl18 (.int .i64 (am + m))).setCell (p := ⟨gA18, 3, none⟩) hl18 (.int .i64 (md + 1)))
              go_simp
              refine hKS.out _ _ ⟨(HD2.out _ hbE).cell 0, (HD2.out _ hbE).cell 1, (HD2.out _ hbE).cell 2, (HD2.out _ hbE).cell 3⟩ (fun hHeld => ?_)
              clear hKS KS
              try simp only [Act.put, qGa, qGb, qGc, qSa, qSb, qSc]
              refine wpAnyH_done (by kernel_rfl) ?_ _
              go_wp2_with fail
              go_meet
              exact ⟨_, rfl, hE, hbE⟩
          · obtain ⟨wA24, hW⟩ : ∃ x, x = wC4.alloc (.cells #[.int .i64 0, .int .i64 0, .int .i64 0, .int .i64 0] 47) := ⟨_, rfl⟩
            obtain ⟨gA24, hg⟩ : ∃ x, x = wC4.heap.size := ⟨_, rfl⟩
            have hA24 : Blk wA24 gA24 47 #[.int .i64 0, .int .i64 0, .int .i64 0, .int .i64 0] := by rw [hW, hg]; exact Blk.new _ _ _
            have hb24 : Below w2.heap.size w2 wA24 := by rw [hW]; exact hb4.alloc hb4.size _
            have hl24 : w2.heap.size ≤ gA24 := by rw [hg]; exact hb4.size
            go_simp
            rw [← hW, ← hg]
            refine hK7.out _ _ ⟨(HD2.out _ hb24).cell 0, (HD2.out _ hb24).cell 1, (HD2.out _ hb24).cell 2, (HD2.out _ hb24).cell 3⟩ (fun hHeld => ?_)
            clear hK7 K7 hW hg
            try simp only [Act.put, qGa, qGb, qGc, qSa, qSb, qSc]
            refine wpAnyH_ready (rs := [12]) (by kernel_rfl) (by simp) ?_
            refine AllReadyH.cons rfl (fun K26 hK26 => ?_) AllReadyH.nil
            go_simp
            refine (HVT.out _ (HA2.out _ hb24)).mono ?_
            rintro e wV27 ⟨vV, rfl, hoV, hbV⟩
            have hb27 := hb24.trans (hbV.mono hb24.size)
            have hA27 := hA24.below hbV hA24.lt
            obtain ⟨aV, cV, rfl, hiV⟩ := hoV.ints hvw
            rw [hvl] at hiV ⊢
            obtain ⟨bV, oV, rfl, hltV, hcV⟩ := hiV.at j hj4
            have q27 : wV27.cell? ⟨bV, oV + j, none⟩ = some (.int .i64 md) := by rw [hcV j hj4, hmd]
            clear hcV hiV hoV hbV
            go_wp2_with fail
            refine hK26.out _ _ ⟨(HD2.out _ hb27).cell 0, (HD2.out _ hb27).cell 1, (HD2.out _ hb27).cell 2, (HD2.out _ hb27).cell 3⟩ (fun hHeld => ?_)
            clear hK26 K26
            try simp only [Act.put, qGa, qGb, qGc, qSa, qSb, qSc]
            refine tk (i := 15) (v := ?vb2715) rfl (by kernel_rfl) (fun _ _ _ h => h) (Or.inl ⟨by rfl, ?hyb2715⟩) (by assumption) ?rb2715
            case hyb2715 => (intro w hSw; (try dsimp only at hSw); go_simp; try with_reducible rfl)
            try simp only [Act.put, qGa, qGb, qGc, qSa, qSb, qSc]
            refine wpAnyH_ready (rs := [16]) (by kernel_rfl) (by simp) ?_
            refine AllReadyH.cons rfl (fun K29 hK29 => ?_) AllReadyH.nil
            go_simp
            refine hK29.out _ _ ⟨(HD2.out _ hb27).cell 0, (HD2.out _ hb27).cell 1, (HD2.out _ hb27).cell 2, (HD2.out _ hb27).cell 3⟩ (fun hHeld => ?_)
            clear hK29 K29
            try simp only [Act.put, qGa, qGb, qGc, qSa, qSb, qSc]
            refine tk (i := 17) (v := ?vc3017) rfl (by kernel_rfl) (fun _ _ _ h => h) (Or.inl ⟨by rfl, ?hyc3017⟩) (by assumption) ?rc3017
            case hyc3017 => (intro w hSw; (try dsimp only at hSw); go_simp; try with_reducible rfl)
            try simp only [Act.put, qGa, qGb, qGc, qSa, qSb, qSc]
            refine tk (i := 18) (v := ?vc3018) rfl (by kernel_rfl) (fun _ _ _ h => h) (Or.inl ⟨by rfl, ?hyc3018⟩) (by assumption) ?rc3018
            case hyc3018 => (intro w hSw; (try dsimp only at hSw); go_simp; try with_reducible rfl)
            try simp only [Act.put, qGa, qGb, qGc, qSa, qSb, qSc]
            have z0 := hA27.cell 0; have z1 := hA27.cell 1; have z2 := hA27.cell 2; have z3 := hA27.cell 3
            have f0 := hA27.frozen 0; have f1 := hA27.frozen 1; have f2 := hA27.frozen 2; have f3 := hA27.frozen 3
            refine wpAnyH_ready (rs := [20]) (by kernel_rfl) (by simp) ?_
            refine AllReadyH.cons rfl (fun KS hKS => ?_) AllReadyH.nil
            have hE := Blk.set4 hA27 (.int .i64 j) (.int .i64 sl) (.int .i64 (am + m)) (.int .i64 (md + 1))
            have hbE := ((((hb27.setCell (p := ⟨gA24, 0, none⟩) hl24 (.int .i64 j)).setCell (p := ⟨gA24, 1, none⟩) hl24 (.int .i64 sl)).setCell (p := ⟨gA24, 2, none⟩) hl24 (.int .i64 (am + m))).setCell (p := ⟨gA24, 3, none⟩) hl24 (.int .i64 (md + 1)))
            go_simp
            refine hKS.out _ _ ⟨(HD2.out _ hbE).cell 0, (HD2.out _ hbE).cell 1, (HD2.out _ hbE).cell 2, (HD2.out _ hbE).cell 3⟩ (fun hHeld => ?_)
            clear hKS KS
            try simp only [Act.put, qGa, qGb, qGc, qSa, qSb, qSc]
            refine wpAnyH_done (by kernel_rfl) ?_ _
            go_wp2_with fail
            go_meet
            exact ⟨_, rfl, hE, hbE⟩
        · obtain ⟨wA33, hW⟩ : ∃ x, x = W0.alloc (.cells #[.int .i64 0, .int .i64 0, .int .i64 0, .int .i64 0] 47) := ⟨_, rfl⟩
          obtain ⟨gA33, hg⟩ : ∃ x, x = W0.heap.size := ⟨_, rfl⟩
          have hA33 : Blk wA33 gA33 47 #[.int .i64 0, .int .i64 0, .int .i64 0, .int .i64 0] := by rw [hW, hg]; exact Blk.new _ _ _
          have hb33 : Below w2.heap.size w2 wA33 := by rw [hW]; exact hbW.alloc hbW.size _
          have hl33 : w2.heap.size ≤ gA33 := by rw [hg]; exact hbW.size
          go_simp
          rw [← hW, ← hg]
          refine hK3.out _ _ ⟨(HD2.out _ hb33).cell 0, (HD2.out _ hb33).cell 1, (HD2.out _ hb33).cell 2, (HD2.out _ hb33).cell 3⟩ (fun hHeld => ?_)
          clear hK3 K3 hW hg
          try simp only [Act.put, qGa, qGb, qGc, qSa, qSb, qSc]
          refine wpAnyH_ready (rs := [7]) (by kernel_rfl) (by simp) ?_
          refine AllReadyH.cons rfl (fun K35 hK35 => ?_) AllReadyH.nil
          go_simp
          refine (HAT.out _ (HA2.out _ hb33)).mono ?_
          rintro e wC36 ⟨rfl, hdr⟩
          have hb36 := hb33.trans (hdr.below wA33.heap.size |>.mono hb33.size)
          have hA36 := hA33.below (hdr.below wA33.heap.size) hA33.lt
          go_wp2_with fail
          refine hK35.out _ _ ⟨(HD2.out _ hb36).cell 0, (HD2.out _ hb36).cell 1, (HD2.out _ hb36).cell 2, (HD2.out _ hb36).cell 3⟩ (fun hHeld => ?_)
          clear hK35 K35 hdr
          try simp only [Act.put, qGa, qGb, qGc, qSa, qSb, qSc]
          refine tk (i := 10) (v := ?va3610) rfl (by kernel_rfl) (fun _ _ _ h => h) (Or.inl ⟨by rfl, ?hya3610⟩) (by assumption) ?ra3610
          case hya3610 => (intro w hSw; (try dsimp only at hSw); go_simp; try with_reducible rfl)
          try simp only [Act.put, qGa, qGb, qGc, qSa, qSb, qSc]
          refine wpAnyH_ready (rs := [12]) (by kernel_rfl) (by simp) ?_
          refine AllReadyH.cons rfl (fun K38 hK38 => ?_) AllReadyH.nil
          go_simp
          refine (HVT.out _ (HA2.out _ hb36)).mono ?_
          rintro e wV39 ⟨vV, rfl, hoV, hbV⟩
          have hb39 := hb36.trans (hbV.mono hb36.size)
          have hA39 := hA36.below hbV hA36.lt
          obtain ⟨aV, cV, rfl, hiV⟩ := hoV.ints hvw
          rw [hvl] at hiV ⊢
          obtain ⟨bV, oV, rfl, hltV, hcV⟩ := hiV.at j hj4
          have q39 : wV39.cell? ⟨bV, oV + j, none⟩ = some (.int .i64 md) := by rw [hcV j hj4, hmd]
          clear hcV hiV hoV hbV
          go_wp2_with fail
          refine hK38.out _ _ ⟨(HD2.out _ hb39).cell 0, (HD2.out _ hb39).cell 1, (HD2.out _ hb39).cell 2, (HD2.out _ hb39).cell 3⟩ (fun hHeld => ?_)
          clear hK38 K38
          try simp only [Act.put, qGa, qGb, qGc, qSa, qSb, qSc]
          refine tk (i := 15) (v := ?vb3915) rfl (by kernel_rfl) (fun _ _ _ h => h) (Or.inl ⟨by rfl, ?hyb3915⟩) (by assumption) ?rb3915
          case hyb3915 => (intro w hSw; (try dsimp only at hSw); go_simp; try with_reducible rfl)
          try simp only [Act.put, qGa, qGb, qGc, qSa, qSb, qSc]
          refine wpAnyH_ready (rs := [16]) (by kernel_rfl) (by simp) ?_
          refine AllReadyH.cons rfl (fun K41 hK41 => ?_) AllReadyH.nil
          go_simp
          refine hK41.out _ _ ⟨(HD2.out _ hb39).cell 0, (HD2.out _ hb39).cell 1, (HD2.out _ hb39).cell 2, (HD2.out _ hb39).cell 3⟩ (fun hHeld => ?_)
          clear hK41 K41
          try simp only [Act.put, qGa, qGb, qGc, qSa, qSb, qSc]
          refine tk (i := 17) (v := ?vc4217) rfl (by kernel_rfl) (fun _ _ _ h => h) (Or.inl ⟨by rfl, ?hyc4217⟩) (by assumption) ?rc4217
          case hyc4217 => (intro w hSw; (try dsimp only at hSw); go_simp; try with_reducible rfl)
          try simp only [Act.put, qGa, qGb, qGc, qSa, qSb, qSc]
          refine tk (i := 18) (v := ?vc4218) rfl (by kernel_rfl) (fun _ _ _ h => h) (Or.inl ⟨by rfl, ?hyc4218⟩) (by assumption) ?rc4218
          case hyc4218 => (intro w hSw; (try dsimp only at hSw); go_simp; try with_reducible rfl)
          try simp only [Act.put, qGa, qGb, qGc, qSa, qSb, qSc]
          have z0 := hA39.cell 0; have z1 := hA39.cell 1; have z2 := hA39.cell 2; have z3 := hA39.cell 3
          have f0 := hA39.frozen 0; have f1 := hA39.frozen 1; have f2 := hA39.frozen 2; have f3 := hA39.frozen 3
          refine wpAnyH_ready (rs := [20]) (by kernel_rfl) (by simp) ?_
          refine AllReadyH.cons rfl (fun KS hKS => ?_) AllReadyH.nil
          have hE := Blk.set4 hA39 (.int .i64 j) (.int .i64 sl) (.int .i64 (am + m)) (.int .i64 (md + 1))
          have hbE := ((((hb39.setCell (p := ⟨gA33, 0, none⟩) hl33 (.int .i64 j)).setCell (p := ⟨gA33, 1, none⟩) hl33 (.int .i64 sl)).setCell (p := ⟨gA33, 2, none⟩) hl33 (.int .i64 (am + m))).setCell (p := ⟨gA33, 3, none⟩) hl33 (.int .i64 (md + 1)))
          go_simp
          refine hKS.out _ _ ⟨(HD2.out _ hbE).cell 0, (HD2.out _ hbE).cell 1, (HD2.out _ hbE).cell 2, (HD2.out _ hbE).cell 3⟩ (fun hHeld => ?_)
          clear hKS KS
          try simp only [Act.put, qGa, qGb, qGc, qSa, qSb, qSc]
          refine wpAnyH_done (by kernel_rfl) ?_ _
          go_wp2_with fail
          go_meet
          exact ⟨_, rfl, hE, hbE⟩
      case rest =>
        obtain ⟨g, rfl, hE0, hbE⟩ := hcut
        have hE : Blk wc g 47 #[.int .i64 x.o, .int .i64 x.s, .int .i64 x.a, .int .i64 x.d] := by rw [HDE.out]; exact hE0
        have hBE := HA2.out _ hbE
        have hsE := hBE.size
        have z0 := hE.cell 0; have z1 := hE.cell 1; have z2 := hE.cell 2; have z3 := hE.cell 3
        have hke := fun w => specEntryOk_any x.o x.s x.a x.d w
        have hkE : entryOk x.o x.s x.a x.d = x.ok := rfl
        rw [hkE] at hke
        clear hkE hE0 p0 p1 p2 p3 hk1 hk2 HD2 HD HAT HVT HHT hsl hblk
        obtain ⟨bo, hbo⟩ : ∃ bo, x.ok = bo := ⟨_, rfl⟩
        rw [hbo] at hke
        have hg1 : bo = true → r = (putE es x, 0) := fun h => HGO.out HQ.out (hbo.trans h)
        have hg2 : bo = false → r = (es, 2) := fun h => HLI.out HQ.out (hbo.trans h)
        have HG1 := Lib.hid hg1; have HG2 := Lib.hid hg2; clear hg1 hg2 hbo HGO HLI HSH HDE
        go_wp2_with fail
        refine (hke _).mono ?_
        rintro e w5 ⟨rfl, hb5⟩
        have hB5 := hBE.trans (hb5.mono hsE)
        rcases bo with _ | _
        · have hr := HG2.out (by first | rfl | trivial)
          subst hr
          go_wp2_with fail
          refine (HCT.out _ hB5).mono ?_
          rintro e w6 ⟨v, rfl, hown, hb6⟩
          go_wp2_with fail
          go_ret2
          exact ⟨_, rfl, hown.mono hB5.size, hB5.trans (hb6.mono hB5.size)⟩
        · have hr := HG1.out (by first | rfl | trivial)
          subst hr
          have hE5 := hE.below hb5 hE.lt
          clear z0 z1 z2 z3
          have z0 := hE5.cell 0; have z1 := hE5.cell 1; have z2 := hE5.cell 2; have z3 := hE5.cell 3
          go_wp2_with fail
          refine (l4With_any B ao n cap es x _ (hx.below hB5 hB (Nat.le_refl B)) hz (by have := hB5.size; omega) (by omega)).mono ?_
          rintro e w6 ⟨v, rfl, hown, hb6⟩
          go_wp2_with fail
          go_ret2
          exact ⟨_, rfl, hown.mono hB5.size, hB5.trans (hb6.mono hB5.size)⟩
    · have hr := hq1.out rfl
      subst hr
      go_wp2_with fail
      refine (HCT.out _ hB1).mono ?_
      rintro e w2 ⟨v, rfl, hown, hb2⟩
      go_wp2_with fail
      go_ret2
      exact ⟨_, rfl, hown.mono hB1.size, hB1.trans (hb2.mono hB1.size)⟩
end Go.Proofs.YtoniahfdjhhalaaGreat
