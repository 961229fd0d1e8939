/- Texts of this claim, put together. -/
import Derived.Test.YtoniahfdjhhalaaGreatP1
import Derived.Test.YtoniahfdjhhalaaGreatP4
import Derived.Test.YtoniahfdjhhalaaGreatP7

namespace Go.Proofs.YtoniahfdjhhalaaGreat
open Go.RowKit
def mxF (o m : Int) (e : Ent) : Int := if e.o = o then max m e.d else m
def mx (es : List Ent) (o : Int) : Int := es.foldl (mxF o) 0
def vec (es : List Ent) : List Int := [mx es 0, mx es 1, mx es 2, mx es 3]
theorem mx_snoc (es : List Ent) (e : Ent) (o : Int) : mx (es ++ [e]) o = mxF o (mx es o) e := by simp [mx, List.foldl_append]
theorem vec_get0 (es : List Ent) (j : Nat) (hj : j < 4) : (vec es).getD j 0 = mx es j := by
  have h : j = 0 ∨ j = 1 ∨ j = 2 ∨ j = 3 := by omega
  rcases h with rfl | rfl | rfl | rfl <;> rfl
theorem vec_snoc (es : List Ent) (e : Ent) (j : Nat) (hj : j < 4) (ho : e.o = j) : vec (es ++ [e]) = (vec es).set j (max (mx es j) e.d) := by
  have h : j = 0 ∨ j = 1 ∨ j = 2 ∨ j = 3 := by omega
  rcases h with rfl | rfl | rfl | rfl <;> simp [vec, mx_snoc, mxF, ho]
theorem mx_range {es : List Ent} (h : ∀ e ∈ es, e.ok = true) (o : Int) : 0 ≤ mx es o ∧ mx es o ≤ 100000 := by
  unfold mx
  have : ∀ m : Int, 0 ≤ m → m ≤ 100000 → 0 ≤ es.foldl (mxF o) m ∧ es.foldl (mxF o) m ≤ 100000 := by
    induction es with
    | nil => intro m h0 h1; exact ⟨h0, h1⟩
    | cons e r ih =>
      intro m h0 h1
      have he := Ent.ok_all (h e (List.mem_cons_self ..))
      refine ih (fun x hx => h x (List.mem_cons_of_mem _ hx)) (mxF o m e) ?_ ?_ <;> (unfold mxF; split <;> omega)
  exact this 0 (by omega) (by omega)
theorem vec_i64 {es : List Ent} (h : ∀ e ∈ es, e.ok = true) : AllI64 (vec es) := by
  intro x hx
  simp only [vec, List.mem_cons, List.not_mem_nil, or_false] at hx
  have h0 := mx_range h 0; have h1 := mx_range h 1; have h2 := mx_range h 2; have h3 := mx_range h 3
  unfold I64
  rcases hx with rfl | rfl | rfl | rfl <;> omega
set_option maxHeartbeats 400000 in
theorem l5Zero_any (w : World) :
    Calls Tryz.prog 69 #[] w fun e w' => e = .returned (.slice (some ⟨w.heap.size, 0, none⟩) 4 4) ∧ Own w.heap.size w' (.slice (some ⟨w.heap.size, 0, none⟩) 4 4) [0, 0, 0, 0] ∧ Below w.heap.size w w' := by
  obtain ⟨i0, hi, hz0, hz1, hz2⟩ := info_parts info64
  go_enter Tryz.func69, Tryz.ntmps69
  go_wp2_with (at_make; refine wpList_make_full _ rfl _ _ 78 rfl w.heap.size 2 i0 (.int .i64 0) 1 Tryz.underlying78 hi hz0 hz1 _ _ _ _ 4 rfl rfl (by decide) (by decide) ?b2 ?b3 (Nat.le_refl _) ?_)
  case b2 => rw [hz2]; omega
  case b3 => unfold maxLen; omega
  intro w0 hown0 hgrow0
  go_wp2
  go_ret
  refine ⟨rfl, ?_, (Below.refl _ _).grown hgrow0 (Nat.le_refl _) (fun k h => by cases h)⟩
  have e0 : (madeCells (Value.int IntKind.i64 0).cells (4 * 1)).toList = ([0, 0, 0, 0] : List Int).map (Value.int .i64) := by kernel_rfl
  unfold Own
  rw [← e0]
  exact hown0
set_option linter.unusedSimpArgs false in
set_option maxHeartbeats 2000000 in
set_option maxRecDepth 100000 in
theorem l5Vec_any (B : Nat) (ao : Option Addr) (n cap : Nat) (es : List Ent) (w : World) (hx : Ents B w ao n cap es) (hB : B ≤ w.heap.size) (hok : bookOk es = true) :
    Calls Tryz.prog 81 #[.slice ao n cap] w (NewInts (vec es) w) := by
  have hx0 := hx.hlen; have hx1 := hx.hcap; have hx2 := hx.hmax
  unfold maxLen at hx2
  have hr := book_right hok
  rw [hx0] at hr
  have HX := Lib.hid hx0; have HR := Lib.hid hr; clear hx0 hr
  go_enter Tryz.func81, Tryz.ntmps81
  go_wp2_with fail
  refine (l5Zero_any _).mono ?_
  rintro e w1 ⟨rfl, hown1, hb1⟩
  have hown1' : w1.ownsRow w.heap.size 2 1 (.slice (some ⟨w.heap.size, 0, none⟩) 4 4) 4 ((vec (es.take 0)).map (Value.int .i64)) := hown1
  go_wp2_with fail
  go_loopw [4] (fun si wr => ∃ i : Nat, i ≤ n ∧ si = .int .i64 i ∧ wr.ownsRow w.heap.size 2 1 (.slice (some ⟨w.heap.size, 0, none⟩) 4 4) 4 ((vec (es.take i)).map (Value.int .i64)) ∧ Below w.heap.size w wr) (fun si _ => n - (intOf si).toNat)
  case atStart => exact ⟨0, Nat.zero_le _, rfl, hown1', hb1⟩
  case round =>
    obtain ⟨i, hi, rfl, hown, hbel⟩ := hrel
    have hxr := hx.below hbel hB hB
    by_cases hlt : i < n
    · obtain ⟨b, off, rfl, hbB, hc⟩ := hxr.at i hlt
      obtain ⟨c0, -, -, c3⟩ := hc i hlt
      have hgood := Ent.ok_all (HR.out i hlt).1
      have hsn : ∀ j : Nat, j < 4 → (E es i).o = j → vec (es.take (i + 1)) = (vec (es.take i)).set j (max (mx (es.take i) j) (E es i).d) := fun j hj ho => by
        have hl := HX.out
        rw [List.take_succ_eq_append_getElem (by omega), ← E_get (by omega)]
        exact vec_snoc _ _ j hj ho
      clear hc
      obtain ⟨j, hj⟩ : ∃ j : Nat, (E es i).o = j := ⟨(E es i).o.toNat, by omega⟩
      rw [hj] at c0 hgood
      have hj4 : j < 4 := by omega
      have hsn2 := hsn j hj4 hj
      generalize (E es i).d = d at c3 hsn2
      clear hsn hgood hj
      have q0 : wr.cell? ⟨w.heap.size, j, none⟩ = some (.int .i64 (mx (es.take i) j)) := by
        rw [hown.cellAt j (by omega)]
        have h : j = 0 ∨ j = 1 ∨ j = 2 ∨ j = 3 := by omega
        rcases h with rfl | rfl | rfl | rfl <;> rfl
      have f0 := hown.frozenAt j
      generalize mx (es.take i) j = m at q0 hsn2
      have hM := fun w => l1Max_any m d w
      generalize max m d = z at hM hsn2
      have hst := (World.ownsRow.drew hown).stored j (.int .i64 z) |>.1
      rw [map_set, ← hsn2] at hst
      have HST := Lib.hid hst; clear hst hsn2
      have hszr := (World.ownsRow.lt hown w.heap.size rfl).2
      have HBel := Lib.hid ((hbel.drew).setCell (p := ⟨w.heap.size, j, none⟩) (by exact Nat.le_refl _) (.int .i64 z))
      have q0' : wr.drew.cell? ⟨w.heap.size, j, none⟩ = some (.int .i64 m) := q0
      have f0' : wr.drew.frozen? ⟨w.heap.size, j, none⟩ = false := f0
      have hS2 : (wr.drew.setCell ⟨w.heap.size, j, none⟩ (.int .i64 z)).cell? ⟨b, off + i * 4, none⟩ = some (.int .i64 j) ∧ (wr.drew.setCell ⟨w.heap.size, j, none⟩ (.int .i64 z)).cell? ⟨b, off + i * 4 + 3, none⟩ = some (.int .i64 d) :=
        ⟨(World.cell?_setCell_other _ _ _ _ (fun e => by cases e; omega)).trans c0, (World.cell?_setCell_other _ _ _ _ (fun e => by cases e; omega)).trans c3⟩
      clear hown
      have i1 : (0 : Int) ≤ i := by omega
      have i2 : (i : Int) < n := by omega
      have j1 : (0 : Int) ≤ j := by omega
      have j2 : (j : Int) < 4 := by omega
      go_wp2_with fail
      refine wp_region_held_drew (S := (fun w' => w'.cell? ⟨b, off + i * 4, none⟩ = some (.int .i64 j) ∧ w'.cell? ⟨b, off + i * 4 + 3, none⟩ = some (.int .i64 d))) (by kernel_rfl) ⟨c0, c3⟩ (fun hHeld => ?_)
      refine tk (i := 0) (v := ?va0) rfl (by kernel_rfl) (fun _ _ _ h => h) (Or.inl ⟨by rfl, ?hya0⟩) (by assumption) ?ra0
      case hya0 => (intro w hSw; (try dsimp only at hSw); go_simp; try with_reducible rfl)
      try simp only [Act.put, qGa, qGb, qGc, qSa, qSb, qSc]
      refine tk (i := 1) (v := ?va1) rfl (by kernel_rfl) (fun _ _ _ h => h) (Or.inl ⟨by rfl, ?hya1⟩) (by assumption) ?ra1
      case hya1 => (intro w hSw; (try dsimp only at hSw); go_simp; try with_reducible rfl)
      try simp only [Act.put, qGa, qGb, qGc, qSa, qSb, qSc]
      refine tk (i := 2) (v := ?va2) rfl (by kernel_rfl) (fun _ _ _ h => h) (Or.inl ⟨by rfl, ?hya2⟩) (by assumption) ?ra2
      case hya2 => (intro w hSw; (try dsimp only at hSw); go_simp; try with_reducible rfl)
      try simp only [Act.put, qGa, qGb, qGc, qSa, qSb, qSc]
      refine tk (i := 3) (v := ?va3) rfl (by kernel_rfl) (fun _ _ _ h => h) (Or.inl ⟨by rfl, ?hya3⟩) (by assumption) ?ra3
      case hya3 => (intro w hSw; (try dsimp only at hSw); go_simp; try with_reducible rfl)
      try simp only [Act.put, qGa, qGb, qGc, qSa, qSb, qSc]
      refine tk (i := 4) (v := ?va4) rfl (by kernel_rfl) (fun _ _ _ h => h) (Or.inl ⟨by rfl, ?hya4⟩) (by assumption) ?ra4
      case hya4 => (intro w hSw; (try dsimp only at hSw); go_simp; try with_reducible rfl)
      try simp only [Act.put, qGa, qGb, qGc, qSa, qSb, qSc]
      refine tk (i := 5) (v := ?va5) rfl (by kernel_rfl) (fun _ _ _ h => h) (Or.inl ⟨by rfl, ?hya5⟩) (by assumption) ?ra5
      case hya5 => (intro w hSw; (try dsimp only at hSw); go_simp; try with_reducible rfl)
      try simp only [Act.put, qGa, qGb, qGc, qSa, qSb, qSc]
      refine tk (i := 6) (v := ?va6) rfl (by kernel_rfl) (fun _ _ _ h => h) (Or.inl ⟨by rfl, ?hya6⟩) (by assumption) ?ra6
      case hya6 => (intro w hSw; (try dsimp only at hSw); go_simp; try with_reducible rfl)
      try simp only [Act.put, qGa, qGb, qGc, qSa, qSb, qSc]
      refine tk (i := 7) (v := ?va7) rfl (by kernel_rfl) (fun _ _ _ h => h) (Or.inl ⟨by rfl, ?hya7⟩) (by assumption) ?ra7
      case hya7 => (intro w hSw; (try dsimp only at hSw); go_simp; try with_reducible rfl)
      try simp only [Act.put, qGa, qGb, qGc, qSa, qSb, qSc]
      refine tk (i := 8) (v := ?va8) rfl (by kernel_rfl) (fun _ _ _ h => h) (Or.inl ⟨by rfl, ?hya8⟩) (by assumption) ?ra8
      case hya8 => (intro w hSw; (try dsimp only at hSw); go_simp; try with_reducible rfl)
      try simp only [Act.put, qGa, qGb, qGc, qSa, qSb, qSc]
      refine tk (i := 9) (v := ?va9) rfl (by kernel_rfl) (fun _ _ _ h => h) (Or.inl ⟨by rfl, ?hya9⟩) (by assumption) ?ra9
      case hya9 => (intro w hSw; (try dsimp only at hSw); go_simp; try with_reducible rfl)
      try simp only [Act.put, qGa, qGb, qGc, qSa, qSb, qSc]
      refine tk (i := 10) (v := ?va10) rfl (by kernel_rfl) (fun _ _ _ h => h) (Or.inl ⟨by rfl, ?hya10⟩) (by assumption) ?ra10
      case hya10 => (intro w hSw; (try dsimp only at hSw); go_simp; try with_reducible rfl)
      try simp only [Act.put, qGa, qGb, qGc, qSa, qSb, qSc]
      refine tk (i := 11) (v := ?va11) rfl (by kernel_rfl) (fun _ _ _ h => h) (Or.inl ⟨by rfl, ?hya11⟩) (by assumption) ?ra11
      case hya11 => (intro w hSw; (try dsimp only at hSw); go_simp; try with_reducible rfl)
      try simp only [Act.put, qGa, qGb, qGc, qSa, qSb, qSc]
      refine tk (i := 12) (v := ?va12) rfl (by kernel_rfl) (fun _ _ _ h => h) (Or.inl ⟨by rfl, ?hya12⟩) (by assumption) ?ra12
      case hya12 => (intro w hSw; (try dsimp only at hSw); go_simp; try with_reducible rfl)
      try simp only [Act.put, qGa, qGb, qGc, qSa, qSb, qSc]
      refine tk (i := 14) (v := ?va14) rfl (by kernel_rfl) (fun _ _ _ h => h) (Or.inl ⟨by rfl, ?hya14⟩) (by assumption) ?ra14
      case hya14 => (intro w hSw; (try dsimp only at hSw); go_simp; try with_reducible rfl)
      try simp only [Act.put, qGa, qGb, qGc, qSa, qSb, qSc]
      refine tk (i := 15) (v := ?va15) rfl (by kernel_rfl) (fun _ _ _ h => h) (Or.inl ⟨by rfl, ?hya15⟩) (by assumption) ?ra15
      case hya15 => (intro w hSw; (try dsimp only at hSw); go_simp; try with_reducible rfl)
      try simp only [Act.put, qGa, qGb, qGc, qSa, qSb, qSc]
      refine tk (i := 16) (v := ?va16) rfl (by kernel_rfl) (fun _ _ _ h => h) (Or.inl ⟨by rfl, ?hya16⟩) (by assumption) ?ra16
      case hya16 => (intro w hSw; (try dsimp only at hSw); go_simp; try with_reducible rfl)
      try simp only [Act.put, qGa, qGb, qGc, qSa, qSb, qSc]
      refine tk (i := 17) (v := ?va17) rfl (by kernel_rfl) (fun _ _ _ h => h) (Or.inl ⟨by rfl, ?hya17⟩) (by assumption) ?ra17
      case hya17 => (intro w hSw; (try dsimp only at hSw); go_simp; try with_reducible rfl)
      try simp only [Act.put, qGa, qGb, qGc, qSa, qSb, qSc]
      refine tk (i := 18) (v := ?va18) rfl (by kernel_rfl) (fun _ _ _ h => h) (Or.inl ⟨by rfl, ?hya18⟩) (by assumption) ?ra18
      case hya18 => (intro w hSw; (try dsimp only at hSw); go_simp; try with_reducible rfl)
      try simp only [Act.put, qGa, qGb, qGc, qSa, qSb, qSc]
      refine wpAnyH_ready (rs := [13]) (by kernel_rfl) (by simp) ?_
      refine AllReadyH.cons rfl (fun Kb hKb => ?_) AllReadyH.nil
      go_simp
      refine hKb.out _ _ ⟨c0, c3⟩ (fun hHeld => ?_)
      clear hKb Kb
      try simp only [Act.put, qGa, qGb, qGc, qSa, qSb, qSc]
      refine wpAnyH_ready (rs := [19]) (by kernel_rfl) (by simp) ?_
      refine AllReadyH.cons rfl (fun Kc hKc => ?_) AllReadyH.nil
      go_simp
      refine (hM _).mono ?_
      rintro e w' ⟨rfl, rfl⟩
      go_wp2_with fail
      refine hKc.out _ _ ⟨c0, c3⟩ (fun hHeld => ?_)
      clear hKc Kc
      try simp only [Act.put, qGa, qGb, qGc, qSa, qSb, qSc]
      refine tk (i := 20) (v := ?va20) rfl (by kernel_rfl) (fun _ _ _ h => h) (Or.inl ⟨by rfl, ?hya20⟩) (by assumption) ?ra20
      case hya20 => (intro w hSw; (try dsimp only at hSw); go_simp; try with_reducible rfl)
      try simp only [Act.put, qGa, qGb, qGc, qSa, qSb, qSc]
      refine wpAnyH_ready (rs := [21]) (by kernel_rfl) (by simp) ?_
      refine AllReadyH.cons rfl (fun Kd hKd => ?_) AllReadyH.nil
      go_simp
      refine hKd.out _ _ hS2 (fun hHeld => ?_)
      clear hKd Kd
      try simp only [Act.put, qGa, qGb, qGc, qSa, qSb, qSc]
      refine wpAnyH_done (by kernel_rfl) ?_ _
      go_wp2
      go_roundw
      case rel => exact ⟨i + 1, by omega, by go_num, HST.out, HBel.out⟩
      case measure => simp [intOf]; omega
    · have ei : i = n := by omega
      subst ei
      rw [List.take_of_length_le (by have := HX.out; omega)] at hown
      go_wp2
      go_ret
      exact ⟨_, rfl, hown, hbel⟩
end Go.Proofs.YtoniahfdjhhalaaGreat
