/- Texts of this claim, put together. -/
import Derived.Test.YtccoljbnddfmpaaGreatDoorP1
import Derived.Test.YtccoljbnddfmpaaGreatDoorP3
import Derived.Test.YtccoljbnddfmpaaGreatDoorP4
import Derived.Deep.RegionHeld3
import Derived.Deep.DeepCutAuto

namespace Go.Proofs.YtccoljbnddfmpaaGreatDoor
open Go.RowKit
def mxF (o m : Int) (e : Ent) : Int := if e.o = o then max m e.d else m
def mx (es : List Ent) (o : Int) : Int := es.foldl (mxF o) 0
def vec (es : List Ent) : List Int := [mx es 0, mx es 1, mx es 2, mx es 3]
theorem mx_snoc (es : List Ent) (e : Ent) (o : Int) : mx (es ++ [e]) o = mxF o (mx es o) e := by simp [mx, List.foldl_append]
theorem vec_get0 (es : List Ent) (j : Nat) (hj : j < 4) : (vec es).getD j 0 = mx es j := by
  have h : j = 0 ∨ j = 1 ∨ j = 2 ∨ j = 3 := by omega
  rcases h with rfl | rfl | rfl | rfl <;> rfl
theorem vec_snoc (es : List Ent) (e : Ent) (j : Nat) (hj : j < 4) (ho : e.o = j) : vec (es ++ [e]) = (vec es).set j (max (mx es j) e.d) := by
  have h : j = 0 ∨ j = 1 ∨ j = 2 ∨ j = 3 := by omega
  rcases h with rfl | rfl | rfl | rfl <;> simp [vec, mx_snoc, mxF, ho]
def vecOf (es : List Ent) : List Int := if bookOk es = true then vec es else []
theorem mx_range {es : List Ent} (h : ∀ e ∈ es, e.ok = true) (o : Int) : 0 ≤ mx es o ∧ mx es o ≤ 100000 := by
  unfold mx
  have : ∀ m : Int, 0 ≤ m → m ≤ 100000 → 0 ≤ es.foldl (mxF o) m ∧ es.foldl (mxF o) m ≤ 100000 := by
    induction es with
    | nil => intro m h0 h1; exact ⟨h0, h1⟩
    | cons e r ih =>
      intro m h0 h1
      have he := Ent.ok_all (h e (List.mem_cons_self ..))
      refine ih (fun x hx => h x (List.mem_cons_of_mem _ hx)) (mxF o m e) ?_ ?_ <;> (unfold mxF; split <;> omega)
  exact this 0 (by omega) (by omega)
theorem vec_i64 {es : List Ent} (h : ∀ e ∈ es, e.ok = true) : AllI64 (vec es) := by
  intro x hx
  simp only [vec, List.mem_cons, List.not_mem_nil, or_false] at hx
  have h0 := mx_range h 0; have h1 := mx_range h 1; have h2 := mx_range h 2; have h3 := mx_range h 3
  unfold I64
  rcases hx with rfl | rfl | rfl | rfl <;> omega
set_option maxHeartbeats 400000 in
theorem l5Zero_any (w : World) :
    Calls Tryz.prog 95 #[] w fun e w' => e = .returned (.slice (some ⟨w.heap.size, 0, none⟩) 4 4) ∧ Own w.heap.size w' (.slice (some ⟨w.heap.size, 0, none⟩) 4 4) [0, 0, 0, 0] ∧ Below w.heap.size w w' := by
  obtain ⟨i0, hi, hz0, hz1, hz2⟩ := info_parts info64
  go_enter Tryz.func95, Tryz.ntmps95
  go_wp2_with (at_make; refine wpList_make_full _ rfl _ _ 104 rfl w.heap.size 2 i0 (.int .i64 0) 1 Tryz.underlying104 hi hz0 hz1 _ _ _ _ 4 rfl rfl (by decide) (by decide) ?b2 ?b3 (Nat.le_refl _) ?_)
  case b2 => rw [hz2]; omega
  case b3 => unfold maxLen; omega
  intro w0 hown0 hgrow0
  go_wp2
  go_ret
  refine ⟨rfl, ?_, (Below.refl _ _).grown hgrow0 (Nat.le_refl _) (fun k h => by cases h)⟩
  have e0 : (madeCells (Value.int IntKind.i64 0).cells (4 * 1)).toList = ([0, 0, 0, 0] : List Int).map (Value.int .i64) := by kernel_rfl
  unfold Own
  rw [← e0]
  exact hown0
set_option linter.unusedSimpArgs false in
set_option maxHeartbeats 2000000 in
set_option maxRecDepth 100000 in
theorem l5Vec_any (B : Nat) (ao : Option Addr) (n cap : Nat) (es : List Ent) (w : World) (hx : Ents B w ao n cap es) (hB : B ≤ w.heap.size) (hok : bookOk es = true) :
    Calls Tryz.prog 59 #[.slice ao n cap] w (NewInts (vec es) w) := by
  have hx0 := hx.hlen; have hx1 := hx.hcap; have hx2 := hx.hmax
  unfold maxLen at hx2
  have hr := book_right hok
  rw [hx0] at hr
  have HX := Lib.hid hx0; have HR := Lib.hid hr; clear hx0 hr
  go_enter Tryz.func59, Tryz.ntmps59
  go_wp2_with fail
  refine (l5Zero_any _).mono ?_
  rintro e w1 ⟨rfl, hown1, hb1⟩
  have hown1' : w1.ownsRow w.heap.size 2 1 (.slice (some ⟨w.heap.size, 0, none⟩) 4 4) 4 ((vec (es.take 0)).map (Value.int .i64)) := hown1
  go_wp2_with fail
  go_loopw [4] (fun si wr => ∃ i : Nat, i ≤ n ∧ si = .int .i64 i ∧ wr.ownsRow w.heap.size 2 1 (.slice (some ⟨w.heap.size, 0, none⟩) 4 4) 4 ((vec (es.take i)).map (Value.int .i64)) ∧ Below w.heap.size w wr) (fun si _ => n - (intOf si).toNat)
  case atStart => exact ⟨0, Nat.zero_le _, rfl, hown1', hb1⟩
  case round =>
    obtain ⟨i, hi, rfl, hown, hbel⟩ := hrel
    have hxr := hx.below hbel hB hB
    by_cases hlt : i < n
    · obtain ⟨b, off, rfl, hbB, hc⟩ := hxr.at i hlt
      obtain ⟨c0, -, -, c3⟩ := hc i hlt
      have hgood := Ent.ok_all (HR.out i hlt).1
      have hsn : ∀ j : Nat, j < 4 → (E es i).o = j → vec (es.take (i + 1)) = (vec (es.take i)).set j (max (mx (es.take i) j) (E es i).d) := fun j hj ho => by
        have hl := HX.out
        rw [List.take_succ_eq_append_getElem (by omega), ← E_get (by omega)]
        exact vec_snoc _ _ j hj ho
      clear hc
      obtain ⟨j, hj⟩ : ∃ j : Nat, (E es i).o = j := ⟨(E es i).o.toNat, by omega⟩
      rw [hj] at c0 hgood
      have hj4 : j < 4 := by omega
      have hsn2 := hsn j hj4 hj
      generalize (E es i).d = d at c3 hsn2
      clear hsn hgood hj
      have q0 : wr.cell? ⟨w.heap.size, j, none⟩ = some (.int .i64 (mx (es.take i) j)) := by
        rw [hown.cellAt j (by omega)]
        have h : j = 0 ∨ j = 1 ∨ j = 2 ∨ j = 3 := by omega
        rcases h with rfl | rfl | rfl | rfl <;> rfl
      have f0 := hown.frozenAt j
      generalize mx (es.take i) j = m at q0 hsn2
      have hM := fun w => l1Max_any m d w
      generalize max m d = z at hM hsn2
      have hst := (World.ownsRow.drew hown).stored j (.int .i64 z) |>.1
      rw [map_set, ← hsn2] at hst
      have HST := Lib.hid hst; clear hst hsn2
      have hszr := (World.ownsRow.lt hown w.heap.size rfl).2
      have HBel := Lib.hid ((hbel.drew).setCell (p := ⟨w.heap.size, j, none⟩) (by exact Nat.le_refl _) (.int .i64 z))
      have q0' : wr.drew.cell? ⟨w.heap.size, j, none⟩ = some (.int .i64 m) := q0
      have f0' : wr.drew.frozen? ⟨w.heap.size, j, none⟩ = false := f0
      have hS2 : (wr.drew.setCell ⟨w.heap.size, j, none⟩ (.int .i64 z)).cell? ⟨b, off + i * 4, none⟩ = some (.int .i64 j) ∧ (wr.drew.setCell ⟨w.heap.size, j, none⟩ (.int .i64 z)).cell? ⟨b, off + i * 4 + 3, none⟩ = some (.int .i64 d) :=
        ⟨(World.cell?_setCell_other _ _ _ _ (fun e => by cases e; omega)).trans c0, (World.cell?_setCell_other _ _ _ _ (fun e => by cases e; omega)).trans c3⟩
      clear hown
      have i1 : (0 : Int) ≤ i := by omega
      have i2 : (i : Int) < n := by omega
      have j1 : (0 : Int) ≤ j := by omega
      have j2 : (j : Int) < 4 := by omega
      go_wp2_with fail
      refine wp_region_held_drew (S := (fun w' => w'.cell? ⟨b, off + i * 4, none⟩ = some (.int .i64 j) ∧ w'.cell? ⟨b, off + i * 4 + 3, none⟩ = some (.int .i64 d))) (by kernel_rfl) ⟨c0, c3⟩ (fun hHeld => ?_)
      refine wpAnyH_take (i := 0) (v := ?va0) rfl (by kernel_rfl) (by kernel_rfl) (by kernel_rfl) (fun _ _ _ h => h) (Or.inl ⟨by rfl, ?hya0⟩) (by assumption) ?ra0
      case hya0 => (intro w hSw; (try dsimp only at hSw); go_simp; try with_reducible rfl)
      try simp only [Act.put, qGa, qGb, qGc, qSa, qSb, qSc]
      refine wpAnyH_take (i := 1) (v := ?va1) rfl (by kernel_rfl) (by kernel_rfl) (by kernel_rfl) (fun _ _ _ h => h) (Or.inl ⟨by rfl, ?hya1⟩) (by assumption) ?ra1
      case hya1 => (intro w hSw; (try dsimp only at hSw); go_simp; try with_reducible rfl)
      try simp only [Act.put, qGa, qGb, qGc, qSa, qSb, qSc]
      refine wpAnyH_take (i := 2) (v := ?va2) rfl (by kernel_rfl) (by kernel_rfl) (by kernel_rfl) (fun _ _ _ h => h) (Or.inl ⟨by rfl, ?hya2⟩) (by assumption) ?ra2
      case hya2 => (intro w hSw; (try dsimp only at hSw); go_simp; try with_reducible rfl)
      try simp only [Act.put, qGa, qGb, qGc, qSa, qSb, qSc]
      refine wpAnyH_take (i := 3) (v := ?va3) rfl (by kernel_rfl) (by kernel_rfl) (by kernel_rfl) (fun _ _ _ h => h) (Or.inl ⟨by rfl, ?hya3⟩) (by assumption) ?ra3
      case hya3 => (intro w hSw; (try dsimp only at hSw); go_simp; try with_reducible rfl)
      try simp only [Act.put, qGa, qGb, qGc, qSa, qSb, qSc]
      refine wpAnyH_take (i := 4) (v := ?va4) rfl (by kernel_rfl) (by kernel_rfl) (by kernel_rfl) (fun _ _ _ h => h) (Or.inl ⟨by rfl, ?hya4⟩) (by assumption) ?ra4
      case hya4 => (intro w hSw; (try dsimp only at hSw); go_simp; try with_reducible rfl)
      try simp only [Act.put, qGa, qGb, qGc, qSa, qSb, qSc]
      refine wpAnyH_take (i := 5) (v := ?va5) rfl (by kernel_rfl) (by kernel_rfl) (by kernel_rfl) (fun _ _ _ h => h) (Or.inl ⟨by rfl, ?hya5⟩) (by assumption) ?ra5
      case hya5 => (intro w hSw; (try dsimp only at hSw); go_simp; try with_reducible rfl)
      try simp only [Act.put, qGa, qGb, qGc, qSa, qSb, qSc]
      refine wpAnyH_take (i := 6) (v := ?va6) rfl (by kernel_rfl) (by kernel_rfl) (by kernel_rfl) (fun _ _ _ h => h) (Or.inl ⟨by rfl, ?hya6⟩) (by assumption) ?ra6
      case hya6 => (intro w hSw; (try dsimp only at hSw); go_simp; try with_reducible rfl)
      try simp only [Act.put, qGa, qGb, qGc, qSa, qSb, qSc]
      refine wpAnyH_take (i := 7) (v := ?va7) rfl (by kernel_rfl) (by kernel_rfl) (by kernel_rfl) (fun _ _ _ h => h) (Or.inl ⟨by rfl, ?hya7⟩) (by assumption) ?ra7
      case hya7 => (intro w hSw; (try dsimp only at hSw); go_simp; try with_reducible rfl)
      try simp only [Act.put, qGa, qGb, qGc, qSa, qSb, qSc]
      refine wpAnyH_take (i := 8) (v := ?va8) rfl (by kernel_rfl) (by kernel_rfl) (by kernel_rfl) (fun _ _ _ h => h) (Or.inl ⟨by rfl, ?hya8⟩) (by assumption) ?ra8
      case hya8 => (intro w hSw; (try dsimp only at hSw); go_simp; try with_reducible rfl)
      try simp only [Act.put, qGa, qGb, qGc, qSa, qSb, qSc]
      refine wpAnyH_take (i := 9) (v := ?va9) rfl (by kernel_rfl) (by kernel_rfl) (by kernel_rfl) (fun _ _ _ h => h) (Or.inl ⟨by rfl, ?hya9⟩) (by assumption) ?ra9
      case hya9 => (intro w hSw; (try dsimp only at hSw); go_simp; try with_reducible rfl)
      try simp only [Act.put, qGa, qGb, qGc, qSa, qSb, qSc]
      refine wpAnyH_take (i := 10) (v := ?va10) rfl (by kernel_rfl) (by kernel_rfl) (by kernel_rfl) (fun _ _ _ h => h) (Or.inl ⟨by rfl, ?hya10⟩) (by assumption) ?ra10
      case hya10 => (intro w hSw; (try dsimp only at hSw); go_simp; try with_reducible rfl)
      try simp only [Act.put, qGa, qGb, qGc, qSa, qSb, qSc]
      refine wpAnyH_take (i := 11) (v := ?va11) rfl (by kernel_rfl) (by kernel_rfl) (by kernel_rfl) (fun _ _ _ h => h) (Or.inl ⟨by rfl, ?hya11⟩) (by assumption) ?ra11
      case hya11 => (intro w hSw; (try dsimp only at hSw); go_simp; try with_reducible rfl)
      try simp only [Act.put, qGa, qGb, qGc, qSa, qSb, qSc]
      refine wpAnyH_take (i := 12) (v := ?va12) rfl (by kernel_rfl) (by kernel_rfl) (by kernel_rfl) (fun _ _ _ h => h) (Or.inl ⟨by rfl, ?hya12⟩) (by assumption) ?ra12
      case hya12 => (intro w hSw; (try dsimp only at hSw); go_simp; try with_reducible rfl)
      try simp only [Act.put, qGa, qGb, qGc, qSa, qSb, qSc]
      refine wpAnyH_take (i := 14) (v := ?va14) rfl (by kernel_rfl) (by kernel_rfl) (by kernel_rfl) (fun _ _ _ h => h) (Or.inl ⟨by rfl, ?hya14⟩) (by assumption) ?ra14
      case hya14 => (intro w hSw; (try dsimp only at hSw); go_simp; try with_reducible rfl)
      try simp only [Act.put, qGa, qGb, qGc, qSa, qSb, qSc]
      refine wpAnyH_take (i := 15) (v := ?va15) rfl (by kernel_rfl) (by kernel_rfl) (by kernel_rfl) (fun _ _ _ h => h) (Or.inl ⟨by rfl, ?hya15⟩) (by assumption) ?ra15
      case hya15 => (intro w hSw; (try dsimp only at hSw); go_simp; try with_reducible rfl)
      try simp only [Act.put, qGa, qGb, qGc, qSa, qSb, qSc]
      refine wpAnyH_take (i := 16) (v := ?va16) rfl (by kernel_rfl) (by kernel_rfl) (by kernel_rfl) (fun _ _ _ h => h) (Or.inl ⟨by rfl, ?hya16⟩) (by assumption) ?ra16
      case hya16 => (intro w hSw; (try dsimp only at hSw); go_simp; try with_reducible rfl)
      try simp only [Act.put, qGa, qGb, qGc, qSa, qSb, qSc]
      refine wpAnyH_take (i := 17) (v := ?va17) rfl (by kernel_rfl) (by kernel_rfl) (by kernel_rfl) (fun _ _ _ h => h) (Or.inl ⟨by rfl, ?hya17⟩) (by assumption) ?ra17
      case hya17 => (intro w hSw; (try dsimp only at hSw); go_simp; try with_reducible rfl)
      try simp only [Act.put, qGa, qGb, qGc, qSa, qSb, qSc]
      refine wpAnyH_take (i := 18) (v := ?va18) rfl (by kernel_rfl) (by kernel_rfl) (by kernel_rfl) (fun _ _ _ h => h) (Or.inl ⟨by rfl, ?hya18⟩) (by assumption) ?ra18
      case hya18 => (intro w hSw; (try dsimp only at hSw); go_simp; try with_reducible rfl)
      try simp only [Act.put, qGa, qGb, qGc, qSa, qSb, qSc]
      refine wpAnyH_ready (rs := [13]) (by kernel_rfl) (by simp) ?_
      refine AllReadyH.cons rfl (fun Kb hKb => ?_) AllReadyH.nil
      go_simp
      refine hKb.out _ _ ⟨c0, c3⟩ (fun hHeld => ?_)
      clear hKb Kb
      try simp only [Act.put, qGa, qGb, qGc, qSa, qSb, qSc]
      refine wpAnyH_ready (rs := [19]) (by kernel_rfl) (by simp) ?_
      refine AllReadyH.cons rfl (fun Kc hKc => ?_) AllReadyH.nil
      go_simp
      refine (hM _).mono ?_
      rintro e w' ⟨rfl, rfl⟩
      go_wp2_with fail
      refine hKc.out _ _ ⟨c0, c3⟩ (fun hHeld => ?_)
      clear hKc Kc
      try simp only [Act.put, qGa, qGb, qGc, qSa, qSb, qSc]
      refine wpAnyH_take (i := 20) (v := ?va20) rfl (by kernel_rfl) (by kernel_rfl) (by kernel_rfl) (fun _ _ _ h => h) (Or.inl ⟨by rfl, ?hya20⟩) (by assumption) ?ra20
      case hya20 => (intro w hSw; (try dsimp only at hSw); go_simp; try with_reducible rfl)
      try simp only [Act.put, qGa, qGb, qGc, qSa, qSb, qSc]
      refine wpAnyH_ready (rs := [21]) (by kernel_rfl) (by simp) ?_
      refine AllReadyH.cons rfl (fun Kd hKd => ?_) AllReadyH.nil
      go_simp
      refine hKd.out _ _ hS2 (fun hHeld => ?_)
      clear hKd Kd
      try simp only [Act.put, qGa, qGb, qGc, qSa, qSb, qSc]
      refine wpAnyH_done (by kernel_rfl) ?_ _
      go_wp2
      go_roundw
      case rel => exact ⟨i + 1, by omega, by go_num, HST.out, HBel.out⟩
      case measure => simp [intOf]; omega
    · have ei : i = n := by omega
      subst ei
      rw [List.take_of_length_le (by have := HX.out; omega)] at hown
      go_wp2
      go_ret
      exact ⟨_, rfl, hown, hbel⟩
theorem vecOf_no {es : List Ent} (h : bookOk es = false) : vecOf es = [] := by rw [vecOf, h]; rfl
theorem vecOf_yes {es : List Ent} (h : bookOk es = true) : vecOf es = vec es := by rw [vecOf, if_pos h]
theorem vecOf_i64 (es : List Ent) : AllI64 (vecOf es) := by
  unfold vecOf
  split
  · rename_i h
    refine vec_i64 (fun x hx => ?_)
    obtain ⟨i, hi, rfl⟩ := List.mem_iff_getElem.1 hx
    have := (book_right h i hi).1
    rwa [E_get hi] at this
  · intro x hx; cases hx
end Go.Proofs.YtccoljbnddfmpaaGreatDoor

namespace Go.Proofs.YtccoljbnddfmpaaGreatDoor
open Go.RowKit
def acksOk (rows : List (List Int)) : Bool := rows.all vecOk && rows.length == 4
theorem acks_stop {rows : List (List Int)} {k : Nat} (h : k < rows.length) (hf : vecOk (RW rows k) = false) : acksOk rows = false := by
  have : rows.all vecOk = false := by
    rw [List.all_eq_false]
    exact ⟨RW rows k, by rw [RW_get h]; exact List.getElem_mem _, by rw [hf]; simp⟩
  simp [acksOk, this]
theorem acks_end {rows : List (List Int)} (h : ∀ j, j < rows.length → vecOk (RW rows j) = true) : acksOk rows = (rows.length == 4) := by
  have : rows.all vecOk = true := by
    rw [List.all_eq_true]
    intro r hr
    obtain ⟨i, hi, rfl⟩ := List.mem_iff_getElem.1 hr
    have := h i hi
    rwa [RW_get hi] at this
  simp [acksOk, this]
theorem acks_parts {rows : List (List Int)} (h : acksOk rows = true) : rows.length = 4 ∧ ∀ j, j < 4 → vecOk (RW rows j) = true := by
  simp only [acksOk, Bool.and_eq_true, List.all_eq_true, beq_iff_eq] at h
  refine ⟨h.2, fun j hj => ?_⟩
  rw [RW_get (by omega)]
  exact h.1 _ (List.getElem_mem _)
def nodeOk (me : Int) (book : List Ent) (acks : List (List Int)) : Bool := inB me 0 3 && soundE book && acksOk acks
set_option maxHeartbeats 1000000 in
set_option maxRecDepth 100000 in
theorem l15Acks_any (B : Nat) (ao : Option Addr) (n cap : Nat) (rows : List (List Int)) (w : World) (hx : Rws B w ao n cap rows) :
    Calls Tryz.prog 116 #[.slice ao n cap] w (fun e w' => e = .returned (.bool (acksOk rows)) ∧ w' = w) := by
  have hx0 := hx.hlen; have hx1 := hx.hcap; have hx2 := hx.hmax
  unfold maxLen at hx2
  subst hx0
  obtain ⟨r, hr⟩ : ∃ r, acksOk rows = r := ⟨_, rfl⟩
  have HR := Lib.hid hr
  rw [hr]
  clear hr
  go_enter Tryz.func116, Tryz.ntmps116
  go_wp2
  go_loopw [3] (fun s3 wr => ∃ k : Nat, k ≤ rows.length ∧ s3 = .int .i64 k ∧ Hid (∀ j, j < k → vecOk (RW rows j) = true) ∧ wr = w) (fun s3 _ => rows.length - (intOf s3).toNat)
  case atStart => exact ⟨0, Nat.zero_le _, rfl, Lib.hid (fun j hj => absurd hj (by omega)), rfl⟩
  case round =>
    obtain ⟨k, hk, rfl, hall, rfl⟩ := hrel
    by_cases hlt : k < rows.length
    · obtain ⟨b, off, rfl, hb, hc⟩ := hx.at k hlt
      obtain ⟨a, m, c, c0, hi, -⟩ := hc k hlt
      clear hc
      have hv := specVecOk_any B a m c (RW rows k) wr hi
      have hstop : vecOk (RW rows k) = false → r = false := fun h => by rw [← HR.out]; exact acks_stop hlt h
      have hgo : vecOk (RW rows k) = true → ∀ j, j < k + 1 → vecOk (RW rows j) = true := fun h j hj => by
        by_cases e : j = k
        · subst e; exact h
        · exact hall.out j (by omega)
      generalize vecOk (RW rows k) = v at hv hstop hgo
      have HS := Lib.hid hstop; have HG := Lib.hid hgo; clear hstop hgo
      have i0 : (0 : Int) ≤ k := by omega
      have i1 : (k : Int) < rows.length := by omega
      go_wp2_with fail
      refine hv.mono ?_
      rintro e w2 ⟨rfl, rfl⟩
      rcases v with _ | _
      · have hrf := HS.out rfl
        subst hrf
        clear HS HG
        go_wp2
        go_ret
        exact ⟨rfl, rfl⟩
      · have hn := Lib.hid (HG.out rfl)
        clear HS HG hv
        go_wp2
        go_roundw
        case rel => exact ⟨k + 1, by omega, by go_num, hn, by first | rfl | trivial⟩
        case measure => simp [intOf]; omega
    · have ek : k = rows.length := by omega
      subst ek
      have hre : r = (rows.length == 4) := by rw [← HR.out]; exact acks_end hall.out
      have hre' : r = ((rows.length : Int) == 4) := by
        rw [hre, Bool.eq_iff_iff]
        simp only [beq_iff_eq]
        omega
      have HRE := Lib.hid hre'; clear hre hre'
      go_wp2
      go_ret
      exact ⟨ret_bool HRE.out.symm, rfl⟩
theorem node_no1 {me : Int} {book : List Ent} {acks : List (List Int)} (h : inB me 0 3 = false) : nodeOk me book acks = false := by simp [nodeOk, h]
theorem node_no2 {me : Int} {book : List Ent} {acks : List (List Int)} (h : soundE book = false) : nodeOk me book acks = false := by simp [nodeOk, h]
theorem node_at {me : Int} {book : List Ent} {acks : List (List Int)} (h : inB me 0 3 = true) (h2 : soundE book = true) : nodeOk me book acks = acksOk acks := by simp [nodeOk, h, h2]
set_option maxHeartbeats 1000000 in
set_option maxRecDepth 100000 in
theorem specNodeOk_any (B : Nat) (me : Int) (ab : Option Addr) (nb cb : Nat) (book : List Ent) (aa : Option Addr) (na ca : Nat) (acks : List (List Int)) (w : World) (hx : Ents B w ab nb cb book) (ha : Rws B w aa na ca acks) (hB : B ≤ w.heap.size) :
    Calls Tryz.prog 101 #[.agg #[.int .i64 me, .slice ab nb cb, .slice aa na ca]] w (Says (.bool (nodeOk me book acks)) w) := by
  obtain ⟨wb, hwb⟩ : ∃ wb, wb = w.alloc (.cells #[.int .i64 me, .slice ab nb cb, .slice aa na ca] 55) := ⟨_, rfl⟩
  obtain ⟨g, hg⟩ : ∃ g, g = w.heap.size := ⟨_, rfl⟩
  have hblk : Blk wb g 55 #[.int .i64 me, .slice ab nb cb, .slice aa na ca] := by rw [hwb, hg]; exact Blk.new _ _ _
  have hb0 : Below w.heap.size w wb := by rw [hwb]; exact (Below.refl _ _).alloc (Nat.le_refl _) _
  have hs0 := hb0.size
  have h1 := fun w => l3Node_any me w
  have h2 := specSound_any B ab nb cb book wb (hx.below hb0 hB (Nat.le_refl B)) (by omega)
  have h3 := fun w' (h : Below w.heap.size w w') => l15Acks_any B aa na ca acks w' (ha.below h hB (Nat.le_refl B))
  obtain ⟨r, hr⟩ : ∃ r, nodeOk me book acks = r := ⟨_, rfl⟩
  have e1 : inB me 0 3 = false → r = false := fun h => by rw [← hr]; exact node_no1 h
  have e2 : soundE book = false → r = false := fun h => by rw [← hr]; exact node_no2 h
  have e3 : inB me 0 3 = true → soundE book = true → r = acksOk acks := fun h h2 => by rw [← hr]; exact node_at h h2
  rw [hr]
  clear hr
  generalize inB me 0 3 = b1 at h1 e1 e3
  generalize soundE book = b2 at h2 e2 e3
  generalize acksOk acks = b3 at h3 e3
  have E1 := Lib.hid e1; have E2 := Lib.hid e2; have E3 := Lib.hid e3; have H3 := Lib.hid h3
  clear e1 e2 e3 h3 hx ha
  have d0 := hblk.cell 0; have d1 := hblk.cell 1; have d2 := hblk.cell 2
  go_enter Tryz.func101, Tryz.ntmps101
  go_upto_region 1 with fail
  rw [← hwb, ← hg]
  clear hwb hg
  go_wp2_with fail
  refine (h1 _).mono ?_
  rintro e w1 ⟨rfl, rfl⟩
  rcases b1 with _ | _
  · have hr := E1.out (by first | rfl | trivial)
    subst hr
    clear E1 E2 E3
    go_wp2_with fail
    go_ret
    exact ⟨rfl, hb0⟩
  · go_wp2_with fail
    refine h2.mono ?_
    rintro e w2 ⟨rfl, hb2⟩
    have hB2 := hb0.trans (hb2.mono hs0)
    rcases b2 with _ | _
    · have hr := E2.out (by first | rfl | trivial)
      subst hr
      clear E1 E2 E3
      go_wp2_with fail
      go_ret
      exact ⟨rfl, hB2⟩
    · have hr := E3.out (by first | rfl | trivial) (by first | rfl | trivial)
      subst hr
      have hk2 := hblk.below hb2 hblk.lt
      clear d0 d1 d2 E1 E2 E3
      have d0 := hk2.cell 0; have d1 := hk2.cell 1; have d2 := hk2.cell 2
      go_wp2_with fail
      refine (H3.out _ hB2).mono ?_
      rintro e w3 ⟨rfl, rfl⟩
      go_wp2_with fail
      go_ret
      exact ⟨rfl, hB2⟩
def NewRows (rows : List (List Int)) (w : World) (e : Ending) (w' : World) : Prop := ∃ v, e = .returned v ∧ OwnRows w.heap.size w' v rows ∧ Below w.heap.size w w'
def zero4 : List Int := [0, 0, 0, 0]
def zeros : List (List Int) := [zero4, zero4, zero4, zero4]
set_option maxHeartbeats 1000000 in
set_option maxRecDepth 100000 in
theorem l15Zeros_any (w : World) :
    Calls Tryz.prog 97 #[] w (NewRows zeros w) := by
  have hzw : AllI64 zero4 := fun x hx => by simp [zero4] at hx; subst hx; exact ⟨by decide, by decide⟩
  have ho0 := ownRows_empty w
  have hb0 : Below w.heap.size w (w.alloc (.cells #[] 104)) := (Below.refl _ _).alloc (Nat.le_refl _) _
  have HZ : Hid (∀ w, Calls Tryz.prog 95 #[] w (NewInts zero4 w)) := Lib.hid (fun w => (l5Zero_any w).mono fun e w' ⟨h1, h2, h3⟩ => ⟨_, h1, h2, h3⟩)
  have HW := Lib.hid hzw; clear hzw
  go_enter Tryz.func97, Tryz.ntmps97
  go_wp2
  go_loopw [1, 2] (fun s1 s2 wr => ∃ k : Nat, k ≤ 4 ∧ s2 = .int .i64 k ∧ OwnRows w.heap.size wr s1 (zeros.take k) ∧ Below w.heap.size w wr) (fun _ s2 _ => 4 - (intOf s2).toNat)
  case atStart => exact ⟨0, by omega, rfl, ho0, hb0⟩
  case round =>
    obtain ⟨k, hk, rfl, hown, hbel⟩ := hrel
    have hsz := hbel.size
    by_cases hlt : k < 4
    · have hst : zeros.take (k + 1) = zeros.take k ++ [zero4] := by
        have h : k = 0 ∨ k = 1 ∨ k = 2 ∨ k = 3 := by omega
        rcases h with rfl | rfl | rfl | rfl <;> rfl
      have hkl : (zeros.take k).length ≤ 1099511627776 := by rw [List.length_take]; omega
      have HST := Lib.hid hst; clear hst
      generalize zeros.take k = rows at hown HST hkl
      have hzc := HZ.out wr
      have hzw := HW.out
      generalize zero4 = z at hzc hzw HST
      have i1 : (k : Int) < 4 := by omega
      go_wp2_with fail
      refine hzc.mono ?_
      rintro e w2 ⟨v2, rfl, hn2, hb2⟩
      have hB2 := hbel.trans (hb2.mono hsz)
      have ho2 := hown.below hb2 (Nat.le_refl _)
      have hs2 := hB2.size
      have hn2k := hn2
      obtain ⟨a2, c2, rfl, -⟩ := hn2.ints hzw
      go_wp2_with (at_builtin; refine appendR_one (.slice a2 z.length c2) z rfl _ _ rfl w.heap.size _ rows rfl rfl ho2 (hn2k.mono hsz) hzw hs2 hkl ?_; intro v' w' hown' hb')
      go_roundw
      case rel => exact ⟨k + 1, by omega, by go_num, by rw [HST.out]; exact hown', hB2.trans hb'⟩
      case measure => simp [intOf]; omega
    · have ek : k = 4 := by omega
      subst ek
      go_wp2
      go_ret
      exact ⟨_, rfl, hown, hbel⟩
end Go.Proofs.YtccoljbnddfmpaaGreatDoor

namespace Go.Proofs.YtccoljbnddfmpaaGreatDoor
open Go.RowKit
theorem dropE' {es : List Ent} {k : Nat} (h : k < es.length) : es.drop k = E es k :: es.drop (k + 1) := by
  rw [List.drop_eq_getElem_cons h, E_get h]
theorem takeE {es : List Ent} {k : Nat} (h : k < es.length) : es.take (k + 1) = es.take k ++ [E es k] := by
  rw [List.take_succ_eq_append_getElem h, E_get h]
def NewEs (es : List Ent) (w : World) (e : Ending) (w' : World) : Prop := ∃ v, e = .returned v ∧ OwnE w.heap.size w' v es ∧ Below w.heap.size w w'
theorem book_wf {es : List Ent} (h : bookOk es = true) : AllE es := by
  intro e he
  obtain ⟨i, hi, rfl⟩ := List.mem_iff_getElem.1 he
  have h1 := Ent.ok_all (book_right h i hi).1
  rw [E_get hi] at h1
  unfold Ent.wf I64
  omega
def MaybeEs (o : Option (List Ent)) (w : World) (e : Ending) (w' : World) : Prop := ∃ v, e = .returned (.tuple #[v, .bool o.isSome]) ∧ OwnE w.heap.size w' v (o.getD []) ∧ Below w.heap.size w w'
theorem maybe_none {o : Option (List Ent)} {w w1 : World} (h : o = none) (hb : Below w.heap.size w w1) : MaybeEs o w (.returned (.tuple #[.slice (some ⟨w1.heap.size, 0, none⟩) 0 0, .bool false])) (w1.alloc (.cells #[] 47)) := by
  subst h
  exact ⟨_, rfl, (ownE_empty w1).mono hb.size, hb.alloc hb.size _⟩
theorem OwnE.keeps {base g : Nat} {w w' : World} {v : Value} {xs : List Ent} (h : OwnE base w v xs) (hb : Keeps g w w') (hg : g < base) : OwnE base w' v xs := by
  refine World.ownsRow.kept h hb ?_
  cases hv : v.ownBlock with
  | none => exact .inl rfl
  | some k =>
    right
    intro e
    have h1 := (World.ownsRow.lt h k hv).1
    have h2 : k = g := Option.some.inj e
    omega
end Go.Proofs.YtccoljbnddfmpaaGreatDoor

namespace Go.Proofs.YtccoljbnddfmpaaGreatDoor
open Go.RowKit
set_option maxHeartbeats 1000000 in
set_option maxRecDepth 100000 in
theorem l4Copy_any (B : Nat) (ao : Option Addr) (n cap : Nat) (es : List Ent) (w : World) (hx : Ents B w ao n cap es) (hz : ao = none → cap = 0) (hB : B ≤ w.heap.size) (hn : n ≤ 1099511627776) :
    Calls Tryz.prog 56 #[.slice ao n cap] w (NewEs es w) := by
  have hb0 : Below w.heap.size w (w.alloc (.cells #[] 47)) := (Below.refl _ _).alloc (Nat.le_refl _) _
  have hx1 := hx.below hb0 hB (Nat.le_refl B)
  have hs0 := hb0.size
  have ho0 := ownE_empty w
  go_enter Tryz.func56, Tryz.ntmps56
  go_wp2_with (at_builtin; refine appendE_all rfl _ _ rfl w.heap.size B _ [] es ao n cap rfl rfl hx1 hz ho0 hs0 (by simpa using hn) ?_; intro v1 w1 hown1 hb1)
  go_ret
  exact ⟨_, rfl, by simpa using hown1, hb0.trans hb1⟩
end Go.Proofs.YtccoljbnddfmpaaGreatDoor
