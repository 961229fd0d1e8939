/- FnExactDone: for all arguments the call returns true, they and the package-level errors read afterwards as before; condition: the package-level errors, and errors' type of errors, hold what the program's own initialisers lay (tied to the program's text by the card). -/
import Derived.Test.YtccaakgfhclebaaDoorPk1
import Derived.Test.YtccaakgfhclebaaDoorPk2
import Derived.Test.YtccaakgfhclebaaDoorPk3
import Derived.Test.YtccaakgfhclebaaDoorPk10
import Derived.Lib.SmallJoins
import Derived.Deep.RegionHeld3
import Derived.Test.YtccaakgfhclebaaDoorTie
import Derived.LaidLaws
import Derived.LaidHandle
import Derived.LaidMore
import Derived.Stop.LaidTwo
import Derived.Stop.Joined
import Derived.Test.YtccaakgfhclebaaDoorCards
import Derived.SevenTiedAt

/-
  impl.Done, spec.Done.
-/
namespace Go.Proofs.YtccaakgfhclebaaDoor
open Go.RowKit

/-- What Done answers, of any book and any deed. -/
def doneF (es : List Ent) (k nd t m : Int) : List Ent × Int := if bookOk es = true ∧ deedOk k nd t m = true then doneR es k nd t m else ([], 3)

theorem doneF_bad {es : List Ent} {k nd t m : Int} (h : bookOk es = false ∨ deedOk k nd t m = false) : doneF es k nd t m = ([], 3) := by
  rw [doneF, if_neg]
  rintro ⟨h1, h2⟩
  rcases h with h | h
  · rw [h] at h1; cases h1
  · rw [h] at h2; cases h2
theorem doneF_good {es : List Ent} {k nd t m : Int} (h1 : bookOk es = true) (h2 : deedOk k nd t m = true) : doneF es k nd t m = doneR es k nd t m := by rw [doneF, if_pos ⟨h1, h2⟩]

theorem doneF_code {es : List Ent} {k nd t m : Int} :
    (doneCode es k nd t m = 0 → doneF es k nd t m = (putE es (deedEnt es k nd t m), 0)) ∧ (doneCode es k nd t m = 1 ∨ doneCode es k nd t m = 2 → doneF es k nd t m = (es, doneCode es k nd t m) ∧ bookOk es = true) ∧ (doneCode es k nd t m = 3 → doneF es k nd t m = ([], 3)) := by
  refine ⟨fun h => ?_, fun h => ?_, fun h => ?_⟩
  · obtain ⟨h1, -, h2, h3⟩ := code_zero h
    rw [doneF_good h1 h2, h3]
  · cases hb : bookOk es with
    | false => rw [code_bad (.inl hb)] at h; omega
    | true =>
      cases hd : deedOk k nd t m with
      | false => rw [code_bad (.inr hd)] at h; omega
      | true =>
        refine ⟨?_, rfl⟩
        rw [code_good hb hd] at h ⊢
        rw [doneF_good hb hd]
        unfold doneR at h ⊢
        split
        · rfl
        · rename_i h1
          rw [if_neg h1] at h
          split
          · rename_i h2
            rw [if_pos h2] at h
            simp at h
          · rfl
  · cases hb : bookOk es with
    | false => exact doneF_bad (.inl hb)
    | true =>
      cases hd : deedOk k nd t m with
      | false => exact doneF_bad (.inr hd)
      | true =>
        exfalso
        rw [code_good hb hd] at h
        unfold doneR at h
        split at h
        · simp at h
        · split at h <;> simp at h

set_option maxHeartbeats 2000000 in
set_option maxRecDepth 100000 in
theorem implDone_any (B : Nat) (ao : Option Addr) (n cap : Nat) (es : List Ent) (k nd t m : Int) (a0 a1 : Addr) (w : World) (hx : Ents B w ao n cap es) (hz : ao = none → cap = 0) (hB : B ≤ w.heap.size) (hE : Errs w a0 a1) :
    Calls Tryd.prog 8 #[.slice ao n cap, .agg #[.int .i64 k, .int .i64 nd, .int .i64 t, .int .i64 m]] w (NewEsN (doneF es k nd t m) w) := by
  obtain ⟨wb, hwb⟩ : ∃ wb, wb = w.alloc (.cells #[.int .i64 k, .int .i64 nd, .int .i64 t, .int .i64 m] 30) := ⟨_, rfl⟩
  have hb0 : Below w.heap.size w wb := by rw [hwb]; exact (Below.refl _ _).alloc (Nat.le_refl _) _
  have hs0 := hb0.size
  have hk0 : Blk wb w.heap.size 30 #[.int .i64 k, .int .i64 nd, .int .i64 t, .int .i64 m] := by rw [hwb]; exact Blk.new _ _ _
  have h1 := tried_any B ao n cap es k nd t m a0 a1 wb (hx.below hb0 hB (Nat.le_refl B)) hz (by omega) (hE.below hb0 (Nat.le_refl _))
  obtain ⟨hc0, hc12, hc3⟩ := doneF_code (es := es) (k := k) (nd := nd) (t := t) (m := m)
  obtain ⟨r, hr⟩ : ∃ r, doneF es k nd t m = r := ⟨_, rfl⟩
  rw [hr] at hc0 hc12 hc3
  obtain ⟨c, hc⟩ : ∃ c, doneCode es k nd t m = c := ⟨_, rfl⟩
  rw [hc] at hc0 hc12 hc3 h1
  rw [hr]
  clear hr hc
  have HC0 := Lib.hid hc0; have HC12 := Lib.hid hc12; have HC3 := Lib.hid hc3; clear hc0 hc12 hc3
  generalize putE es (deedEnt es k nd t m) = pe at h1 HC0
  have d0 := hk0.cell 0; have d1 := hk0.cell 1; have d2 := hk0.cell 2; have d3 := hk0.cell 3
  go_enter Tryd.func8, Tryd.ntmps8
  go_upto_region 1 with fail
  rw [← hwb]
  clear hwb hk0
  go_wp2_with fail
  refine h1.mono ?_
  rintro e w1 ⟨v, err, rfl, hb1, hcase⟩
  have hB1 := hb0.trans (hb1.mono hs0)
  have hs1 := hB1.size
  have hE1 := hE.below hB1 (Nat.le_refl _)
  clear d0 d1 d2 d3 h1
  rcases hcase with ⟨rfl, rfl, hown⟩ | ⟨rfl, why, hwhy, rfl⟩
  · have hr := Lib.hid (HC0.out rfl)
    have h2 := codeOf_nil w1
    go_wp2_with fail
    refine h2.mono ?_
    rintro e w2 ⟨rfl, hb2⟩
    go_wp2_with fail
    go_ret2
    rw [hr.out]
    exact ⟨_, rfl, (hown.below hb2 (Nat.le_refl _)).mono (by omega), hB1.trans (hb2.mono hs1)⟩
  · have h2 := codeOf_why a0 a1 k nd t m c why w1 hE1 hwhy
    have hcc : c = 1 ∨ c = 2 ∨ c = 3 := by
      rcases hwhy with ⟨h, -⟩ | ⟨h, -⟩ | ⟨h, -⟩ <;> omega
    clear hwhy hE1
    have hcl := fun w' (hb : Below w.heap.size w w') (hn : n ≤ 1099511627776) => cloneE_any B ao n cap es w' (hx.below hb hB (Nat.le_refl B)) hz (by have := hb.size; omega) hn
    have HCL := Lib.hid hcl; clear hcl
    have hlen := hx.hlen
    rcases hcc with rfl | rfl | rfl
    · obtain ⟨hr, hbk⟩ := HC12.out (.inl rfl)
      have hn20 : n ≤ 20 := by have := book_len hbk; omega
      have HR := Lib.hid hr; clear hr hbk hlen
      go_wp2_with fail
      refine h2.mono ?_
      rintro e w2 ⟨rfl, hb2⟩
      have hB2 := hB1.trans (hb2.mono hs1)
      go_wp2_with fail
      refine (HCL.out _ hB2 (by omega)).mono ?_
      rintro e w3 ⟨v3, rfl, hown, hb3⟩
      go_wp2_with fail
      go_ret2
      rw [HR.out]
      exact ⟨_, rfl, hown.mono hB2.size, hB2.trans (hb3.mono hB2.size)⟩
    · obtain ⟨hr, hbk⟩ := HC12.out (.inr rfl)
      have hn20 : n ≤ 20 := by have := book_len hbk; omega
      have HR := Lib.hid hr; clear hr hbk hlen
      go_wp2_with fail
      refine h2.mono ?_
      rintro e w2 ⟨rfl, hb2⟩
      have hB2 := hB1.trans (hb2.mono hs1)
      go_wp2_with fail
      refine (HCL.out _ hB2 (by omega)).mono ?_
      rintro e w3 ⟨v3, rfl, hown, hb3⟩
      go_wp2_with fail
      go_ret2
      rw [HR.out]
      exact ⟨_, rfl, hown.mono hB2.size, hB2.trans (hb3.mono hB2.size)⟩
    · have HR := Lib.hid (HC3.out rfl)
      go_wp2_with fail
      refine h2.mono ?_
      rintro e w2 ⟨rfl, hb2⟩
      have hB2 := hB1.trans (hb2.mono hs1)
      go_wp2_with fail
      go_ret2
      rw [HR.out]
      exact ⟨_, rfl, ownE_nil _ _, hB2⟩

set_option maxHeartbeats 2000000 in
set_option maxRecDepth 100000 in
theorem specDone_any (B : Nat) (ao : Option Addr) (n cap : Nat) (es : List Ent) (k nd t m : Int) (w : World) (hx : Ents B w ao n cap es) (hz : ao = none → cap = 0) (hB : B ≤ w.heap.size) :
    Calls Tryd.prog 5 #[.slice ao n cap, .agg #[.int .i64 k, .int .i64 nd, .int .i64 t, .int .i64 m]] w (NewEsN (doneF es k nd t m) w) := by
  obtain ⟨wb, hwb⟩ : ∃ wb, wb = w.alloc (.cells #[.int .i64 k, .int .i64 nd, .int .i64 t, .int .i64 m] 30) := ⟨_, rfl⟩
  have hb0 : Below w.heap.size w wb := by rw [hwb]; exact (Below.refl _ _).alloc (Nat.le_refl _) _
  have hs0 := hb0.size
  have hk0 : Blk wb w.heap.size 30 #[.int .i64 k, .int .i64 nd, .int .i64 t, .int .i64 m] := by rw [hwb]; exact Blk.new _ _ _
  have hlt0 := hk0.lt
  have h1 := specBookOk_any B ao n cap es wb (hx.below hb0 hB (Nat.le_refl B)) (by omega)
  have h2 := fun w => specDeedOk_any k nd t m w
  have h3 := fun w' (hb : Below w.heap.size w w') => l8Done_any B ao n cap es k nd t m w' (hx.below hb hB (Nat.le_refl B)) hz (by have := hb.size; omega)
  have hbad : bookOk es = false ∨ deedOk k nd t m = false → doneF es k nd t m = ([], 3) := doneF_bad
  have hgood : bookOk es = true → deedOk k nd t m = true → doneF es k nd t m = doneR es k nd t m := doneF_good
  generalize doneF es k nd t m = r at hbad hgood
  generalize doneR es k nd t m = rr at hgood h3
  generalize bookOk es = b1 at h1 h3 hbad hgood
  generalize deedOk k nd t m = b2 at h2 h3 hbad hgood
  have HBAD := Lib.hid hbad; have HGOOD := Lib.hid hgood; have H3 := Lib.hid h3; clear hbad hgood h3
  have d0 := hk0.cell 0; have d1 := hk0.cell 1; have d2 := hk0.cell 2; have d3 := hk0.cell 3
  go_enter Tryd.func5, Tryd.ntmps5
  go_upto_region 1 with fail
  rw [← hwb]
  clear hwb
  rcases b1 with _ | _
  · have hr := Lib.hid (HBAD.out (.inl rfl))
    go_wp2_with fail
    refine h1.mono ?_
    rintro e w1 ⟨rfl, hb1⟩
    go_wp2_with fail
    go_ret2
    rw [hr.out]
    exact ⟨_, rfl, (ownE_empty _).mono (hb0.trans (hb1.mono hs0)).size, (hb0.trans (hb1.mono hs0)).alloc (hb0.trans (hb1.mono hs0)).size _⟩
  · go_wp2_with fail
    refine h1.mono ?_
    rintro e w1 ⟨rfl, hb1⟩
    have hB1 := hb0.trans (hb1.mono hs0)
    have hs1 := hB1.size
    have hk1 := hk0.below hb1 hlt0
    clear d0 d1 d2 d3 h1
    have d0 := hk1.cell 0; have d1 := hk1.cell 1; have d2 := hk1.cell 2; have d3 := hk1.cell 3
    go_wp2_with fail
    refine (h2 _).mono ?_
    rintro e w2 ⟨rfl, hb2⟩
    have hB2 := hB1.trans (hb2.mono hs1)
    have hs2 := hB2.size
    rcases b2 with _ | _
    · have hr := Lib.hid (HBAD.out (.inr rfl))
      clear H3
      go_wp2_with fail
      go_ret2
      rw [hr.out]
      exact ⟨_, rfl, (ownE_empty _).mono hs2, hB2.alloc hs2 _⟩
    · have hr := Lib.hid (HGOOD.out (by first | rfl | trivial) (by first | rfl | trivial))
      have hk2 := hk1.below hb2 hk1.lt
      clear d0 d1 d2 d3 h2
      have d0 := hk2.cell 0; have d1 := hk2.cell 1; have d2 := hk2.cell 2; have d3 := hk2.cell 3
      go_wp2_with fail
      refine (H3.out _ hB2 (by first | rfl | trivial) (by first | rfl | trivial)).mono ?_
      rintro e w3 ⟨v, rfl, hown, hb3⟩
      go_wp2_with fail
      go_ret2
      rw [hr.out]
      exact ⟨_, rfl, hown.mono hs2, hB2.trans (hb3.mono hs2)⟩

end Go.Proofs.YtccaakgfhclebaaDoor

/-
  laws.toDeed; a struct of four numbers that came in (open_deed).
-/
namespace Go.Proofs.YtccaakgfhclebaaDoor
open Go.RowKit

set_option maxHeartbeats 1000000 in
set_option maxRecDepth 100000 in
theorem toDeed_any (o s a d : Int) (w : World) :
    Calls Tryd.prog 7 #[.agg #[.int .i64 o, .int .i64 s, .int .i64 a, .int .i64 d]] w (Says (.agg #[.int .i64 o, .int .i64 s, .int .i64 a, .int .i64 d]) w) := by
  go_enter Tryd.func7, Tryd.ntmps7
  go_wp2
  refine bodyPost_ret (v := .agg #[.int .i64 o, .int .i64 s, .int .i64 a, .int .i64 d]) (by simp [results, Tryd.results7, go_sem]) rfl ?_
  exact ⟨rfl, (((Below.refl _ _).alloc (Nat.le_refl _) _).alloc (by simp) _).alloc (by simp; omega) _⟩

set_option maxRecDepth 100000 in
open Go.ChangeShapes Go.WideShapes Go.ChangeAt Go.Joins in
/-- A struct of four numbers that came in. -/
theorem open_deed {H : Type} {enc : TypeId × Value → H} {W : World} {v : Value} {d : DataW H} {p : List MemPlace}
    (hv : Value.okWide Tryd.prog W .any 0 24 v) (h : DataW.Trod enc Tryd.prog W 0 (fun _ => true) true 24 v d p) :
    ∃ o s a d : Int, v = .agg #[.int .i64 o, .int .i64 s, .int .i64 a, .int .i64 d] := by
  obtain ⟨c0, c1, c2, c3, y0, y1, y2, y3, m, rfl, rfl, rfl, h0, h1, h2, h3⟩ := open_agg4 Tryd.underlying24 (by kernel_rfl) (by kernel_rfl) hv h
  obtain ⟨o, e0, _, _⟩ := DataW.trod_int Tryd.underlying2 h0
  obtain ⟨s, e1, _, _⟩ := DataW.trod_int Tryd.underlying2 h1
  obtain ⟨a, e2, _, _⟩ := DataW.trod_int Tryd.underlying2 h2
  obtain ⟨d, e3, _, _⟩ := DataW.trod_int Tryd.underlying2 h3
  simp at e0 e1 e2 e3
  subst e0 e1 e2 e3
  exact ⟨_, _, _, _, rfl⟩

end Go.Proofs.YtccaakgfhclebaaDoor

/- The law FnExactDone: for all arguments the call returns true, where the package-level errors are what their initialisers lay. -/
namespace Go.Proofs.YtccaakgfhclebaaDoor
open Go.RowKit

theorem doneF_wf {es : List Ent} {k nd t m : Int} (h : AllE es) : AllE (doneF es k nd t m).1 ∧ (doneF es k nd t m).1.length ≤ 21 := by
  obtain ⟨h0, h12, h3⟩ := doneF_code (es := es) (k := k) (nd := nd) (t := t) (m := m)
  have hc : doneCode es k nd t m = 0 ∨ doneCode es k nd t m = 1 ∨ doneCode es k nd t m = 2 ∨ doneCode es k nd t m = 3 := by
    unfold doneCode
    split
    · unfold doneR
      split
      · exact .inr (.inl rfl)
      · split
        · exact .inl rfl
        · exact .inr (.inr (.inl rfl))
    · exact .inr (.inr (.inr rfl))
  rcases hc with hc | hc | hc | hc
  · obtain ⟨hb, hok, -, -⟩ := code_zero hc
    rw [h0 hc]
    exact ⟨put_wf h (wf_of_ok hok), by have := put_len es (deedEnt es k nd t m); have := book_len hb; show (putE es _).length ≤ 21; omega⟩
  · obtain ⟨h1, hb⟩ := h12 (.inl hc)
    rw [h1]
    exact ⟨h, by have := book_len hb; show es.length ≤ 21; omega⟩
  · obtain ⟨h1, hb⟩ := h12 (.inr hc)
    rw [h1]
    exact ⟨h, by have := book_len hb; show es.length ≤ 21; omega⟩
  · rw [h3 hc]
    exact ⟨(fun z hz => by cases hz), by simp⟩

set_option maxHeartbeats 4000000 in
set_option maxRecDepth 100000 in
theorem exactDone_any (ao : Option Addr) (n cap : Nat) (es : List Ent) (k nd t m : Int) (a0 a1 : Addr) (w : World) (hx : Ents w.heap.size w ao n cap es) (hE : Errs w a0 a1) :
    Calls Tryd.prog 3 #[.slice ao n cap, .agg #[.int .i64 k, .int .i64 nd, .int .i64 t, .int .i64 m]] w (Yes w) := by
  have hmax : n ≤ maxLen := Nat.le_trans hx.hcap hx.hmax
  have hn1 := hx.hcap; have hn2 := hx.hmax
  unfold maxLen at hn2
  have hbx : Below w.heap.size w (w.alloc (.cells #[.int .i64 k, .int .i64 nd, .int .i64 t, .int .i64 m] 24)) := (Below.refl _ _).alloc (Nat.le_refl _) _
  have hblk : Blk (w.alloc (.cells #[.int .i64 k, .int .i64 nd, .int .i64 t, .int .i64 m] 24)) w.heap.size 24 #[.int .i64 k, .int .i64 nd, .int .i64 t, .int .i64 m] := Blk.new _ _ _
  by_cases hbig : 1048576 < n
  · have hsz : (if (1048576 : Int) < n then (-1 : Int) else 1048576 - n) = -1 := if_pos (by omega)
    have hc := fun w => szEntryS_any ao n cap 1048576 w hmax (by decide) (by decide)
    rw [hsz] at hc
    clear hsz
    have HBX := Lib.hid hbx; clear hbx hblk
    go_enter Tryd.func3, Tryd.ntmps3
    go_wp2_with fail
    refine (hc _).mono ?_
    rintro e w1 ⟨rfl, rfl⟩
    go_wp2_with fail
    go_ret
    exact ⟨rfl, HBX.out⟩
  · have hsz : (if (1048576 : Int) < n then (-1 : Int) else 1048576 - n) = 1048576 - n := if_neg (by omega)
    have hc := fun w => szEntryS_any ao n cap 1048576 w hmax (by decide) (by decide)
    rw [hsz] at hc
    clear hsz
    have hpos : (0 : Int) ≤ 1048576 - n := by omega
    have hn : n ≤ 1048576 := by omega
    have hwS := fun B a c w h1 hz h2 => specDone_any B a n c es k nd t m w h1 hz h2
    have hwI := fun B a c w h1 hz h2 hE => implDone_any B a n c es k nd t m a0 a1 w h1 hz h2 hE
    have HE : Hid (∀ w', Below w.heap.size w w' → Errs w' a0 a1) := Lib.hid (fun w' h => hE.below h (Nat.le_refl _))
    have hT := fun w => toDeed_any k nd t m w
    obtain ⟨hall, hle⟩ := doneF_wf (k := k) (nd := nd) (t := t) (m := m) hx.wf
    generalize doneF es k nd t m = r at hwS hwI hall hle
    have hlt0 := hblk.lt
    have hxb := hx.below hbx (Nat.le_refl _) (Nat.le_refl _)
    have hsb := hbx.size
    have hxe := hx.wf
    go_enter Tryd.func3, Tryd.ntmps3
    go_wp2_with fail
    generalize w.alloc (.cells #[.int .i64 k, .int .i64 nd, .int .i64 t, .int .i64 m] 24) = wb at hbx hblk hlt0 hxb hsb ⊢
    refine (hc _).mono ?_
    rintro e w1 ⟨rfl, rfl⟩
    have hxD : Ents w.heap.size w1.drew ao n cap es := hxb.below ((Below.refl _ _).drew) (Nat.le_refl _) (Nat.le_refl _)
    have hDD : ∀ w', Below w1.heap.size w1 w' → Blk w' w.heap.size 24 #[.int .i64 k, .int .i64 nd, .int .i64 t, .int .i64 m] := fun w' h => hblk.below h hlt0
    have HD := Lib.hid hDD; clear hDD hblk
    have q0 := (HD.out w1 (Below.refl _ _)).cell 0; have q1 := (HD.out w1 (Below.refl _ _)).cell 1; have q2 := (HD.out w1 (Below.refl _ _)).cell 2; have q3 := (HD.out w1 (Below.refl _ _)).cell 3
    go_wp2_with fail
    go_region_held3 (fun w' => w'.cell? ⟨w.heap.size, 0, none⟩ = some (.int .i64 k) ∧ w'.cell? ⟨w.heap.size, 1, none⟩ = some (.int .i64 nd) ∧ w'.cell? ⟨w.heap.size, 2, none⟩ = some (.int .i64 t) ∧ w'.cell? ⟨w.heap.size, 3, none⟩ = some (.int .i64 m))
      (first | exact ⟨(HD.out _ HBS).cell 0, (HD.out _ HBS).cell 1, (HD.out _ HBS).cell 2, (HD.out _ HBS).cell 3⟩ | exact ⟨(HD.out _ HBT).cell 0, (HD.out _ HBT).cell 1, (HD.out _ HBT).cell 2, (HD.out _ HBT).cell 3⟩ | exact ⟨(HD.out _ HBA).cell 0, (HD.out _ HBA).cell 1, (HD.out _ HBA).cell 2, (HD.out _ HBA).cell 3⟩ | exact ⟨q0, q1, q2, q3⟩)
      (first
        | (go_at_call 6; refine (toEntryS_any _ _ _ _ es _ hxD hsb hn).mono ?_; rintro e wA ⟨aA, cA, rfl, hoA, hiA, hzA, hbA, hsA⟩; have HBA := (Below.refl w1.heap.size w1).drew.trans hbA)
        | (go_at_call 7; refine (hT _).mono ?_; rintro e wT ⟨rfl, hbT⟩; have HBT := HBA.trans (hbT.mono HBA.size))
        | (go_at_call 5; refine (hwS _ _ _ _ (hiA.below hbT (Nat.le_refl _) hbT.size) hzA (Nat.le_refl _)).mono ?_; rintro e wS ⟨v1, rfl, ho1, hb1⟩; have HBS := HBT.trans (hb1.mono HBT.size)))
    obtain ⟨rs, hrs⟩ : ∃ rs, r.1 = rs := ⟨_, rfl⟩
    obtain ⟨rb, hrb⟩ : ∃ rb, r.2 = rb := ⟨_, rfl⟩
    obtain ⟨ml, hml⟩ : ∃ ml, rs.length = ml := ⟨_, rfl⟩
    have hmay : ∀ w e w', NewEsN r w e w' → ∃ v, e = .returned (.tuple #[v, .int .i64 rb]) ∧ OwnE w.heap.size w' v rs ∧ Below w.heap.size w w' := fun w e w' h => by
      obtain ⟨v, h1, h2, h3⟩ := h
      rw [hrb] at h1; rw [hrs] at h2
      exact ⟨v, h1, h2, h3⟩
    rw [hrs] at hall hle ho1
    rw [hrb]
    rw [hml] at hle
    have HM := Lib.hid hml; have HMAY := Lib.hid hmay
    clear hmay hml hrs hrb hwS hiA hzA hoA hbA hsA hbT q0 q1 q2 q3 hxD hxb
    obtain ⟨a1, c1, rfl, hi1, -⟩ := ho1.ents hall
    rw [HM.out] at hi1 ⊢
    clear ho1 hb1 HBA HBT
    have hb0S := hbx.trans (HBS.mono hsb)
    have hsS := hb0S.size
    have hxS := hx.below hb0S (Nat.le_refl _) (Nat.le_refl _)
    have hs1S := HBS.size
    go_wp2_with fail
    refine (toEntryS_any _ _ _ _ es _ hxS hsS hn).mono ?_
    rintro e w2 ⟨a2, c2, rfl, ho2, hi2, hz2, hb2, hs2⟩
    have HB2 := HBS.trans (hb2.mono hs1S)
    have hb02 := hb0S.trans (hb2.mono hsS)
    have hi12 := hi1.below hb2 (Nat.le_refl _) (Nat.le_refl _)
    have q0 := (HD.out _ HB2).cell 0; have q1 := (HD.out _ HB2).cell 1; have q2 := (HD.out _ HB2).cell 2; have q3 := (HD.out _ HB2).cell 3
    have HZ2 := Lib.hid hz2; clear hz2
    clear hi1 hxS
    go_wp2_with fail
    refine (hT _).mono ?_
    rintro e w3 ⟨rfl, hb3⟩
    have HB3 := HB2.trans (hb3.mono HB2.size)
    have hs3 := hb3.size
    have hi23 := hi2.below hb3 (Nat.le_refl _) hs3
    clear q0 q1 q2 q3
    go_wp2_with fail
    refine (hwI _ _ _ _ hi23 HZ2.out (Nat.le_refl _) (HE.out _ (hb02.trans (hb3.mono hb02.size)))).mono ?_
    rintro e w4 hmay4
    obtain ⟨v4, rfl, ho4, hb4⟩ := HMAY.out _ _ _ hmay4
    clear hmay4
    have hs4 := hb4.size
    have HB4 := HB3.trans (hb4.mono HB3.size)
    have hb24 := hb3.trans (hb4.mono hs3)
    have hb04 := hb02.trans (hb24.mono hb02.size)
    have hi14 := hi12.below hb24 hs2 (Nat.le_refl _)
    have hi24 := hi2.below hb24 (Nat.le_refl _) (Nat.le_refl _)
    have ho24 := ho2.below hb24 (Nat.le_refl _)
    have ho2o := ho2
    have ho4k := ho4
    obtain ⟨a4, c4, rfl, hi4, -⟩ := ho4.ents hall
    rw [HM.out] at hi4 ho4k ⊢
    clear hi12 hi23 hi2 ho2 ho4 hb3 hb4 HB2 HB3
    go_wp2_with fail
    refine (eqEntryS_any _ _ _ _ _ _ _ _ _ _ _ hi4 hi14 (Nat.le_refl _) (by omega)).mono ?_
    rintro e w5 ⟨rfl, hb5⟩
    rw [decide_eq_true rfl]
    have hs5 := hb5.size
    have HB5 := HB4.trans (hb5.mono HB4.size)
    have hb05 := hb04.trans (hb5.mono hb04.size)
    have hi15 := hi14.below hb5 (by omega) (Nat.le_refl _)
    have hi25 := hi24.below hb5 (by omega) (Nat.le_refl _)
    have ho25 := ho24.below hb5 (Nat.le_refl _)
    have ho45 := ho4k.below hb5 (Nat.le_refl _)
    have hx5 := hx.below hb05 (Nat.le_refl _) (Nat.le_refl _)
    clear hi14 hi24 hi4 ho24 ho4k
    go_wp2_with fail
    refine (toEntryS_any _ _ _ _ es _ hx5 hb05.size hn).mono ?_
    rintro e w6 ⟨a6, c6, rfl, -, hi6, -, hb6, hs6⟩
    have HB6 := HB5.trans (hb6.mono HB5.size)
    have hb06 := hb05.trans (hb6.mono hb05.size)
    have hi16 := hi15.below hb6 (by omega) (Nat.le_refl _)
    have hi26 := hi25.below hb6 (by omega) (Nat.le_refl _)
    have ho26 := ho25.below hb6 (Nat.le_refl _)
    have ho46 := ho45.below hb6 (Nat.le_refl _)
    clear hi15 hi25 ho25 ho45 hx5
    go_wp2_with fail
    refine (eqEntryS_any _ _ _ _ _ _ _ _ _ _ _ hi26 hi6 (by omega) (Nat.le_refl _)).mono ?_
    rintro e w7 ⟨rfl, hb7⟩
    rw [decide_eq_true rfl]
    have hs7 := hb7.size
    have HB7 := HB6.trans (hb7.mono HB6.size)
    have hb07 := hb06.trans (hb7.mono hb06.size)
    have hi17 := hi16.below hb7 (by omega) (Nat.le_refl _)
    have ho27 := ho26.below hb7 (Nat.le_refl _)
    have ho47 := ho46.below hb7 (Nat.le_refl _)
    clear hi16 hi26 hi6 ho26 ho46
    have hmk := markEntryS_any wS.heap.size _ es 1 n w7 ho27 hx.hlen (by decide) (by decide) hn (by omega)
    go_wp2_with fail
    refine hmk.mono ?_
    rintro e w8 ⟨rfl, -, hg8, hs8, hb8⟩
    have ho48 := ho47.older ho2o hs3 hg8
    have HB8 := HB7.trans (hb8.mono hs1S)
    have hb08 := hb07.trans (hb8.mono hsS)
    have hi18 := hi17.below hb8 (Nat.le_refl _) (Nat.le_refl _)
    have hi48 := ho48.ents_at hall
    clear hmk ho27 ho2o ho47 hi17 hg8 hb8
    have k1 : ¬ (1 + 4 * (n : Int)) < 0 := by omega
    go_wp2_with fail
    refine (eqEntryS_any _ _ _ _ _ _ _ _ _ _ _ hi48 hi18 (Nat.le_refl _) (by omega)).mono ?_
    rintro e w9 ⟨rfl, hb9⟩
    rw [decide_eq_true rfl]
    have hs9 := hb9.size
    have HB9 := HB8.trans (hb9.mono HB8.size)
    have hb09 := hb08.trans (hb9.mono hb08.size)
    have hi19 := hi18.below hb9 (by omega) (Nat.le_refl _)
    have ho49 := ho48.below hb9 (Nat.le_refl _)
    clear hi18 hi48 ho48
    have hmk := markEntryS_any w3.heap.size _ rs 1 ml w9 ho49 HM.out (by decide) (by decide) (by omega) (by omega)
    go_wp2_with fail
    refine hmk.mono ?_
    rintro e wA ⟨rfl, hoA, hgA, hsA, hbA⟩
    have HBA := HB9.trans (hbA.mono (by omega))
    have hb0A := hb09.trans (hbA.mono (by omega))
    have hi1A := hi19.below hbA (by omega) (Nat.le_refl _)
    have hmwf : AllE (marksE 1 ml) := marksE_wf (by decide) (by omega)
    have hiA := hoA.ents_at hmwf
    clear hmk ho49 hi19 hgA hbA
    go_wp2_with fail
    refine (heldEntryS_any _ _ _ _ 1 _ hiA (by decide) (by decide) (by omega)).mono ?_
    rintro e wB ⟨rfl, rfl⟩
    have k2 : ¬ (1 + 4 * (ml : Int)) < 0 := by omega
    have hxA : Ents w.heap.size wB.drew ao n cap es := (hx.below hb0A (Nat.le_refl _) (Nat.le_refl _)).below ((Below.refl w.heap.size wB).drew) (Nat.le_refl _) (Nat.le_refl _)
    have hs0A := hb0A.size
    have q0 := (HD.out _ HBA).cell 0; have q1 := (HD.out _ HBA).cell 1; have q2 := (HD.out _ HBA).cell 2; have q3 := (HD.out _ HBA).cell 3
    go_wp2_with fail
    go_region_held3 (fun w' => w'.cell? ⟨w.heap.size, 0, none⟩ = some (.int .i64 k) ∧ w'.cell? ⟨w.heap.size, 1, none⟩ = some (.int .i64 nd) ∧ w'.cell? ⟨w.heap.size, 2, none⟩ = some (.int .i64 t) ∧ w'.cell? ⟨w.heap.size, 3, none⟩ = some (.int .i64 m))
      (first | exact ⟨(HD.out _ HBS2).cell 0, (HD.out _ HBS2).cell 1, (HD.out _ HBS2).cell 2, (HD.out _ HBS2).cell 3⟩ | exact ⟨(HD.out _ HBT2).cell 0, (HD.out _ HBT2).cell 1, (HD.out _ HBT2).cell 2, (HD.out _ HBT2).cell 3⟩ | exact ⟨(HD.out _ HBA2).cell 0, (HD.out _ HBA2).cell 1, (HD.out _ HBA2).cell 2, (HD.out _ HBA2).cell 3⟩ | exact ⟨q0, q1, q2, q3⟩)
      (first
        | (go_at_call 6; refine (toEntryS_any _ _ _ _ es _ hxA hs0A hn).mono ?_; rintro e wD ⟨aD, cD, rfl, -, hiD, hzD, hbD, hsD⟩; have hbBD := (Below.refl wB.heap.size wB).drew.trans hbD; have HBA2 := HBA.trans (hbBD.mono HBA.size))
        | (go_at_call 7; refine (hT _).mono ?_; rintro e wT2 ⟨rfl, hbT2⟩; have hbBT := hbBD.trans (hbT2.mono hbBD.size); have HBT2 := HBA.trans (hbBT.mono HBA.size))
        | (go_at_call 8; refine (hwI _ _ _ _ (hiD.below hbT2 (Nat.le_refl _) hbT2.size) hzD (Nat.le_refl _) (HE.out _ (hb0A.trans (hbBT.mono hs0A)))).mono ?_; rintro e wF hmayF; obtain ⟨v9, rfl, ho9, hb9F⟩ := HMAY.out _ _ _ hmayF; have hbBF := hbBT.trans (hb9F.mono hbBT.size); have HBS2 := HBA.trans (hbBF.mono HBA.size)))
    obtain ⟨a9, c9, rfl, hi9, -⟩ := ho9.ents hall
    rw [HM.out] at hi9 ⊢
    have hi1F := hi1A.below hbBF (by omega) (Nat.le_refl _)
    have hiAF := hiA.below hbBF (Nat.le_refl _) hbBF.size
    have hb0F := hb0A.trans (hbBF.mono hs0A)
    have hsF := hbBF.size
    clear hi1A hiA q0 q1 q2 q3 hiD hzD hbD hsD hbBD hbT2 hbBT hxA ho9 HBA2 HBT2
    go_wp2_with fail
    refine (eqEntryS_any _ _ _ _ _ _ _ _ _ _ _ hi9 hi1F (Nat.le_refl _) (by omega)).mono ?_
    rintro e wG ⟨rfl, hbG⟩
    rw [decide_eq_true rfl]
    have hiAG := hiAF.below hbG (Nat.le_refl _) hbG.size
    have hb0G := hb0F.trans (hbG.mono hb0F.size)
    go_wp2_with fail
    refine (heldEntryS_any _ _ _ _ 1 _ hiAG (by decide) (by decide) (by omega)).mono ?_
    rintro e wH ⟨rfl, rfl⟩
    go_wp2_with fail
    go_ret
    exact ⟨rfl, hb0G⟩

end Go.Proofs.YtccaakgfhclebaaDoor

/-
  What the row's condition gives of the package-level errors (Errs); a world that meets it (the door's own).
-/
namespace Go.Proofs.YtccaakgfhclebaaDoor
open Go.ChangeShapes Go.WideShapes Go.RowKit

theorem Tryd.gShort : Tryd.prog.globalNamed "loop.example/g00824/impl.errShort" = some 0 := by kernel_rfl
theorem Tryd.gBad : Tryd.prog.globalNamed "loop.example/g00824/impl.errNotRight" = some 1 := by kernel_rfl
theorem Tryd.gType : Tryd.prog.globalNamed "errors.errorType" = some 2 := by kernel_rfl
theorem Tryd.gShortType : (Tryd.prog.globals[0]?).map (·.type) = some 42 := by kernel_rfl
theorem Tryd.gBadType : (Tryd.prog.globals[1]?).map (·.type) = some 42 := by kernel_rfl
theorem Tryd.cellsES : Tryd.prog.cellsOf 146 = 1 := by kernel_rfl
theorem Tryd.cellsS : Tryd.prog.cellsOf 9 = 1 := by kernel_rfl
theorem Tryd.star : "*" ++ "errors.errorString" = "*errors.errorString" := by decide
theorem Tryd.rowES (u : TypeId) (h : Tryd.prog.typeName? 3 u = some "*errors.errorString") : u = 124 :=
  typeName_ptr_named (nm := "errors.errorString") (by rw [Tryd.star]; kernel_rfl) (by kernel_rfl) (by decide) u (by rw [Tryd.star]; exact h)
theorem Tryd.rt : (Tryd.prog.cutTypes.find? (·.1 == "internal/reflectlite.rtype")).map (·.2) = some 104 := by kernel_rfl
theorem Tryd.oneRow : ((List.range 158).filter fun t => Tryd.prog.rowNamed t [101, 114, 114, 111, 114]) = [42] := by kernel_rfl
theorem Tryd.size : Tryd.prog.types.size = 158 := by kernel_rfl

/-- The list of what is laid. -/
def laid3 : List (String × DataW Unit) := [("errors.errorType", Rows.laid_errors_errorType), ("loop.example/g00824/impl.errNotRight", Rows.laid_loop_example_g00824_impl_errNotRight), ("loop.example/g00824/impl.errShort", Rows.laid_loop_example_g00824_impl_errShort)]

theorem errs_of_laid {W : World} (h : laidMetH Tryd.prog laid3 W) :
    ∃ a0 a1 : Addr, Errs W a0 a1 ∧ W.var? Tryd.prog "loop.example/g00824/impl.errNotRight" = some #[.iface 124 (.pointer (some a1))] ∧ W.var? Tryd.prog "loop.example/g00824/impl.errShort" = some #[.iface 124 (.pointer (some a0))] := by
  have h' : laidMet Tryd.prog [("loop.example/g00824/impl.errNotRight", Rows.laid_loop_example_g00824_impl_errNotRight), ("loop.example/g00824/impl.errShort", Rows.laid_loop_example_g00824_impl_errShort)] W ∧ handlesMet Tryd.prog [("errors.errorType", Rows.laid_errors_errorType)] W := h
  obtain ⟨hl, hh⟩ := h'
  obtain ⟨name, u, ty, e1, e2, e3, e4, e5⟩ := hh _ (List.mem_singleton.2 rfl)
  have en : name = [101, 114, 114, 111, 114] := (Option.some.inj e1).symm
  subst en
  obtain rfl := Option.some.inj (Tryd.rt.symm.trans e2)
  have hm : ty ∈ (List.range 158).filter fun t => Tryd.prog.rowNamed t [101, 114, 114, 111, 114] := List.mem_filter.2 ⟨List.mem_range.2 (by rw [← Tryd.size]; exact e3), e4⟩
  rw [Tryd.oneRow] at hm
  obtain rfl := List.mem_singleton.1 hm
  have hth : typeHandle Tryd.prog 42 = .pointer (some ⟨3, 42, none⟩) := by kernel_rfl
  rw [hth] at e5
  obtain ⟨a0, a1, s0, s1, c0, c1, t0, t1, hv0, hv1, -, -, -, -, -, -, hne, hb0, hb1⟩ := laid_sentinels2 hl Tryd.gBad Tryd.gBadType Tryd.gShort Tryd.gShortType Tryd.underlying42 Tryd.rowES Tryd.underlying124 Tryd.underlying146 rfl rfl Tryd.underlying9 Tryd.cellsES Tryd.cellsS
  exact ⟨a1, a0, ⟨by simpa using World.var?_cell Tryd.gShort hv1 0, by simpa using World.var?_cell Tryd.gBad hv0 0, by simpa using World.var?_cell Tryd.gType e5 0, fun e => hne e.symm, ⟨c1, t1, hb1⟩, ⟨c0, t0, hb0⟩⟩, hv0, hv1⟩

theorem door_met (os : Os) (args : Array Value) : laidMetH Tryd.prog laid3 ((World.doorLaid Tryd.prog 54 os).forCall (fun _ _ => 0) ⟨#[], args, []⟩).memory :=
  laidMetH_of_parts3 (fuel := 8) (laidMet_of_run' 8 (by kernel_rfl) (by kernel_rfl)) (by kernel_rfl) (by kernel_rfl)

theorem var_below {W W' : World} {n : String} {g : Nat} {x : Value} (hg : Tryd.prog.globalNamed n = some g) (h : W.var? Tryd.prog n = some #[x]) (hb : Below W.heap.size W W') : W'.var? Tryd.prog n = some #[x] := by
  have hc : W.cell? ⟨g, 0, none⟩ = some x := by simpa using World.var?_cell hg h 0
  have hlt := cell_lt hc
  have he : W'.heap[g]? = W.heap[g]? := hb.block g hlt
  unfold World.var? at h ⊢
  rw [hg] at h ⊢
  simp only [Option.bind_some] at h ⊢
  rw [he]
  exact h

end Go.Proofs.YtccaakgfhclebaaDoor

/-
  Opening a law's arguments: a slice of entries that came in (Ents).
-/
namespace Go.Proofs.YtccaakgfhclebaaDoor
open Go.ChangeShapes Go.WideShapes Go.ChangeAt Go.RowKit Go.Joins Go.Deep

instance : Inhabited Ent := ⟨zeroE⟩

theorem list4 {α : Type} {cs : List α} (h : cs.length = 4) : ∃ c0 c1 c2 c3, cs = [c0, c1, c2, c3] := by
  match cs, h with
  | [c0, c1, c2, c3], _ => exact ⟨c0, c1, c2, c3, rfl⟩

set_option maxRecDepth 100000 in
theorem open_ents {H : Type} {enc : TypeId × Value → H} {W : World} {v : Value} {d : DataW H} {p : List MemPlace}
    (hv : Value.okWide Tryd.prog W .any 0 22 v) (h : DataW.Trod enc Tryd.prog W 0 (fun _ => true) true 22 v d p) (hlt : ∀ x ∈ p, x.block < W.heap.size) :
    ∃ ao n cap es, v = .slice ao n cap ∧ Ents W.heap.size W ao n cap es := by
  obtain ⟨a0, len, cap, rfl⟩ := okWide_slice Tryd.underlying22 hv
  obtain ⟨fuel, hf⟩ := h
  have hC : Tryd.prog.cellsOf 40 = 4 := by kernel_rfl
  rcases open_slice Tryd.underlying22 hf with ⟨hcs, hx⟩ | ⟨a, len', cap', m, n, D, Pl, hcs, _, hl, hm, hmm, hx, hi⟩
  · simp [Value.cells] at hcs
    obtain ⟨rfl, rfl, rfl⟩ := hcs
    exact ⟨none, 0, 0, [], rfl, rfl, Nat.le_refl _, by unfold maxLen; omega, fun j hj => by omega, fun x hx => by cases hx⟩
  · simp [Value.cells] at hcs
    obtain ⟨rfl, rfl, rfl⟩ := hcs
    simp only [if_true] at hmm
    subst m
    simp only [Prod.mk.injEq] at hx
    obtain ⟨rfl, rfl⟩ := hx
    rw [hC] at hi hlt
    have hel : ∀ i, i < cap → ∃ e : Ent, e.wf ∧ W.cell? ((a.add (i * 4)).add 0) = some (.int .i64 e.o) ∧ W.cell? ((a.add (i * 4)).add 1) = some (.int .i64 e.s) ∧ W.cell? ((a.add (i * 4)).add 2) = some (.int .i64 e.a) ∧ W.cell? ((a.add (i * 4)).add 3) = some (.int .i64 e.d) := by
      intro i hic
      obtain ⟨cs', h1, h2⟩ := hi i hic
      obtain ⟨_, hlen, hcell⟩ := World.cells?_some h1
      obtain ⟨c0, c1, c2, c3, rfl⟩ := list4 hlen
      obtain ⟨y0, y1, y2, y3, n', _, _, g0, g1, g2, g3⟩ := trod_struct4 Tryd.underlying40 h2
      simp [Tryd.cells64] at g0 g1 g2 g3
      obtain ⟨o, e0, _, w0⟩ := DataW.trod_int Tryd.underlying2 g0
      obtain ⟨s, e1, _, w1⟩ := DataW.trod_int Tryd.underlying2 g1
      obtain ⟨am, e2, _, w2⟩ := DataW.trod_int Tryd.underlying2 g2
      obtain ⟨dt, e3, _, w3⟩ := DataW.trod_int Tryd.underlying2 g3
      simp at e0 e1 e2 e3
      subst e0 e1 e2 e3
      exact ⟨⟨o, s, am, dt⟩, ⟨i64_of_wf w0, i64_of_wf w1, i64_of_wf w2, i64_of_wf w3⟩, hcell 0 (by omega), hcell 1 (by omega), hcell 2 (by omega), hcell 3 (by omega)⟩
    obtain ⟨V, hV⟩ := choose_lt (α := Ent) hel
    refine ⟨some a, len, cap, (List.range len).map V, rfl, by simp, hl, hm, fun j hj => ?_, fun x hx => ?_⟩
    · obtain ⟨b, off, spot⟩ := a
      have hspot : spot = none := by simpa [Addr.add] using World.cell?_spot (hV 0 (by omega)).2.1
      subst hspot
      have hbW : b < W.heap.size := hlt (.cell b off) (List.mem_append_left _ (MemPlace.mem_row.2 ⟨0, by omega, by simp⟩))
      have hE : E ((List.range len).map V) j = V j := by rw [E_get (by simpa using hj)]; simp
      obtain ⟨_, h0, h1, h2, h3⟩ := hV j (by omega)
      rw [Addr.add_lit, Addr.add_lit] at h0 h1 h2 h3
      rw [hE]
      exact ⟨b, off, rfl, hbW, h0, h1, h2, h3⟩
    · simp only [List.mem_map, List.mem_range] at hx
      obtain ⟨i, hi', rfl⟩ := hx
      exact (hV i (by omega)).1

set_option maxRecDepth 100000 in
/-- A struct of four numbers that came in, within their range. -/
theorem open_entw {H : Type} {enc : TypeId × Value → H} {W : World} {v : Value} {d : DataW H} {p : List MemPlace}
    (hv : Value.okWide Tryd.prog W .any 0 40 v) (h : DataW.Trod enc Tryd.prog W 0 (fun _ => true) true 40 v d p) :
    ∃ e : Ent, v = .agg #[.int .i64 e.o, .int .i64 e.s, .int .i64 e.a, .int .i64 e.d] ∧ e.wf := by
  obtain ⟨c0, c1, c2, c3, y0, y1, y2, y3, m, rfl, rfl, rfl, h0, h1, h2, h3⟩ := open_agg4 Tryd.underlying40 (by kernel_rfl) (by kernel_rfl) hv h
  obtain ⟨o, e0, _, w0⟩ := DataW.trod_int Tryd.underlying2 h0
  obtain ⟨s, e1, _, w1⟩ := DataW.trod_int Tryd.underlying2 h1
  obtain ⟨a, e2, _, w2⟩ := DataW.trod_int Tryd.underlying2 h2
  obtain ⟨d, e3, _, w3⟩ := DataW.trod_int Tryd.underlying2 h3
  simp at e0 e1 e2 e3
  subst e0 e1 e2 e3
  exact ⟨⟨o, s, a, d⟩, rfl, i64_of_wf w0, i64_of_wf w1, i64_of_wf w2, i64_of_wf w3⟩

end Go.Proofs.YtccaakgfhclebaaDoor

/- FnExactDone: for all arguments the call returns true, they and the package-level errors read afterwards as before; condition: the package-level errors, and errors' type of errors, hold what the program's own initialisers lay (tied to the program's text by the card). -/
namespace Go.Proofs.YtccaakgfhclebaaDoor
open Go.ChangeShapes Go.WideShapes Go.ChangeAt Go.RowKit

set_option maxRecDepth 100000 in
theorem exactDone_lifted (os : Os) (started : os.Started) (H : Type) (enc : TypeId × Value → H) :
    ReturnsInHanded {} Tryd.checked os 3 .any (fun w args => (Rows.fnExactDoneSpec.pre enc Tryd.prog Tryd.f3 [] false w args ∧ laidMetH Tryd.prog laid3 w) ∧ sizedMet enc Tryd.prog Tryd.f3 (OpenSpec.ofChange Rows.fnExactDoneSpec) false w args) (Rows.fnExactDoneSpec.post enc Tryd.prog Tryd.f3 false true false false) := by
  refine returnsInHanded_of_change_and (C := Tryd.checked) (X := fun w _ => laidMetH Tryd.prog laid3 w) (fun _ _ _ hh h => h.of_heap hh) Tryd.own started (by kernel_rfl) Tryd.func3
    (ChangeSpec.witness_shaped (enc := enc) (C := Tryd.checked) (os := os) (X := fun w _ => laidMetH Tryd.prog laid3 w) false (World.doorLaid Tryd.prog 54 os) #[.slice none 0 0, .agg #[.int .i64 0, .int .i64 0, .int .i64 0, .int .i64 0]] 8 rfl (World.shaped_of_RefB (by kernel_rfl) (by kernel_rfl)) (by kernel_rfl) (by kernel_rfl) (by kernel_rfl) (door_met os _)) ?_
  intro W base args ds gs before hval0 hW _ _ hL _
  have hval : ∀ (j : Nat) t v, Tryd.f3.params[j]? = some t → args[j]? = some v → Value.okWide Tryd.prog W .any base t v := hval0
  have hW' := hW
  obtain ⟨p, q, hA0, hV0, rfl, hfz, hnd⟩ := hW
  have hA : DataW.TrodAll enc Tryd.prog W 0 (fun _ => true) true Tryd.f3.params.toList args.toList ds p := hA0
  have hV : DataW.TrodVars enc Tryd.prog W (fun _ => true) ["loop.example/g00824/impl.errNotRight", "loop.example/g00824/impl.errShort"] gs q := hV0
  rw [Tryd.params3] at hA hval
  obtain ⟨v0, v1, d0, d1, p0, p1, rfl, rfl, rfl, h0, h1⟩ := trodAll_two hA
  obtain ⟨a0, a1, hE, hvB, hvS⟩ := errs_of_laid hL
  have vr : ∀ {X : World}, X.var? Tryd.prog "loop.example/g00824/impl.errNotRight" = some #[.iface 124 (.pointer (some a1))] → X.var? Tryd.prog "loop.example/g00824/impl.errShort" = some #[.iface 124 (.pointer (some a0))] → ∀ sp : Nat → Bool,
      DataW.TrodVars enc Tryd.prog X sp ["loop.example/g00824/impl.errNotRight", "loop.example/g00824/impl.errShort"] [tok enc (.iface 124 (.pointer (some a1))), tok enc (.iface 124 (.pointer (some a0)))] [.cell 1 0, .cell 0 0] :=
    fun x0 x1 sp => vars_read2 enc Tryd.gBad Tryd.gBadType Tryd.underlying42 x0 trivial Tryd.gShort Tryd.gShortType Tryd.underlying42 x1 trivial sp
  obtain ⟨rfl, rfl⟩ := hV.unique (vr hvB hvS _)
  clear hA0 hV0 hval0 hA
  have hlt : ∀ x ∈ p0 ++ p1, x.block < W.heap.size := fun x hx => hW'.lt x (List.mem_append_left _ hx)
  have hlt0 : ∀ x ∈ p0, x.block < W.heap.size := fun x hx => hlt x (List.mem_append_left _ hx)
  have hlt1 : ∀ x ∈ p1, x.block < W.heap.size := fun x hx => hlt x (List.mem_append_right _ hx)
  have h0k := h0
  obtain ⟨ao0, n0, cap0, es0, rfl, hx0⟩ := open_ents (by exact hval 0 _ v0 rfl rfl) h0 hlt0
  have h1k := h1
  obtain ⟨k, nd, t, m, rfl⟩ := open_deed (by exact hval 1 _ v1 rfl rfl) h1
  refine (exactDone_any ao0 n0 cap0 es0 k nd t m a0 a1 W hx0 hE).mono fun e W' ⟨he, hb⟩ => ?_
  subst he
  exact ⟨_, rfl, _, _, _, _, _, _, hW', trodAll_mk1 (shut_bool Tryd.underlying4 _), trodAll_mk2 (Below.trod Tryd.laidOut (by kernel_rfl) (of_decide_eq_true (by kernel_rfl)) h0k hb hlt0) (Below.trod Tryd.laidOut (by kernel_rfl) (of_decide_eq_true (by kernel_rfl)) h1k hb hlt1), vr (var_below Tryd.gBad hvB hb) (var_below Tryd.gShort hvS hb) _, hb.frame _, fun h => by cases h⟩

theorem exactDone_row : Rows.FnExactDoneSaid :=
  OpenClaim.holds_of_wide 3 Tryd.f3 rfl rfl rfl rfl rfl rfl rfl ⟨rfl, rfl, rfl, rfl, rfl⟩ rfl rfl rfl rfl rfl (by kernel_rfl) Tryd.func3 (by kernel_rfl)
    (of_decide_eq_true (by kernel_rfl)) (by unfold Func.isWrapper; first | (rw [if_pos (by decide +kernel)]; kernel_rfl) | (rw [if_neg (by decide +kernel)]; exact ⟨rfl, rfl⟩))
    (fun os started H enc _ => exactDone_lifted os started H enc)

theorem exactDone_holds : Rows.FnExactDoneCardSaid :=
  Claim7.holds_tied_plain_at .later [] [.handle, .sentinel, .sentinel] true (true, "fc651b3d0bfdbcb3161ee1a71e9b370bba5bf2c9c92f27ce1960647f30eb242f") true
    exactDone_row (fun _ h => by cases h) (by kernel_rfl) (fun _ h => by cases h) fnExactDone_row_tie rfl ⟨rfl, rfl⟩ (by kernel_rfl) rfl
    (fun f fn hf hfn => by
      obtain rfl : f = 3 := Option.some.inj ((show Tryd.prog.funcNamed "loop.example/g00824/laws.FnExactDone" = some 3 by kernel_rfl).symm.trans hf) |>.symm
      obtain rfl : fn = Tryd.f3 := (Option.some.inj (Tryd.func3.symm.trans hfn)).symm
      exact ⟨by kernel_rfl, fun j t ht => by
        rw [Tryd.params3] at ht
        have hm : t ∈ [22, 24] := by simpa using Array.mem_of_getElem? ht
        have hall : ([22, 24].all fun u => !Tryd.prog.wantsStandIn u) = true := by kernel_rfl
        exact (show Tryd.prog.wantsStandIn t = false by simpa using List.all_eq_true.1 hall t hm)⟩)
    (by kernel_rfl)

end Go.Proofs.YtccaakgfhclebaaDoor
