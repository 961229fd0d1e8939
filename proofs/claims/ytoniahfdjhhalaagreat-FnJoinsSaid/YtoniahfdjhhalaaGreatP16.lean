/- Texts of this claim, put together. -/
import Derived.Test.YtoniahfdjhhalaaGreatP1
import Derived.Test.YtoniahfdjhhalaaGreatP11
import Derived.Test.YtoniahfdjhhalaaGreatP15

namespace Go.Proofs.YtoniahfdjhhalaaGreat
open Go.RowKit
theorem row_off {base s n g : Nat} {t t' : TypeId} {w w' : World} {v : Value} {xs : List Value} {cs : Array Value} (h : w.ownsRow base t s v n xs) (hb : Blk w g t' cs) (hk : Keeps g w w') (hne : t ≠ t') : w'.ownsRow base t s v n xs := by
  refine World.ownsRow.kept h hk ?_
  rcases h.2 with ⟨rfl, _⟩ | ⟨g', cap, cur, rfl, _, hh, _⟩
  · exact .inl rfl
  · right
    intro e
    have e2 : g' = g := Option.some.inj e
    subst e2
    have h2 : w.heap[g']? = some (.cells cs t' (0, 0)) := hb
    rw [h2] at hh
    cases hh
    exact hne rfl
theorem OwnE.off {base g : Nat} {t' : TypeId} {w w' : World} {v : Value} {es : List Ent} {cs : Array Value} (h : OwnE base w v es) (hb : Blk w g t' cs) (hk : Keeps g w w') (hne : 47 ≠ t') : OwnE base w' v es := row_off h hb hk hne
theorem Own.off {base g : Nat} {t' : TypeId} {w w' : World} {v : Value} {xs : List Int} {cs : Array Value} (h : Own base w v xs) (hb : Blk w g t' cs) (hk : Keeps g w w') (hne : 2 ≠ t') : Own base w' v xs := row_off h hb hk hne
theorem OwnRows.off {base g : Nat} {t' : TypeId} {w w' : World} {v : Value} {rows : List (List Int)} {cs : Array Value} (h : OwnRows base w v rows) (hb : Blk w g t' cs) (hk : Keeps g w w') (hne : 78 ≠ t') (hne2 : 2 ≠ t') : OwnRows base w' v rows := by
  obtain ⟨cells, h1, h2⟩ := h
  refine ⟨cells, row_off h1 hb hk hne, fun j hj => ?_⟩
  obtain ⟨c, hc, ho⟩ := h2 j hj
  exact ⟨c, hc, ho.off hb hk hne2⟩
set_option linter.unusedSimpArgs false in
set_option maxHeartbeats 4000000 in
set_option maxRecDepth 100000 in
theorem l15Copy_any (B : Nat) (me : Int) (ab : Option Addr) (nb cb : Nat) (book : List Ent) (aa : Option Addr) (na ca : Nat) (acks : List (List Int)) (w : World) (hx : Ents B w ab nb cb book) (hz : ab = none → cb = 0) (ha : Rws B w aa na ca acks) (hB : B ≤ w.heap.size)
    (hnb : nb ≤ 1048576) (hna : na ≤ 1048576) (hrl : ∀ r ∈ acks, r.length ≤ 1048576) :
    Calls Tryz.prog 73 #[.agg #[.int .i64 me, .slice ab nb cb, .slice aa na ca]] w (NodePost ⟨me, book, acks⟩ w) := by
  have hal := ha.hlen
  have hcap := ha.hcap; have hmax := ha.hmax
  unfold maxLen at hmax
  have hbw := hx.wf
  have haw : AllR acks := fun r hr => by
    obtain ⟨i, hi, rfl⟩ := List.mem_iff_getElem.1 hr
    obtain ⟨b, off, a, m, c, _, _, _, hi2, _⟩ := ha.cell i (by omega)
    have := hi2.wf
    rwa [RW_get hi] at this
  obtain ⟨wb, hwb⟩ : ∃ wb, wb = (w.alloc (.cells #[.int .i64 me, .slice ab nb cb, .slice aa na ca] 39)).alloc (.cells #[.int .i64 0, .slice none 0 0, .slice none 0 0] 39) := ⟨_, rfl⟩
  obtain ⟨g, hg⟩ : ∃ g, g = w.heap.size := ⟨_, rfl⟩
  obtain ⟨gr, hgr0⟩ : ∃ gr, gr = w.heap.size + 1 := ⟨_, rfl⟩
  have hbox : Blk wb g 39 #[.int .i64 me, .slice ab nb cb, .slice aa na ca] := by rw [hwb, hg]; exact (Blk.new _ _ _).alloc _
  have hres : Blk wb gr 39 #[.int .i64 0, .slice none 0 0, .slice none 0 0] := by
    rw [hwb, hgr0]
    have h := Blk.new (w.alloc (.cells #[.int .i64 me, .slice ab nb cb, .slice aa na ca] 39)) 39 #[.int .i64 0, .slice none 0 0, .slice none 0 0]
    simpa using h
  have hb0 : Below w.heap.size w wb := by rw [hwb]; exact ((Below.refl _ _).alloc (Nat.le_refl _) _).alloc (by simp) _
  have hgr : w.heap.size ≤ gr := by omega
  have hs0 := hb0.size
  have hsb := hbox.lt; have hsr := hres.lt
  have HBOX : Hid (∀ w', Below wb.heap.size wb w' → Blk w' g 39 #[.int .i64 me, .slice ab nb cb, .slice aa na ca]) := Lib.hid (fun w' h => hbox.below h hsb)
  have HRES : Hid (∀ w', Below wb.heap.size wb w' → Blk w' gr 39 #[.int .i64 0, .slice none 0 0, .slice none 0 0]) := Lib.hid (fun w' h => hres.below h hsr)
  have HA : Hid (∀ w', Below wb.heap.size wb w' → Below w.heap.size w w') := Lib.hid (fun w' h => hb0.trans (h.mono hs0))
  have HCP : Hid (∀ w', Below wb.heap.size wb w' → Calls Tryz.prog 83 #[.slice ab nb cb] w' (NewEs book w')) := Lib.hid (fun w' h => l4Copy_any B ab nb cb book w' (hx.below (HA.out w' h) hB (Nat.le_refl B)) hz (by have := (HA.out w' h).size; omega) (by omega))
  have HAL := Lib.hid hal; have HAW := Lib.hid haw; have HRL := Lib.hid hrl; clear hal haw hrl hx
  have d0 := hbox.cell 0; have d1 := hbox.cell 1; have d2 := hbox.cell 2
  go_enter Tryz.func73, Tryz.ntmps73
  go_upto_region 1 with fail
  rw [← hwb, ← hgr0, ← hg]
  clear hwb hg hgr0
  go_cut [3] (fun s3 wx => ∃ (go : Nat) (ab2 : Option Addr) (cb2 : Nat), s3 = .pointer (some ⟨go, 0, none⟩) ∧ wb.heap.size ≤ go ∧ Blk wx go 39 #[.int .i64 me, .slice ab2 book.length cb2, .slice none 0 0] ∧ OwnE wb.heap.size wx (.slice ab2 book.length cb2) book ∧ Below wb.heap.size wb wx)
  case first =>
    refine wp_region_held_drew (S := (fun w' => w'.cell? ⟨g, 0, none⟩ = some (.int .i64 me) ∧ w'.cell? ⟨g, 1, none⟩ = some (.slice ab nb cb))) (by kernel_rfl) ⟨d0, d1⟩ (fun hHeld => ?_)
    obtain ⟨W0, hW0⟩ : ∃ x, x = wb.drew := ⟨_, rfl⟩
    have hbW : Below wb.heap.size wb W0 := by rw [hW0]; exact (Below.refl _ _).drew
    rw [← hW0] at hHeld ⊢
    clear hW0
    refine tk (i := 0) (v := ?vi0) rfl (by kernel_rfl) (fun _ _ _ h => h) (Or.inl ⟨by rfl, ?hyi0⟩) (by assumption) ?ri0
    case hyi0 => (intro w hSw; (try dsimp only at hSw); go_simp; try with_reducible rfl)
    try simp only [Act.put, qGa, qGb, qGc, qSa, qSb, qSc]
    refine tk (i := 1) (v := ?vi1) rfl (by kernel_rfl) (fun _ _ _ h => h) (Or.inl ⟨by rfl, ?hyi1⟩) (by assumption) ?ri1
    case hyi1 => (intro w hSw; (try dsimp only at hSw); go_simp; try with_reducible rfl)
    try simp only [Act.put, qGa, qGb, qGc, qSa, qSb, qSc]
    refine tk (i := 2) (v := ?vi2) rfl (by kernel_rfl) (fun _ _ _ h => h) (Or.inl ⟨by rfl, ?hyi2⟩) (by assumption) ?ri2
    case hyi2 => (intro w hSw; (try dsimp only at hSw); go_simp; try with_reducible rfl)
    try simp only [Act.put, qGa, qGb, qGc, qSa, qSb, qSc]
    refine tk (i := 3) (v := ?vi3) rfl (by kernel_rfl) (fun _ _ _ h => h) (Or.inl ⟨by rfl, ?hyi3⟩) (by assumption) ?ri3
    case hyi3 => (intro w hSw; (try dsimp only at hSw); go_simp; try with_reducible rfl)
    try simp only [Act.put, qGa, qGb, qGc, qSa, qSb, qSc]
    refine wpAnyH_ready (rs := [4, 6]) (by kernel_rfl) (by simp) ?_
    refine AllReadyH.cons rfl (fun K1 hK1 => ?_) (AllReadyH.cons rfl (fun K2 hK2 => ?_) AllReadyH.nil)
    · go_simp
      refine (HCP.out _ hbW).mono ?_
      rintro e wC3 ⟨v2, rfl, hn2, hbc⟩
      have hb3 := hbW.trans (hbc.mono hbW.size)
      have hn2k := hn2
      obtain ⟨a2, c2, rfl, -⟩ := hn2.ents hbw
      go_wp2_with fail
      refine hK1.out _ _ ⟨(HBOX.out _ hb3).cell 0, (HBOX.out _ hb3).cell 1⟩ (fun hHeld => ?_)
      clear hK1 K1
      try simp only [Act.put, qGa, qGb, qGc, qSa, qSb, qSc]
      refine tk (i := 5) (v := ?vb35) rfl (by kernel_rfl) (fun _ _ _ h => h) (Or.inl ⟨by rfl, ?hyb35⟩) (by assumption) ?rb35
      case hyb35 => (intro w hSw; (try dsimp only at hSw); go_simp; try with_reducible rfl)
      try simp only [Act.put, qGa, qGb, qGc, qSa, qSb, qSc]
      refine wpAnyH_ready (rs := [6]) (by kernel_rfl) (by simp) ?_
      refine AllReadyH.cons rfl (fun K4 hK4 => ?_) AllReadyH.nil
      obtain ⟨wA5, hW⟩ : ∃ x, x = wC3.alloc (.cells #[.int .i64 0, .slice none 0 0, .slice none 0 0] 39) := ⟨_, rfl⟩
      obtain ⟨gA5, hg⟩ : ∃ x, x = wC3.heap.size := ⟨_, rfl⟩
      have hA5 : Blk wA5 gA5 39 #[.int .i64 0, .slice none 0 0, .slice none 0 0] := by rw [hW, hg]; exact Blk.new _ _ _
      have hb5 : Below wb.heap.size wb wA5 := by rw [hW]; exact hb3.alloc hb3.size _
      have hl5 : wb.heap.size ≤ gA5 := by rw [hg]; exact hb3.size
      have ho5 : OwnE W0.heap.size wA5 (.slice a2 book.length c2) book := by rw [hW]; exact hn2k.alloc _
      go_simp
      rw [← hW, ← hg]
      refine hK4.out _ _ ⟨(HBOX.out _ hb5).cell 0, (HBOX.out _ hb5).cell 1⟩ (fun hHeld => ?_)
      clear hK4 K4 hW hg
      try simp only [Act.put, qGa, qGb, qGc, qSa, qSb, qSc]
      have z0 := hA5.cell 0; have z1 := hA5.cell 1; have z2 := hA5.cell 2
      have f0 := hA5.frozen 0; have f1 := hA5.frozen 1; have f2 := hA5.frozen 2
      refine wpAnyH_ready (rs := [7]) (by kernel_rfl) (by simp) ?_
      refine AllReadyH.cons rfl (fun KS hKS => ?_) AllReadyH.nil
      have hE := Blk.set3 hA5 (.int .i64 me) (.slice a2 book.length c2) (.slice none 0 0)
      have hbE := hb5.set3 hl5 (.int .i64 me) (.slice a2 book.length c2) (.slice none 0 0)
      have hOE := Only.set3 gA5 wA5 (.int .i64 me) (.slice a2 book.length c2) (.slice none 0 0)
      have hoE := (OwnE.off ho5 hA5 hOE.keeps (by decide)).mono hbW.size
      go_simp
      refine hKS.out _ _ ⟨(HBOX.out _ hbE).cell 0, (HBOX.out _ hbE).cell 1⟩ (fun hHeld => ?_)
      clear hKS KS
      try simp only [Act.put, qGa, qGb, qGc, qSa, qSb, qSc]
      refine wpAnyH_done (by kernel_rfl) ?_ _
      go_wp2_with fail
      go_meet
      exact ⟨_, a2, c2, rfl, by omega, hE, hoE, hbE⟩
    · obtain ⟨wA7, hW⟩ : ∃ x, x = W0.alloc (.cells #[.int .i64 0, .slice none 0 0, .slice none 0 0] 39) := ⟨_, rfl⟩
      obtain ⟨gA7, hg⟩ : ∃ x, x = W0.heap.size := ⟨_, rfl⟩
      have hA7 : Blk wA7 gA7 39 #[.int .i64 0, .slice none 0 0, .slice none 0 0] := by rw [hW, hg]; exact Blk.new _ _ _
      have hb7 : Below wb.heap.size wb wA7 := by rw [hW]; exact hbW.alloc hbW.size _
      have hl7 : wb.heap.size ≤ gA7 := by rw [hg]; exact hbW.size
      have hgs7 : gA7 < wA7.heap.size := hA7.lt
      go_simp
      rw [← hW, ← hg]
      refine hK2.out _ _ ⟨(HBOX.out _ hb7).cell 0, (HBOX.out _ hb7).cell 1⟩ (fun hHeld => ?_)
      clear hK2 K2 hW hg
      try simp only [Act.put, qGa, qGb, qGc, qSa, qSb, qSc]
      refine wpAnyH_ready (rs := [4]) (by kernel_rfl) (by simp) ?_
      refine AllReadyH.cons rfl (fun K8 hK8 => ?_) AllReadyH.nil
      go_simp
      refine (HCP.out _ hb7).mono ?_
      rintro e wC9 ⟨v2, rfl, hn2, hbc⟩
      have hb9 := hb7.trans (hbc.mono hb7.size)
      have hn2k := hn2
      obtain ⟨a2, c2, rfl, -⟩ := hn2.ents hbw
      have hA9 := hA7.below hbc hA7.lt
      go_wp2_with fail
      refine hK8.out _ _ ⟨(HBOX.out _ hb9).cell 0, (HBOX.out _ hb9).cell 1⟩ (fun hHeld => ?_)
      clear hK8 K8
      try simp only [Act.put, qGa, qGb, qGc, qSa, qSb, qSc]
      refine tk (i := 5) (v := ?vb95) rfl (by kernel_rfl) (fun _ _ _ h => h) (Or.inl ⟨by rfl, ?hyb95⟩) (by assumption) ?rb95
      case hyb95 => (intro w hSw; (try dsimp only at hSw); go_simp; try with_reducible rfl)
      try simp only [Act.put, qGa, qGb, qGc, qSa, qSb, qSc]
      have z0 := hA9.cell 0; have z1 := hA9.cell 1; have z2 := hA9.cell 2
      have f0 := hA9.frozen 0; have f1 := hA9.frozen 1; have f2 := hA9.frozen 2
      refine wpAnyH_ready (rs := [7]) (by kernel_rfl) (by simp) ?_
      refine AllReadyH.cons rfl (fun KS hKS => ?_) AllReadyH.nil
      have hE := Blk.set3 hA9 (.int .i64 me) (.slice a2 book.length c2) (.slice none 0 0)
      have hbE := hb9.set3 hl7 (.int .i64 me) (.slice a2 book.length c2) (.slice none 0 0)
      have hOE := Only.set3 gA7 wC9 (.int .i64 me) (.slice a2 book.length c2) (.slice none 0 0)
      have hoE := (OwnE.off hn2k hA9 hOE.keeps (by decide)).mono hb7.size
      go_simp
      refine hKS.out _ _ ⟨(HBOX.out _ hbE).cell 0, (HBOX.out _ hbE).cell 1⟩ (fun hHeld => ?_)
      clear hKS KS
      try simp only [Act.put, qGa, qGb, qGc, qSa, qSb, qSc]
      refine wpAnyH_done (by kernel_rfl) ?_ _
      go_wp2_with fail
      go_meet
      exact ⟨_, a2, c2, rfl, by omega, hE, hoE, hbE⟩
  case rest =>
    obtain ⟨go, ab2, cb2, rfl, hgo, hout, hobk, hbx⟩ := hcut
    have hol0 := ownRows_nil wb.heap.size wc
    have hl0 : (0 : Nat) ≤ na := Nat.zero_le _
    go_wp2
    go_loopw [4] (fun s4 wr => ∃ (i : Nat) (ak : Option Addr) (nk ck : Nat), i ≤ na ∧ s4 = .int .i64 i ∧ Blk wr go 39 #[.int .i64 me, .slice ab2 book.length cb2, .slice ak nk ck] ∧ OwnRows wb.heap.size wr (.slice ak nk ck) (acks.take i) ∧ OwnE wb.heap.size wr (.slice ab2 book.length cb2) book ∧ Below wb.heap.size wb wr) (fun s4 _ => na - (intOf s4).toNat)
    case atStart => exact ⟨0, none, 0, 0, hl0, rfl, hout, hol0, hobk, hbx⟩
    case round =>
      obtain ⟨i, ak, nk, ck, hi, rfl, hout, hown, hobk, hbel⟩ := hrel
      have hsz := hbel.size
      have hboxr := HBOX.out wr hbel
      clear d0 d1 d2
      have d2 := hboxr.cell 2
      by_cases hlt : i < na
      · have hil : i < acks.length := by have := HAL.out; omega
        obtain ⟨ba, oa, rfl, hbaB, hrc⟩ := ha.at i hlt
        obtain ⟨ar, mr, cr, hcell, hri, hrz⟩ := hrc i hlt
        clear hrc
        obtain ⟨rw1, hrw1⟩ : ∃ r, RW acks i = r := ⟨_, rfl⟩
        rw [hrw1] at hri
        have hmr : mr ≤ 1048576 := by
          have h1 := hri.hlen
          have h2 := HRL.out rw1 (by rw [← hrw1, RW_get hil]; exact List.getElem_mem _)
          omega
        have hrw : AllI64 rw1 := hri.wf
        have htk : acks.take (i + 1) = acks.take i ++ [rw1] := by rw [List.take_succ_eq_append_getElem hil, ← RW_get hil, hrw1]
        have hrws : AllR (acks.take i ++ [rw1]) := fun r hr => by
          rw [← htk] at hr
          exact HAW.out r (List.mem_of_mem_take hr)
        have htl : (acks.take i).length ≤ 1099511627776 := by rw [List.length_take]; omega
        have HTK := Lib.hid htk; clear htk hrw1
        have HROW : Hid (∀ w', Below wb.heap.size wb w' → w'.cell? ⟨ba, oa + i, none⟩ = some (.slice ar mr cr)) := Lib.hid (fun w' h => ((HA.out w' h).cell (p := ⟨ba, oa + i, none⟩) (by show ba < w.heap.size; omega)).trans hcell)
        have HL1 : Hid (∀ w', Below wb.heap.size wb w' → Calls Tryz.prog 74 #[.slice ar mr cr] w' (NewInts rw1 w')) := Lib.hid (fun w' h => l1Copy_any B ar mr cr rw1 w' (hri.below (HA.out w' h) hB (Nat.le_refl B)) (by have := (HA.out w' h).size; omega) hrz (by omega))
        have i0 : (0 : Int) ≤ i := by omega
        have i1 : (i : Int) < na := by omega
        clear hcell hri
        go_wp2_with fail
        refine wp_region_held_drew (S := (fun w' => w'.cell? ⟨g, 2, none⟩ = some (.slice (some ⟨ba, oa, none⟩) na ca) ∧ w'.cell? ⟨ba, oa + i, none⟩ = some (.slice ar mr cr))) (by kernel_rfl) ⟨(HBOX.out _ hbel.drew).cell 2, HROW.out _ hbel.drew⟩ (fun hHeld => ?_)
        obtain ⟨W0, hW0⟩ : ∃ x, x = wr.drew := ⟨_, rfl⟩
        have hbW : Below wb.heap.size wb W0 := by rw [hW0]; exact hbel.drew
        have houtW : Blk W0 go 39 #[.int .i64 me, .slice ab2 book.length cb2, .slice ak nk ck] := by rw [hW0]; exact hout
        have horW : OwnRows wb.heap.size W0 (.slice ak nk ck) (acks.take i) := by rw [hW0]; exact hown.below (Below.refl wr.heap.size wr).drew (Nat.le_refl _)
        have hobW : OwnE wb.heap.size W0 (.slice ab2 book.length cb2) book := by rw [hW0]; exact hobk.below (Below.refl wr.heap.size wr).drew (Nat.le_refl _)
        rw [← hW0] at hHeld ⊢
        clear hW0
        refine tk (i := 0) (v := ?vj0) rfl (by kernel_rfl) (fun _ _ _ h => h) (Or.inl ⟨by rfl, ?hyj0⟩) (by assumption) ?rj0
        case hyj0 => (intro w hSw; (try dsimp only at hSw); go_simp; try with_reducible rfl)
        try simp only [Act.put, qGa, qGb, qGc, qSa, qSb, qSc]
        refine tk (i := 2) (v := ?vj2) rfl (by kernel_rfl) (fun _ _ _ h => h) (Or.inl ⟨by rfl, ?hyj2⟩) (by assumption) ?rj2
        case hyj2 => (intro w hSw; (try dsimp only at hSw); go_simp; try with_reducible rfl)
        try simp only [Act.put, qGa, qGb, qGc, qSa, qSb, qSc]
        refine tk (i := 3) (v := ?vj3) rfl (by kernel_rfl) (fun _ _ _ h => h) (Or.inl ⟨by rfl, ?hyj3⟩) (by assumption) ?rj3
        case hyj3 => (intro w hSw; (try dsimp only at hSw); go_simp; try with_reducible rfl)
        try simp only [Act.put, qGa, qGb, qGc, qSa, qSb, qSc]
        refine tk (i := 4) (v := ?vj4) rfl (by kernel_rfl) (fun _ _ _ h => h) (Or.inl ⟨by rfl, ?hyj4⟩) (by assumption) ?rj4
        case hyj4 => (intro w hSw; (try dsimp only at hSw); go_simp; try with_reducible rfl)
        try simp only [Act.put, qGa, qGb, qGc, qSa, qSb, qSc]
        refine tk (i := 5) (v := ?vj5) rfl (by kernel_rfl) (fun _ _ _ h => h) (Or.inl ⟨by rfl, ?hyj5⟩) (by assumption) ?rj5
        case hyj5 => (intro w hSw; (try dsimp only at hSw); go_simp; try with_reducible rfl)
        try simp only [Act.put, qGa, qGb, qGc, qSa, qSb, qSc]
        refine tk (i := 6) (v := ?vj6) rfl (by kernel_rfl) (fun _ _ _ h => h) (Or.inl ⟨by rfl, ?hyj6⟩) (by assumption) ?rj6
        case hyj6 => (intro w hSw; (try dsimp only at hSw); go_simp; try with_reducible rfl)
        try simp only [Act.put, qGa, qGb, qGc, qSa, qSb, qSc]
        refine wpAnyH_ready (rs := [1, 7]) (by kernel_rfl) (by simp) ?_
        refine AllReadyH.cons rfl (fun K11 hK11 => ?_) (AllReadyH.cons rfl (fun K12 hK12 => ?_) AllReadyH.nil)
        · have zl := houtW.cell 2
          go_simp
          refine hK11.out _ _ ⟨(HBOX.out _ hbW).cell 2, HROW.out _ hbW⟩ (fun hHeld => ?_)
          clear hK11 K11 zl
          try simp only [Act.put, qGa, qGb, qGc, qSa, qSb, qSc]
          refine wpAnyH_ready (rs := [7]) (by kernel_rfl) (by simp) ?_
          refine AllReadyH.cons rfl (fun K14 hK14 => ?_) AllReadyH.nil
          go_simp
          refine (HL1.out _ hbW).mono ?_
          rintro e w2 ⟨v2, rfl, hn2, hb2⟩
          have hbel2 := hbW.trans (hb2.mono hbW.size)
          have hn2k : Own wb.heap.size w2 v2 rw1 := hn2.mono hbW.size
          obtain ⟨a3, c3, rfl, -⟩ := hn2.ints hrw
          have hout2 := houtW.below hb2 houtW.lt
          have hor2 := horW.below hb2 (Nat.le_refl _)
          have hob2 := hobW.below hb2 (Nat.le_refl _)
          go_wp2_with fail
          refine hK14.out _ _ ⟨(HBOX.out _ hbel2).cell 2, HROW.out _ hbel2⟩ (fun hHeld => ?_)
          clear hK14 K14
          try simp only [Act.put, qGa, qGb, qGc, qSa, qSb, qSc]
          refine wpAnyH_ready (rs := [8]) (by kernel_rfl) (by simp) ?_
          refine AllReadyH.cons rfl (fun K16 hK16 => ?_) AllReadyH.nil
          obtain ⟨W3, hW3⟩ : ∃ x, x = w2.alloc (.cells #[.slice a3 rw1.length c3] 78) := ⟨_, rfl⟩
          have hbel3 : Below wb.heap.size wb W3 := by rw [hW3]; exact hbel2.alloc hbel2.size _
          have hout3 : Blk W3 go 39 #[.int .i64 me, .slice ab2 book.length cb2, .slice ak nk ck] := by rw [hW3]; exact hout2.alloc _
          have HW3 := Lib.hid hW3; clear hW3
          go_simp
          rw [← HW3.out]
          refine hK16.out _ _ ⟨(HBOX.out _ hbel3).cell 2, HROW.out _ hbel3⟩ (fun hHeld => ?_)
          clear hK16 K16
          try simp only [Act.put, qGa, qGb, qGc, qSa, qSb, qSc]
          refine wpAnyH_ready (rs := [9]) (by kernel_rfl) (by simp) ?_
          refine AllReadyH.cons rfl (fun K18 hK18 => ?_) AllReadyH.nil
          rw [HW3.out]
          refine stepR_one (w := w2) (.slice a3 rw1.length c3) rw1 rfl _ _ rfl wb.heap.size (.slice ak nk ck) (acks.take i) rfl rfl hor2 hn2k hrw hbel2.size htl ?_
          intro v4 w4 hor4 hb4 haside
          have hbel4 := hbel2.trans hb4
          have hout4 := haside.blk go _ _ (by decide) hout2
          have hob4 : OwnE wb.heap.size w4 (.slice ab2 book.length cb2) book := haside.row _ _ _ _ _ _ (by decide) hob2
          have hor4k := hor4
          obtain ⟨a4, c4, rfl, -⟩ := hor4.rows hrws
          obtain ⟨n4, hn4⟩ : ∃ n4, (acks.take i ++ [rw1]).length = n4 := ⟨_, rfl⟩
          rw [hn4] at hor4k ⊢
          clear hn4
          refine hK18.out _ _ ⟨(HBOX.out _ hbel4).cell 2, HROW.out _ hbel4⟩ (fun hHeld => ?_)
          clear hK18 K18 HW3 hbel3 hout3
          try simp only [Act.put, qGa, qGb, qGc, qSa, qSb, qSc]
          refine tk (i := 10) (v := ?vq1910) rfl (by kernel_rfl) (fun _ _ _ h => h) (Or.inl ⟨by rfl, ?hyq1910⟩) (by assumption) ?rq1910
          case hyq1910 => (intro w hSw; (try dsimp only at hSw); go_simp; try with_reducible rfl)
          try simp only [Act.put, qGa, qGb, qGc, qSa, qSb, qSc]
          refine wpAnyH_ready (rs := [11]) (by kernel_rfl) (by simp) ?_
          refine AllReadyH.cons rfl (fun K20 hK20 => ?_) AllReadyH.nil
          have z2 := hout4.cell 2
          have f2 := hout4.frozen 2
          have hout5 : Blk (w4.setCell ⟨go, 2, none⟩ (.slice a4 n4 c4)) go 39 #[.int .i64 me, .slice ab2 book.length cb2, .slice a4 n4 c4] := by
            have h := hout4.set_ 2 (.slice a4 n4 c4)
            simpa using h
          have hbel5 := hbel4.setCell (p := ⟨go, 2, none⟩) hgo (.slice a4 n4 c4)
          have hO5 := (Only.refl go w4).setCell 2 (.slice a4 n4 c4)
          have hor5 := OwnRows.off hor4k hout4 hO5.keeps (by decide) (by decide)
          have hob5 := OwnE.off hob4 hout4 hO5.keeps (by decide)
          go_simp
          refine hK20.out _ _ ⟨(HBOX.out _ hbel5).cell 2, HROW.out _ hbel5⟩ (fun hHeld => ?_)
          clear hK20 K20
          try simp only [Act.put, qGa, qGb, qGc, qSa, qSb, qSc]
          refine wpAnyH_done (by kernel_rfl) ?_ _
          go_wp2_with fail
          go_roundw
          case rel => exact ⟨i + 1, _, _, _, by omega, by go_num, hout5, by rw [HTK.out]; exact hor5, hob5, hbel5⟩
          case measure => simp [intOf]; omega
        · go_simp
          refine (HL1.out _ hbW).mono ?_
          rintro e w2 ⟨v2, rfl, hn2, hb2⟩
          have hbel2 := hbW.trans (hb2.mono hbW.size)
          have hn2k : Own wb.heap.size w2 v2 rw1 := hn2.mono hbW.size
          obtain ⟨a3, c3, rfl, -⟩ := hn2.ints hrw
          have hout2 := houtW.below hb2 houtW.lt
          have hor2 := horW.below hb2 (Nat.le_refl _)
          have hob2 := hobW.below hb2 (Nat.le_refl _)
          go_wp2_with fail
          refine hK12.out _ _ ⟨(HBOX.out _ hbel2).cell 2, HROW.out _ hbel2⟩ (fun hHeld => ?_)
          clear hK12 K12
          try simp only [Act.put, qGa, qGb, qGc, qSa, qSb, qSc]
          refine wpAnyH_ready (rs := [1, 8]) (by kernel_rfl) (by simp) ?_
          refine AllReadyH.cons rfl (fun K23 hK23 => ?_) (AllReadyH.cons rfl (fun K24 hK24 => ?_) AllReadyH.nil)
          · have zl := hout2.cell 2
            go_simp
            refine hK23.out _ _ ⟨(HBOX.out _ hbel2).cell 2, HROW.out _ hbel2⟩ (fun hHeld => ?_)
            clear hK23 K23 zl
            try simp only [Act.put, qGa, qGb, qGc, qSa, qSb, qSc]
            refine wpAnyH_ready (rs := [8]) (by kernel_rfl) (by simp) ?_
            refine AllReadyH.cons rfl (fun K26 hK26 => ?_) AllReadyH.nil
            obtain ⟨W3, hW3⟩ : ∃ x, x = w2.alloc (.cells #[.slice a3 rw1.length c3] 78) := ⟨_, rfl⟩
            have hbel3 : Below wb.heap.size wb W3 := by rw [hW3]; exact hbel2.alloc hbel2.size _
            have hout3 : Blk W3 go 39 #[.int .i64 me, .slice ab2 book.length cb2, .slice ak nk ck] := by rw [hW3]; exact hout2.alloc _
            have HW3 := Lib.hid hW3; clear hW3
            go_simp
            rw [← HW3.out]
            refine hK26.out _ _ ⟨(HBOX.out _ hbel3).cell 2, HROW.out _ hbel3⟩ (fun hHeld => ?_)
            clear hK26 K26
            try simp only [Act.put, qGa, qGb, qGc, qSa, qSb, qSc]
            refine wpAnyH_ready (rs := [9]) (by kernel_rfl) (by simp) ?_
            refine AllReadyH.cons rfl (fun K28 hK28 => ?_) AllReadyH.nil
            rw [HW3.out]
            refine stepR_one (w := w2) (.slice a3 rw1.length c3) rw1 rfl _ _ rfl wb.heap.size (.slice ak nk ck) (acks.take i) rfl rfl hor2 hn2k hrw hbel2.size htl ?_
            intro v4 w4 hor4 hb4 haside
            have hbel4 := hbel2.trans hb4
            have hout4 := haside.blk go _ _ (by decide) hout2
            have hob4 : OwnE wb.heap.size w4 (.slice ab2 book.length cb2) book := haside.row _ _ _ _ _ _ (by decide) hob2
            have hor4k := hor4
            obtain ⟨a4, c4, rfl, -⟩ := hor4.rows hrws
            obtain ⟨n4, hn4⟩ : ∃ n4, (acks.take i ++ [rw1]).length = n4 := ⟨_, rfl⟩
            rw [hn4] at hor4k ⊢
            clear hn4
            refine hK28.out _ _ ⟨(HBOX.out _ hbel4).cell 2, HROW.out _ hbel4⟩ (fun hHeld => ?_)
            clear hK28 K28 HW3 hbel3 hout3
            try simp only [Act.put, qGa, qGb, qGc, qSa, qSb, qSc]
            refine tk (i := 10) (v := ?vq2910) rfl (by kernel_rfl) (fun _ _ _ h => h) (Or.inl ⟨by rfl, ?hyq2910⟩) (by assumption) ?rq2910
            case hyq2910 => (intro w hSw; (try dsimp only at hSw); go_simp; try with_reducible rfl)
            try simp only [Act.put, qGa, qGb, qGc, qSa, qSb, qSc]
            refine wpAnyH_ready (rs := [11]) (by kernel_rfl) (by simp) ?_
            refine AllReadyH.cons rfl (fun K30 hK30 => ?_) AllReadyH.nil
            have z2 := hout4.cell 2
            have f2 := hout4.frozen 2
            have hout5 : Blk (w4.setCell ⟨go, 2, none⟩ (.slice a4 n4 c4)) go 39 #[.int .i64 me, .slice ab2 book.length cb2, .slice a4 n4 c4] := by
              have h := hout4.set_ 2 (.slice a4 n4 c4)
              simpa using h
            have hbel5 := hbel4.setCell (p := ⟨go, 2, none⟩) hgo (.slice a4 n4 c4)
            have hO5 := (Only.refl go w4).setCell 2 (.slice a4 n4 c4)
            have hor5 := OwnRows.off hor4k hout4 hO5.keeps (by decide) (by decide)
            have hob5 := OwnE.off hob4 hout4 hO5.keeps (by decide)
            go_simp
            refine hK30.out _ _ ⟨(HBOX.out _ hbel5).cell 2, HROW.out _ hbel5⟩ (fun hHeld => ?_)
            clear hK30 K30
            try simp only [Act.put, qGa, qGb, qGc, qSa, qSb, qSc]
            refine wpAnyH_done (by kernel_rfl) ?_ _
            go_wp2_with fail
            go_roundw
            case rel => exact ⟨i + 1, _, _, _, by omega, by go_num, hout5, by rw [HTK.out]; exact hor5, hob5, hbel5⟩
            case measure => simp [intOf]; omega
          · obtain ⟨W3, hW3⟩ : ∃ x, x = w2.alloc (.cells #[.slice a3 rw1.length c3] 78) := ⟨_, rfl⟩
            have hbel3 : Below wb.heap.size wb W3 := by rw [hW3]; exact hbel2.alloc hbel2.size _
            have hout3 : Blk W3 go 39 #[.int .i64 me, .slice ab2 book.length cb2, .slice ak nk ck] := by rw [hW3]; exact hout2.alloc _
            have HW3 := Lib.hid hW3; clear hW3
            go_simp
            rw [← HW3.out]
            refine hK24.out _ _ ⟨(HBOX.out _ hbel3).cell 2, HROW.out _ hbel3⟩ (fun hHeld => ?_)
            clear hK24 K24
            try simp only [Act.put, qGa, qGb, qGc, qSa, qSb, qSc]
            refine wpAnyH_ready (rs := [1]) (by kernel_rfl) (by simp) ?_
            refine AllReadyH.cons rfl (fun K33 hK33 => ?_) AllReadyH.nil
            have zl := hout3.cell 2
            go_simp
            refine hK33.out _ _ ⟨(HBOX.out _ hbel3).cell 2, HROW.out _ hbel3⟩ (fun hHeld => ?_)
            clear hK33 K33 zl
            try simp only [Act.put, qGa, qGb, qGc, qSa, qSb, qSc]
            refine wpAnyH_ready (rs := [9]) (by kernel_rfl) (by simp) ?_
            refine AllReadyH.cons rfl (fun K35 hK35 => ?_) AllReadyH.nil
            rw [HW3.out]
            refine stepR_one (w := w2) (.slice a3 rw1.length c3) rw1 rfl _ _ rfl wb.heap.size (.slice ak nk ck) (acks.take i) rfl rfl hor2 hn2k hrw hbel2.size htl ?_
            intro v4 w4 hor4 hb4 haside
            have hbel4 := hbel2.trans hb4
            have hout4 := haside.blk go _ _ (by decide) hout2
            have hob4 : OwnE wb.heap.size w4 (.slice ab2 book.length cb2) book := haside.row _ _ _ _ _ _ (by decide) hob2
            have hor4k := hor4
            obtain ⟨a4, c4, rfl, -⟩ := hor4.rows hrws
            obtain ⟨n4, hn4⟩ : ∃ n4, (acks.take i ++ [rw1]).length = n4 := ⟨_, rfl⟩
            rw [hn4] at hor4k ⊢
            clear hn4
            refine hK35.out _ _ ⟨(HBOX.out _ hbel4).cell 2, HROW.out _ hbel4⟩ (fun hHeld => ?_)
            clear hK35 K35 HW3 hbel3 hout3
            try simp only [Act.put, qGa, qGb, qGc, qSa, qSb, qSc]
            refine tk (i := 10) (v := ?vq3610) rfl (by kernel_rfl) (fun _ _ _ h => h) (Or.inl ⟨by rfl, ?hyq3610⟩) (by assumption) ?rq3610
            case hyq3610 => (intro w hSw; (try dsimp only at hSw); go_simp; try with_reducible rfl)
            try simp only [Act.put, qGa, qGb, qGc, qSa, qSb, qSc]
            refine wpAnyH_ready (rs := [11]) (by kernel_rfl) (by simp) ?_
            refine AllReadyH.cons rfl (fun K37 hK37 => ?_) AllReadyH.nil
            have z2 := hout4.cell 2
            have f2 := hout4.frozen 2
            have hout5 : Blk (w4.setCell ⟨go, 2, none⟩ (.slice a4 n4 c4)) go 39 #[.int .i64 me, .slice ab2 book.length cb2, .slice a4 n4 c4] := by
              have h := hout4.set_ 2 (.slice a4 n4 c4)
              simpa using h
            have hbel5 := hbel4.setCell (p := ⟨go, 2, none⟩) hgo (.slice a4 n4 c4)
            have hO5 := (Only.refl go w4).setCell 2 (.slice a4 n4 c4)
            have hor5 := OwnRows.off hor4k hout4 hO5.keeps (by decide) (by decide)
            have hob5 := OwnE.off hob4 hout4 hO5.keeps (by decide)
            go_simp
            refine hK37.out _ _ ⟨(HBOX.out _ hbel5).cell 2, HROW.out _ hbel5⟩ (fun hHeld => ?_)
            clear hK37 K37
            try simp only [Act.put, qGa, qGb, qGc, qSa, qSb, qSc]
            refine wpAnyH_done (by kernel_rfl) ?_ _
            go_wp2_with fail
            go_roundw
            case rel => exact ⟨i + 1, _, _, _, by omega, by go_num, hout5, by rw [HTK.out]; exact hor5, hob5, hbel5⟩
            case measure => simp [intOf]; omega
      · have ek : i = na := by omega
        subst ek
        rw [List.take_of_length_le (by have := HAL.out; omega)] at hown
        have i1 : ¬ ((i : Int) < (i : Int)) := by omega
        have hres3 := HRES.out wr hbel
        have hB3 := HA.out wr hbel
        have hownk := hown
        obtain ⟨ak', ck', he, -⟩ := hown.rows HAW.out
        have o0 := hout.cell 0; have o1 := hout.cell 1; have o2 := hout.cell 2
        have z0 := hres3.cell 0; have z1 := hres3.cell 1; have z2 := hres3.cell 2
        have y0 := hres3.frozen 0; have y1 := hres3.frozen 1; have y2 := hres3.frozen 2
        have hZ := Blk.set3 hres3 (.int .i64 me) (.slice ab2 book.length cb2) (.slice ak nk ck)
        have hBZ := hB3.set3 hgr (.int .i64 me) (.slice ab2 book.length cb2) (.slice ak nk ck)
        have hOZ := Only.set3 gr wr (.int .i64 me) (.slice ab2 book.length cb2) (.slice ak nk ck)
        have p0 := hZ.cell 0; have p1 := hZ.cell 1; have p2 := hZ.cell 2
        have ho2 := (OwnE.off hobk hres3 hOZ.keeps (by decide)).mono hs0
        have ho3 := (OwnRows.off hownk hres3 hOZ.keeps (by decide) (by decide)).mono hs0
        have HBZ := Lib.hid hBZ; have HO2 := Lib.hid ho2; have HO3 := Lib.hid ho3
        clear hBZ ho2 ho3 hOZ hZ he
        go_wp2_with fail
        refine bodyPost_ret (v := .agg #[.int .i64 me, .slice ab2 book.length cb2, .slice ak nk ck]) (by simp [results, Tryz.results73, go_sem, p0, p1, p2]) rfl ?_
        exact ⟨_, _, rfl, HO2.out, HO3.out, HBZ.out⟩
end Go.Proofs.YtoniahfdjhhalaaGreat
