/- Texts of this claim, put together. -/
import Derived.Test.YtoniahfdjhhalaaGreatP1
import Derived.Test.YtoniahfdjhhalaaGreatP10
import Derived.Test.YtoniahfdjhhalaaGreatP13
import Derived.Test.YtoniahfdjhhalaaGreatP15

namespace Go.Proofs.YtoniahfdjhhalaaGreat
open Go.RowKit
def news (known : List Int) (e : Ent) : Bool := decide (known.getD e.o.toNat 0 < e.d)
def partE (es : List Ent) (known : List Int) : List Ent := es.filter (news known)
theorem part_yes {es : List Ent} {known : List Int} {k : Nat} (h : k < es.length) (hn : news known (E es k) = true) : partE (es.take (k + 1)) known = partE (es.take k) known ++ [E es k] := by
  unfold partE
  rw [takeE h, List.filter_append]
  simp [hn]
theorem part_no {es : List Ent} {known : List Int} {k : Nat} (h : k < es.length) (hn : news known (E es k) = false) : partE (es.take (k + 1)) known = partE (es.take k) known := by
  unfold partE
  rw [takeE h, List.filter_append]
  simp [hn]
theorem part_len (es : List Ent) (known : List Int) : (partE es known).length ≤ es.length := List.length_filter_le _ _
theorem part_wf {es : List Ent} (known : List Int) (h : AllE es) : AllE (partE es known) := fun e he => h e (List.mem_filter.1 he).1
set_option maxHeartbeats 2000000 in
set_option maxRecDepth 100000 in
theorem l10Part_any (B : Nat) (ao : Option Addr) (n cap : Nat) (es : List Ent) (bo : Option Addr) (m dap : Nat) (ks : List Int) (w : World) (hx : Ents B w ao n cap es) (hy : Ints B w bo m dap ks) (hB : B ≤ w.heap.size) (hok : bookOk es = true) (hm : m = 4) :
    Calls Tryz.prog 82 #[.slice ao n cap, .slice bo m dap] w (NewEs (partE es ks) w) := by
  have hx0 := hx.hlen; have hx1 := hx.hcap; have hx2 := hx.hmax
  have hy1 := hy.hcap; have hy2 := hy.hmax
  unfold maxLen at hx2 hy2
  subst hm
  have hl20 : n ≤ 20 := by have := book_len hok; omega
  have HX := Lib.hid hx0; clear hx0
  have hr := book_right hok
  have HR := Lib.hid hr; clear hr
  have hb0 : Below w.heap.size w (w.alloc (.cells #[] 47)) := (Below.refl _ _).alloc (Nat.le_refl _) _
  have ho0 := ownE_empty w
  go_enter Tryz.func82, Tryz.ntmps82
  go_wp2
  go_loopw [5, 6] (fun s5 s6 wr => ∃ k : Nat, k ≤ n ∧ s6 = .int .i64 k ∧ OwnE w.heap.size wr s5 (partE (es.take k) ks) ∧ Below w.heap.size w wr) (fun _ s6 _ => n - (intOf s6).toNat)
  case atStart => exact ⟨0, by omega, rfl, ho0, hb0⟩
  case round =>
    obtain ⟨k, hk, rfl, hown, hbel⟩ := hrel
    have hsz := hbel.size
    by_cases hlt : k < n
    · have hkl : k < es.length := by have := HX.out; omega
      have hxr := hx.below hbel hB (Nat.le_refl B)
      have hyr := hy.below hbel hB (Nat.le_refl B)
      obtain ⟨b, off, rfl, hbB, hc⟩ := hxr.at k hlt
      have g1 := hc k hlt
      clear hc
      have hgood := Ent.ok_all (HR.out k hkl).1
      have hyes := part_yes (known := ks) hkl
      have hno := part_no (known := ks) hkl
      have hql : (partE (es.take k) ks).length ≤ 1099511627776 := by have := part_len (es.take k) ks; rw [List.length_take] at this; omega
      generalize E es k = x at g1 hgood hyes hno
      obtain ⟨j, hj⟩ : ∃ j : Nat, x.o = j := ⟨x.o.toNat, by omega⟩
      have hj4 : j < 4 := by omega
      have hnw : news ks x = decide (ks.getD j 0 < x.d) := by unfold news; rw [hj, Int.toNat_natCast]
      obtain ⟨b2, off2, rfl, hb2B, hcy⟩ := hyr.at j hj4
      have q0 := hcy j hj4
      rw [hnw] at hyes hno
      obtain ⟨c0, c1, c2, c3⟩ := g1
      have c0' := c0
      rw [hj] at c0
      generalize ks.getD j 0 = z at q0 hyes hno
      have HJ := Lib.hid hj
      clear hcy hnw hgood hj
      have i1 : (0 : Int) ≤ k := by omega
      have i2 : (k : Int) < n := by omega
      have j1 : (0 : Int) ≤ j := by omega
      have j2 : (j : Int) < 4 := by omega
      by_cases hz : z < x.d
      · have d1 : decide (z < x.d) = true := decide_eq_true hz
        have hnext := Lib.hid (hyes d1)
        clear hyes hno
        go_wp2_with fail
        go_quiet (fail)
        have c0q := c0'
        clear c0
        go_wp2_with (at_builtin; refine appendE_one x rfl _ _ rfl w.heap.size _ _ rfl rfl (hown.below (below_drewN (Below.refl _ _) _) (Nat.le_refl _)) hsz hql ?_; intro v' w' hown' hb')
        go_roundw
        case rel => exact ⟨k + 1, by omega, by go_num, by rw [hnext.out]; exact hown', (below_drewN hbel _).trans hb'⟩
        case measure => simp [intOf]; omega
      · have d1 : decide (z < x.d) = false := decide_eq_false hz
        have hnext := Lib.hid (hno d1)
        clear hyes hno
        go_wp2_with fail
        go_quiet (fail)
        go_wp2_with fail
        go_roundw
        case rel => exact ⟨k + 1, by omega, by go_num, by rw [hnext.out]; exact hown.below (below_drewN (Below.refl _ _) _) (Nat.le_refl _), below_drewN hbel _⟩
        case measure => simp [intOf]; omega
    · have ek : k = n := by omega
      subst ek
      rw [List.take_of_length_le (by have := HX.out; omega)] at hown
      go_wp2
      go_ret
      exact ⟨_, rfl, hown, hbel⟩
def zeroLet : Let := ⟨0, 0, [], []⟩
def LetPost (l : Let) (w : World) (e : Ending) (w' : World) : Prop := ∃ vv pv, e = .returned (.agg #[.int .i64 l.f, .int .i64 l.t, vv, pv]) ∧ Own w.heap.size w' vv l.v ∧ OwnE w.heap.size w' pv l.p ∧ Below w.heap.size w w'
theorem own_nil' (B : Nat) (w : World) : Own B w (.slice none 0 0) [] := World.ownsRow_nil w B 2 1
theorem letPost_zero {w w' : World} (hb : Below w.heap.size w w') : LetPost zeroLet w (.returned (.agg #[.int .i64 0, .int .i64 0, .slice none 0 0, .slice none 0 0])) w' :=
  ⟨_, _, rfl, own_nil' _ _, ownE_nil _ _, hb⟩
def letterTo (nd : Nd) (tt : Int) : Let := if nodeOk nd.me nd.book nd.acks = true ∧ inB tt 0 3 = true ∧ ¬ tt = nd.me then ⟨nd.me, tt, vec nd.book, partE nd.book (RW nd.acks tt.toNat)⟩ else zeroLet
theorem node_book {me : Int} {book : List Ent} {acks : List (List Int)} (h : nodeOk me book acks = true) : bookOk book = true ∧ acks.length = 4 ∧ ∀ j, j < 4 → vecOk (RW acks j) = true := by
  simp only [nodeOk, soundE, Bool.and_eq_true] at h
  exact ⟨h.1.2.1, acks_parts h.2⟩
set_option linter.unusedSimpArgs false in
set_option maxHeartbeats 4000000 in
set_option maxRecDepth 100000 in
theorem specLetterTo_any (B : Nat) (me : Int) (ab : Option Addr) (nb cb : Nat) (book : List Ent) (aa : Option Addr) (na ca : Nat) (acks : List (List Int)) (tt : Int) (w : World) (hx : Ents B w ab nb cb book) (ha : Rws B w aa na ca acks) (hB : B ≤ w.heap.size) :
    Calls Tryz.prog 57 #[.agg #[.int .i64 me, .slice ab nb cb, .slice aa na ca], .int .i64 tt] w (LetPost (letterTo ⟨me, book, acks⟩ tt) w) := by
  have hlen := hx.hlen; have hal := ha.hlen
  have hcap := ha.hcap; have hmax := ha.hmax
  unfold maxLen at hmax
  obtain ⟨wb, hwb⟩ : ∃ wb, wb = (w.alloc (.cells #[.int .i64 me, .slice ab nb cb, .slice aa na ca] 39)).alloc (.cells #[.int .i64 0, .int .i64 0, .slice none 0 0, .slice none 0 0] 96) := ⟨_, rfl⟩
  obtain ⟨g, hg⟩ : ∃ g, g = w.heap.size := ⟨_, rfl⟩
  obtain ⟨gr, hgr0⟩ : ∃ gr, gr = w.heap.size + 1 := ⟨_, rfl⟩
  have hbox : Blk wb g 39 #[.int .i64 me, .slice ab nb cb, .slice aa na ca] := by rw [hwb, hg]; exact (Blk.new _ _ _).alloc _
  have hres : Blk wb gr 96 #[.int .i64 0, .int .i64 0, .slice none 0 0, .slice none 0 0] := by
    rw [hwb, hgr0]
    have h := Blk.new (w.alloc (.cells #[.int .i64 me, .slice ab nb cb, .slice aa na ca] 39)) 96 #[.int .i64 0, .int .i64 0, .slice none 0 0, .slice none 0 0]
    simpa using h
  have hb0 : Below w.heap.size w wb := by rw [hwb]; exact ((Below.refl _ _).alloc (Nat.le_refl _) _).alloc (by simp) _
  have hgr : w.heap.size ≤ gr := by omega
  have hne : g ≠ gr := by omega
  have hs0 := hb0.size
  have hsb := hbox.lt; have hsr := hres.lt
  have HBOX0 : Hid (∀ w', Below wb.heap.size wb w' → Blk w' g 39 #[.int .i64 me, .slice ab nb cb, .slice aa na ca]) := Lib.hid (fun w' h => hbox.below h hsb)
  have HRES : Hid (∀ w', Below wb.heap.size wb w' → Blk w' gr 96 #[.int .i64 0, .int .i64 0, .slice none 0 0, .slice none 0 0]) := Lib.hid (fun w' h => hres.below h hsr)
  have HA : Hid (∀ w', Below wb.heap.size wb w' → Below w.heap.size w w') := Lib.hid (fun w' h => hb0.trans (h.mono hs0))
  have hno := specNodeOk_any B me ab nb cb book aa na ca acks wb (hx.below hb0 hB (Nat.le_refl B)) (ha.below hb0 hB (Nat.le_refl B)) (by omega)
  have hnt := fun w => l3Node_any tt w
  have e1 : nodeOk me book acks = false ∨ inB tt 0 3 = false ∨ tt = me → letterTo ⟨me, book, acks⟩ tt = zeroLet := fun h => by
    rw [letterTo, if_neg]
    rintro ⟨h1, h2, h3⟩
    rcases h with h | h | h
    · rw [h] at h1; cases h1
    · rw [h] at h2; cases h2
    · exact h3 h
  have e2 : nodeOk me book acks = true → inB tt 0 3 = true → ¬ tt = me → letterTo ⟨me, book, acks⟩ tt = ⟨me, tt, vec book, partE book (RW acks tt.toNat)⟩ := fun h h2 h3 => by rw [letterTo, if_pos ⟨h, h2, h3⟩]
  have e3 : nodeOk me book acks = true → bookOk book = true ∧ acks.length = 4 ∧ ∀ j, j < 4 → vecOk (RW acks j) = true := node_book
  have e5 : inB tt 0 3 = true → 0 ≤ tt ∧ tt ≤ 3 := fun h => by simpa [inB] using h
  generalize letterTo ⟨me, book, acks⟩ tt = r at e1 e2
  generalize nodeOk me book acks = b1 at hno e1 e2 e3
  generalize inB tt 0 3 = b2 at hnt e1 e2 e5
  have E1 := Lib.hid e1; have E2 := Lib.hid e2; have E3 := Lib.hid e3; have E5 := Lib.hid e5; have HAL := Lib.hid hal; have HLE := Lib.hid hlen; clear e1 e2 e3 e5 hal hlen
  have d0 := hbox.cell 0; have d1 := hbox.cell 1; have d2 := hbox.cell 2
  go_enter Tryz.func57, Tryz.ntmps57
  go_upto_region 1 with fail
  rw [← hwb, ← hgr0, ← hg]
  clear hwb hg hgr0
  go_wp2_with fail
  refine hno.mono ?_
  rintro e w1 ⟨rfl, hb1⟩
  have hB1 := HA.out w1 hb1
  have hres1 := HRES.out w1 hb1
  have hbox1 := HBOX0.out w1 hb1
  have hs1 := hb1.size
  clear d0 d1 d2
  rcases b1 with _ | _
  · have hr := E1.out (.inl (by first | rfl | trivial))
    subst hr
    clear E1 E2 E3 E5
    have z0 := hres1.cell 0; have z1 := hres1.cell 1; have z2 := hres1.cell 2; have z3 := hres1.cell 3
    have y0 := hres1.frozen 0; have y1 := hres1.frozen 1; have y2 := hres1.frozen 2; have y3 := hres1.frozen 3
    have hZ := Blk.set4 hres1 (.int .i64 0) (.int .i64 0) (.slice none 0 0) (.slice none 0 0)
    have hBZ := hB1.set4 hgr (.int .i64 0) (.int .i64 0) (.slice none 0 0) (.slice none 0 0)
    have p0 := hZ.cell 0; have p1 := hZ.cell 1; have p2 := hZ.cell 2; have p3 := hZ.cell 3
    have HBZ := Lib.hid hBZ; clear hBZ hZ
    go_wp2_with fail
    refine bodyPost_ret (v := .agg #[.int .i64 0, .int .i64 0, .slice none 0 0, .slice none 0 0]) (by simp [results, Tryz.results57, go_sem, p0, p1, p2, p3]) rfl ?_
    exact letPost_zero HBZ.out
  · go_wp2_with fail
    refine (hnt _).mono ?_
    rintro e w1 ⟨rfl, rfl⟩
    rcases b2 with _ | _
    · have hr := E1.out (.inr (.inl (by first | rfl | trivial)))
      subst hr
      clear E1 E2 E3 E5
      have z0 := hres1.cell 0; have z1 := hres1.cell 1; have z2 := hres1.cell 2; have z3 := hres1.cell 3
      have y0 := hres1.frozen 0; have y1 := hres1.frozen 1; have y2 := hres1.frozen 2; have y3 := hres1.frozen 3
      have hZ := Blk.set4 hres1 (.int .i64 0) (.int .i64 0) (.slice none 0 0) (.slice none 0 0)
      have hBZ := hB1.set4 hgr (.int .i64 0) (.int .i64 0) (.slice none 0 0) (.slice none 0 0)
      have p0 := hZ.cell 0; have p1 := hZ.cell 1; have p2 := hZ.cell 2; have p3 := hZ.cell 3
      have HBZ := Lib.hid hBZ; clear hBZ hZ
      go_wp2_with fail
      refine bodyPost_ret (v := .agg #[.int .i64 0, .int .i64 0, .slice none 0 0, .slice none 0 0]) (by simp [results, Tryz.results57, go_sem, p0, p1, p2, p3]) rfl ?_
      exact letPost_zero HBZ.out
    · have d0 := hbox1.cell 0; have d1 := hbox1.cell 1; have d2 := hbox1.cell 2
      by_cases hto : tt = me
      · have hr := E1.out (.inr (.inr hto))
        subst hr
        have hto' : (tt == me) = true := by simpa using hto
        clear E1 E2 E3 E5 hto
        have z0 := hres1.cell 0; have z1 := hres1.cell 1; have z2 := hres1.cell 2; have z3 := hres1.cell 3
        have y0 := hres1.frozen 0; have y1 := hres1.frozen 1; have y2 := hres1.frozen 2; have y3 := hres1.frozen 3
        have hZ := Blk.set4 hres1 (.int .i64 0) (.int .i64 0) (.slice none 0 0) (.slice none 0 0)
        have hBZ := hB1.set4 hgr (.int .i64 0) (.int .i64 0) (.slice none 0 0) (.slice none 0 0)
        have p0 := hZ.cell 0; have p1 := hZ.cell 1; have p2 := hZ.cell 2; have p3 := hZ.cell 3
        have HBZ := Lib.hid hBZ; clear hBZ hZ
        go_wp2_with fail
        refine bodyPost_ret (v := .agg #[.int .i64 0, .int .i64 0, .slice none 0 0, .slice none 0 0]) (by simp [results, Tryz.results57, go_sem, p0, p1, p2, p3]) rfl ?_
        exact letPost_zero HBZ.out
      · have hto' : (tt == me) = false := by simpa using hto
        have hr := E2.out (by first | rfl | trivial) (by first | rfl | trivial) hto
        subst hr
        have h3 := E3.out (by first | rfl | trivial)
        have h5 := E5.out (by first | rfl | trivial)
        clear E1 E2 E3 E5 hto hno hnt
        obtain ⟨hbo, hac4, hvall⟩ := h3
        obtain ⟨j, rfl⟩ : ∃ j : Nat, tt = j := ⟨tt.toNat, by omega⟩
        have hj4 : j < 4 := by omega
        obtain rfl : na = 4 := by have := HAL.out; omega
        have hv1 := hvall j hj4
        obtain ⟨ba, oa, rfl, hbaB, hrc⟩ := ha.at j hj4
        obtain ⟨ar, mr, cr, hcell, hri, -⟩ := hrc j hj4
        clear hrc
        have hm4 : mr = 4 := by have h1 := hri.hlen; have h2 := vec_len hv1; omega
        subst hm4
        have HROW : Hid (∀ w', Below wb.heap.size wb w' → w'.cell? ⟨ba, oa + j, none⟩ = some (.slice ar 4 cr)) := Lib.hid (fun w' h => ((HA.out w' h).cell (p := ⟨ba, oa + j, none⟩) (by show ba < w.heap.size; omega)).trans hcell)
        have hrne : ((⟨ba, oa + j, none⟩ : Addr)).block ≠ gr := by show ba ≠ gr; omega
        have HVEC : Hid (∀ w', Below wb.heap.size wb w' → Calls Tryz.prog 81 #[.slice ab nb cb] w' (NewInts (vec book) w')) := Lib.hid (fun w' h => l5Vec_any B ab nb cb book w' (hx.below (HA.out w' h) hB (Nat.le_refl B)) (by have := (HA.out w' h).size; omega) hbo)
        have HPART : Hid (∀ w', Below wb.heap.size wb w' → Calls Tryz.prog 82 #[.slice ab nb cb, .slice ar 4 cr] w' (NewEs (partE book (RW acks j)) w')) := Lib.hid (fun w' h => l10Part_any B ab nb cb book ar 4 cr (RW acks j) w' (hx.below (HA.out w' h) hB (Nat.le_refl B)) (hri.below (HA.out w' h) hB (Nat.le_refl B)) (by have := (HA.out w' h).size; omega) hbo rfl)
        have hvw : AllI64 (vec book) := vec_i64 (book_all hbo)
        have hpw : AllE (partE book (RW acks j)) := part_wf _ (book_wf hbo)
        obtain ⟨ve, hve⟩ : ∃ ve, vec book = ve := ⟨_, rfl⟩
        obtain ⟨pe, hpe⟩ : ∃ pe, partE book (RW acks j) = pe := ⟨_, rfl⟩
        rw [hve] at HVEC hvw
        rw [hpe] at HPART hpw
        have HVE := Lib.hid hve; have HPE := Lib.hid hpe; clear hve hpe
        have r0 := HROW.out w1 hb1
        have HBOX : Hid (∀ w', Below wb.heap.size wb w' → Blk w' g 39 #[.int .i64 me, .slice ab nb cb, .slice (some ⟨ba, oa, none⟩) 4 ca]) := HBOX0
        have i0 : (0 : Int) ≤ j := by omega
        have i1 : (j : Int) < 4 := by omega
        clear HBOX0 hcell hri hvall hv1 hx ha hac4 HAL
        go_wp2_with fail
        refine wp_region_held_drew (S := (fun w' => w'.cell? ⟨g, 0, none⟩ = some (.int .i64 me) ∧ w'.cell? ⟨g, 1, none⟩ = some (.slice ab nb cb) ∧ w'.cell? ⟨g, 2, none⟩ = some (.slice (some ⟨ba, oa, none⟩) 4 ca) ∧ w'.cell? ⟨ba, oa + j, none⟩ = some (.slice ar 4 cr))) (by kernel_rfl) ⟨d0, d1, d2, r0⟩ (fun hHeld => ?_)
        refine tk (i := 0) (v := ?va0) rfl (by kernel_rfl) (fun _ _ _ h => h) (Or.inl ⟨by rfl, ?hya0⟩) (by assumption) ?ra0
        case hya0 => (intro w hSw; (try dsimp only at hSw); go_simp; try with_reducible rfl)
        try simp only [Act.put, qGa, qGb, qGc, qSa, qSb, qSc]
        refine tk (i := 1) (v := ?va1) rfl (by kernel_rfl) (fun _ _ _ h => h) (Or.inl ⟨by rfl, ?hya1⟩) (by assumption) ?ra1
        case hya1 => (intro w hSw; (try dsimp only at hSw); go_simp; try with_reducible rfl)
        try simp only [Act.put, qGa, qGb, qGc, qSa, qSb, qSc]
        refine tk (i := 2) (v := ?va2) rfl (by kernel_rfl) (fun _ _ _ h => h) (Or.inl ⟨by rfl, ?hya2⟩) (by assumption) ?ra2
        case hya2 => (intro w hSw; (try dsimp only at hSw); go_simp; try with_reducible rfl)
        try simp only [Act.put, qGa, qGb, qGc, qSa, qSb, qSc]
        refine tk (i := 3) (v := ?va3) rfl (by kernel_rfl) (fun _ _ _ h => h) (Or.inl ⟨by rfl, ?hya3⟩) (by assumption) ?ra3
        case hya3 => (intro w hSw; (try dsimp only at hSw); go_simp; try with_reducible rfl)
        try simp only [Act.put, qGa, qGb, qGc, qSa, qSb, qSc]
        refine tk (i := 4) (v := ?va4) rfl (by kernel_rfl) (fun _ _ _ h => h) (Or.inl ⟨by rfl, ?hya4⟩) (by assumption) ?ra4
        case hya4 => (intro w hSw; (try dsimp only at hSw); go_simp; try with_reducible rfl)
        try simp only [Act.put, qGa, qGb, qGc, qSa, qSb, qSc]
        refine tk (i := 6) (v := ?va6) rfl (by kernel_rfl) (fun _ _ _ h => h) (Or.inl ⟨by rfl, ?hya6⟩) (by assumption) ?ra6
        case hya6 => (intro w hSw; (try dsimp only at hSw); go_simp; try with_reducible rfl)
        try simp only [Act.put, qGa, qGb, qGc, qSa, qSb, qSc]
        refine tk (i := 7) (v := ?va7) rfl (by kernel_rfl) (fun _ _ _ h => h) (Or.inl ⟨by rfl, ?hya7⟩) (by assumption) ?ra7
        case hya7 => (intro w hSw; (try dsimp only at hSw); go_simp; try with_reducible rfl)
        try simp only [Act.put, qGa, qGb, qGc, qSa, qSb, qSc]
        refine tk (i := 8) (v := ?va8) rfl (by kernel_rfl) (fun _ _ _ h => h) (Or.inl ⟨by rfl, ?hya8⟩) (by assumption) ?ra8
        case hya8 => (intro w hSw; (try dsimp only at hSw); go_simp; try with_reducible rfl)
        try simp only [Act.put, qGa, qGb, qGc, qSa, qSb, qSc]
        refine tk (i := 9) (v := ?va9) rfl (by kernel_rfl) (fun _ _ _ h => h) (Or.inl ⟨by rfl, ?hya9⟩) (by assumption) ?ra9
        case hya9 => (intro w hSw; (try dsimp only at hSw); go_simp; try with_reducible rfl)
        try simp only [Act.put, qGa, qGb, qGc, qSa, qSb, qSc]
        refine tk (i := 10) (v := ?va10) rfl (by kernel_rfl) (fun _ _ _ h => h) (Or.inl ⟨by rfl, ?hya10⟩) (by assumption) ?ra10
        case hya10 => (intro w hSw; (try dsimp only at hSw); go_simp; try with_reducible rfl)
        try simp only [Act.put, qGa, qGb, qGc, qSa, qSb, qSc]
        refine tk (i := 11) (v := ?va11) rfl (by kernel_rfl) (fun _ _ _ h => h) (Or.inl ⟨by rfl, ?hya11⟩) (by assumption) ?ra11
        case hya11 => (intro w hSw; (try dsimp only at hSw); go_simp; try with_reducible rfl)
        try simp only [Act.put, qGa, qGb, qGc, qSa, qSb, qSc]
        refine tk (i := 12) (v := ?va12) rfl (by kernel_rfl) (fun _ _ _ h => h) (Or.inl ⟨by rfl, ?hya12⟩) (by assumption) ?ra12
        case hya12 => (intro w hSw; (try dsimp only at hSw); go_simp; try with_reducible rfl)
        try simp only [Act.put, qGa, qGb, qGc, qSa, qSb, qSc]
        refine wpAnyH_ready (rs := [5]) (by kernel_rfl) (by simp) ?_
        refine AllReadyH.cons rfl (fun Kb hKb => ?_) AllReadyH.nil
        go_simp
        refine (HVEC.out _ (hb1.trans ((Below.refl w1.heap.size w1).drew.mono hs1))).mono ?_
        rintro e w2 ⟨v2, rfl, hn2, hb2'⟩
        have hb2 := (Below.refl w1.heap.size w1).drew.trans hb2'
        have hbb2 := hb1.trans (hb2.mono hs1)
        have hn2k : Own w1.heap.size w2 v2 ve := hn2
        obtain ⟨a2, c2, rfl, -⟩ := hn2.ints hvw
        go_wp2_with fail
        refine hKb.out _ _ ⟨(HBOX.out _ hbb2).cell 0, (HBOX.out _ hbb2).cell 1, (HBOX.out _ hbb2).cell 2, HROW.out _ hbb2⟩ (fun hHeld => ?_)
        clear hKb Kb
        try simp only [Act.put, qGa, qGb, qGc, qSa, qSb, qSc]
        refine wpAnyH_ready (rs := [13]) (by kernel_rfl) (by simp) ?_
        refine AllReadyH.cons rfl (fun Kc hKc => ?_) AllReadyH.nil
        go_simp
        refine (HPART.out _ hbb2).mono ?_
        rintro e w3 ⟨v3, rfl, hn3, hb3⟩
        have hn3k := hn3
        obtain ⟨a3, c3, rfl, -⟩ := hn3.ents hpw
        have hbb3 := hbb2.trans (hb3.mono hbb2.size)
        go_wp2_with fail
        refine hKc.out _ _ ⟨(HBOX.out _ hbb3).cell 0, (HBOX.out _ hbb3).cell 1, (HBOX.out _ hbb3).cell 2, HROW.out _ hbb3⟩ (fun hHeld => ?_)
        clear hKc Kc
        try simp only [Act.put, qGa, qGb, qGc, qSa, qSb, qSc]
        refine tk (i := 14) (v := ?vd14) rfl (by kernel_rfl) (fun _ _ _ h => h) (Or.inl ⟨by rfl, ?hyd14⟩) (by assumption) ?rd14
        case hyd14 => (intro w hSw; (try dsimp only at hSw); go_simp; try with_reducible rfl)
        try simp only [Act.put, qGa, qGb, qGc, qSa, qSb, qSc]
        have hres3 := HRES.out _ hbb3
        have hbox3 := HBOX.out _ hbb3
        have hB3 := HA.out _ hbb3
        have z0 := hres3.cell 0; have z1 := hres3.cell 1; have z2 := hres3.cell 2; have z3 := hres3.cell 3
        have y0 := hres3.frozen 0; have y1 := hres3.frozen 1; have y2 := hres3.frozen 2; have y3 := hres3.frozen 3
        have hZ := Blk.set4 hres3 (.int .i64 me) (.int .i64 j) (.slice a2 ve.length c2) (.slice a3 pe.length c3)
        have hBZ := hB3.set4 hgr (.int .i64 me) (.int .i64 j) (.slice a2 ve.length c2) (.slice a3 pe.length c3)
        have hOZ := ((((Only.refl gr w3).setCell 0 (.int .i64 me)).setCell 1 (.int .i64 j)).setCell 2 (.slice a2 ve.length c2)).setCell 3 (.slice a3 pe.length c3)
        have hboxZ := hbox3.keeps hOZ.keeps hne
        have hrowZ := hOZ.cell (HROW.out _ hbb3) hrne
        have hsr1 : gr < w1.heap.size := by omega
        have hsr2 : gr < w2.heap.size := by have := hb2.size; omega
        have ho2 := ((hn2k.below hb3 (Nat.le_refl _)).keeps hOZ.keeps hsr1).mono (show w.heap.size ≤ w1.heap.size by omega)
        have ho3 := (hn3k.keeps hOZ.keeps hsr2).mono (show w.heap.size ≤ w2.heap.size by have := hb2.size; omega)
        have p0 := hZ.cell 0; have p1 := hZ.cell 1; have p2 := hZ.cell 2; have p3 := hZ.cell 3
        refine wpAnyH_ready (rs := [15]) (by kernel_rfl) (by simp) ?_
        refine AllReadyH.cons rfl (fun Ke hKe => ?_) AllReadyH.nil
        go_simp
        refine hKe.out _ _ ⟨(hboxZ).cell 0, (hboxZ).cell 1, (hboxZ).cell 2, hrowZ⟩ (fun hHeld => ?_)
        clear hKe Ke
        try simp only [Act.put, qGa, qGb, qGc, qSa, qSb, qSc]
        refine wpAnyH_done (by kernel_rfl) ?_ _
        have HBZ := Lib.hid hBZ; have HO2 := Lib.hid ho2; have HO3 := Lib.hid ho3
        clear hBZ ho2 ho3 hOZ hboxZ hZ hrowZ
        go_wp2_with fail
        refine bodyPost_ret (v := .agg #[.int .i64 me, .int .i64 j, .slice a2 ve.length c2, .slice a3 pe.length c3]) (by simp [results, Tryz.results57, go_sem, p0, p1, p2, p3]) rfl ?_
        exact ⟨_, _, rfl, by show Own _ _ _ (vec book); rw [HVE.out]; exact HO2.out, by show OwnE _ _ _ (partE book (RW acks (Int.toNat j))); rw [Int.toNat_natCast, HPE.out]; exact HO3.out, HBZ.out⟩
end Go.Proofs.YtoniahfdjhhalaaGreat
