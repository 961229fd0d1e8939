/- Texts of this claim, put together. -/
import Derived.Test.YtoniahfdjhhalaaGreatP1
import Derived.Test.YtoniahfdjhhalaaGreatP10
import Derived.Test.YtoniahfdjhhalaaGreatP14

namespace Go.Proofs.YtoniahfdjhhalaaGreat
open Go.RowKit
set_option maxHeartbeats 1000000 in
set_option maxRecDepth 100000 in
theorem l4Copy_any (B : Nat) (ao : Option Addr) (n cap : Nat) (es : List Ent) (w : World) (hx : Ents B w ao n cap es) (hz : ao = none → cap = 0) (hB : B ≤ w.heap.size) (hn : n ≤ 1099511627776) :
    Calls Tryz.prog 83 #[.slice ao n cap] w (NewEs es w) := by
  have hb0 : Below w.heap.size w (w.alloc (.cells #[] 47)) := (Below.refl _ _).alloc (Nat.le_refl _) _
  have hx1 := hx.below hb0 hB (Nat.le_refl B)
  have hs0 := hb0.size
  have ho0 := ownE_empty w
  go_enter Tryz.func83, Tryz.ntmps83
  go_wp2_with (at_builtin; refine appendE_all rfl _ _ rfl w.heap.size B _ [] es ao n cap rfl rfl hx1 hz ho0 hs0 (by simpa using hn) ?_; intro v1 w1 hown1 hb1)
  go_ret
  exact ⟨_, rfl, by simpa using hown1, hb0.trans hb1⟩
structure Nd where
  me : Int
  book : List Ent
  acks : List (List Int)
def zeroNd : Nd := ⟨0, [], []⟩
theorem Blk.set3 {w : World} {g : Nat} {t : TypeId} {a b c : Value} (h : Blk w g t #[a, b, c]) (a' b' c' : Value) : Blk (((w.setCell ⟨g, 0, none⟩ a').setCell ⟨g, 1, none⟩ b').setCell ⟨g, 2, none⟩ c') g t #[a', b', c'] := by
  have h4 := ((h.set_ 0 a').set_ 1 b').set_ 2 c'
  simpa using h4
theorem _root_.Go.RowKit.Below.set3 {B : Nat} {w w' : World} {g : Nat} (h : Below B w w') (hg : B ≤ g) (a b c : Value) : Below B w (((w'.setCell ⟨g, 0, none⟩ a).setCell ⟨g, 1, none⟩ b).setCell ⟨g, 2, none⟩ c) :=
  ((h.setCell (p := ⟨g, 0, none⟩) hg a).setCell (p := ⟨g, 1, none⟩) hg b).setCell (p := ⟨g, 2, none⟩) hg c
theorem Only.set3 (g : Nat) (w : World) (a b c : Value) : Only g w (((w.setCell ⟨g, 0, none⟩ a).setCell ⟨g, 1, none⟩ b).setCell ⟨g, 2, none⟩ c) :=
  (((Only.refl g w).setCell 0 a).setCell 1 b).setCell 2 c
def NodePost (nd : Nd) (w : World) (e : Ending) (w' : World) : Prop := ∃ bv av, e = .returned (.agg #[.int .i64 nd.me, bv, av]) ∧ OwnE w.heap.size w' bv nd.book ∧ OwnRows w.heap.size w' av nd.acks ∧ Below w.heap.size w w'
theorem nodePost_zero {w w' : World} (hb : Below w.heap.size w w') : NodePost zeroNd w (.returned (.agg #[.int .i64 0, .slice none 0 0, .slice none 0 0])) w' :=
  ⟨_, _, rfl, ownE_nil _ _, ownRows_nil _ _, hb⟩
theorem zero4_i64 : AllI64 zero4 := fun x hx => by simp [zero4] at hx; subst hx; exact ⟨by decide, by decide⟩
theorem zeros_wf : AllR zeros := fun r hr => by simp [zeros] at hr; subst hr; exact zero4_i64
def newNode (me : Int) : Nd := if inB me 0 3 = true then ⟨me, [], zeros⟩ else zeroNd
def fallen (nd : Nd) : Nd := if nodeOk nd.me nd.book nd.acks = true then ⟨nd.me, nd.book, zeros⟩ else zeroNd
set_option linter.unusedSimpArgs false in
set_option maxHeartbeats 1000000 in
set_option maxRecDepth 100000 in
theorem specNewNode_any (me : Int) (w : World) :
    Calls Tryz.prog 36 #[.int .i64 me] w (NodePost (newNode me) w) := by
  obtain ⟨wcur, hwb⟩ : ∃ wb, wb = w.alloc (.cells #[.int .i64 0, .slice none 0 0, .slice none 0 0] 39) := ⟨_, rfl⟩
  obtain ⟨gr, hgr0⟩ : ∃ g, g = w.heap.size := ⟨_, rfl⟩
  have hres : Blk wcur gr 39 #[.int .i64 0, .slice none 0 0, .slice none 0 0] := by rw [hwb, hgr0]; exact Blk.new _ _ _
  have hb0 : Below w.heap.size w wcur := by rw [hwb]; exact (Below.refl _ _).alloc (Nat.le_refl _) _
  have hgr : w.heap.size ≤ gr := by omega
  have hs0 := hb0.size
  have hsg : gr < wcur.heap.size := hres.lt
  have h1 := fun w => l3Node_any me w
  have e1 : inB me 0 3 = false → newNode me = zeroNd := fun h => by rw [newNode, if_neg (by rw [h]; simp)]
  have e2 : inB me 0 3 = true → newNode me = ⟨me, [], zeros⟩ := fun h => by rw [newNode, if_pos h]
  generalize newNode me = r at e1 e2
  generalize inB me 0 3 = b1 at h1 e1 e2
  have E1 := Lib.hid e1; have E2 := Lib.hid e2; clear e1 e2
  go_enter Tryz.func36, Tryz.ntmps36
  go_upto_region 1 with fail
  rw [← hwb, ← hgr0]
  clear hwb hgr0
  go_wp2_with fail
  refine (h1 _).mono ?_
  rintro e w1 ⟨rfl, rfl⟩
  rcases b1 with _ | _
  · have hr := E1.out (by first | rfl | trivial)
    subst hr
    clear E1 E2
    have z0 := hres.cell 0; have z1 := hres.cell 1; have z2 := hres.cell 2
    have y0 := hres.frozen 0; have y1 := hres.frozen 1; have y2 := hres.frozen 2
    have hZ := Blk.set3 hres (.int .i64 0) (.slice none 0 0) (.slice none 0 0)
    have hBZ := hb0.set3 hgr (.int .i64 0) (.slice none 0 0) (.slice none 0 0)
    have p0 := hZ.cell 0; have p1 := hZ.cell 1; have p2 := hZ.cell 2
    have HBZ := Lib.hid hBZ; clear hBZ hZ
    go_wp2_with fail
    refine bodyPost_ret (v := .agg #[.int .i64 0, .slice none 0 0, .slice none 0 0]) (by simp [results, Tryz.results36, go_sem, p0, p1, p2]) rfl ?_
    exact nodePost_zero HBZ.out
  · have hr := E2.out (by first | rfl | trivial)
    subst hr
    clear E1 E2
    go_wp2_with fail
    refine (l15Zeros_any _).mono ?_
    rintro e w2 ⟨v2, rfl, hn2, hb2⟩
    have hn2k := hn2
    obtain ⟨a2, c2, rfl, -⟩ := hn2.rows zeros_wf
    have hres2 := hres.below hb2 hres.lt
    have hB2 := hb0.trans (hb2.mono hs0)
    obtain ⟨wcur, hwc⟩ : ∃ x, x = w2 := ⟨_, rfl⟩
    subst hwc
    have z0 := hres2.cell 0; have z1 := hres2.cell 1; have z2 := hres2.cell 2
    have y0 := hres2.frozen 0; have y1 := hres2.frozen 1; have y2 := hres2.frozen 2
    have hZ := Blk.set3 hres2 (.int .i64 me) (.slice none 0 0) (.slice a2 zeros.length c2)
    have hBZ := hB2.set3 hgr (.int .i64 me) (.slice none 0 0) (.slice a2 zeros.length c2)
    have hOZ := Only.set3 gr wcur (.int .i64 me) (.slice none 0 0) (.slice a2 zeros.length c2)
    have p0 := hZ.cell 0; have p1 := hZ.cell 1; have p2 := hZ.cell 2
    have HON := Lib.hid ((hn2k.keeps hOZ.keeps hsg).mono hs0)
    have HBZ := Lib.hid hBZ; clear hBZ hZ hOZ
    go_wp2_with fail
    refine bodyPost_ret (v := .agg #[.int .i64 me, .slice none 0 0, .slice a2 zeros.length c2]) (by simp [results, Tryz.results36, go_sem, p0, p1, p2]) rfl ?_
    exact ⟨_, _, rfl, ownE_nil _ _, HON.out, HBZ.out⟩
set_option linter.unusedSimpArgs false in
set_option maxHeartbeats 2000000 in
set_option maxRecDepth 100000 in
theorem specFallen_any (B : Nat) (me : Int) (ab : Option Addr) (nb cb : Nat) (book : List Ent) (aa : Option Addr) (na ca : Nat) (acks : List (List Int)) (w : World) (hx : Ents B w ab nb cb book) (hz : ab = none → cb = 0) (ha : Rws B w aa na ca acks) (hB : B ≤ w.heap.size) :
    Calls Tryz.prog 58 #[.agg #[.int .i64 me, .slice ab nb cb, .slice aa na ca]] w (NodePost (fallen ⟨me, book, acks⟩) w) := by
  have hlen := hx.hlen
  obtain ⟨wb, hwb⟩ : ∃ wb, wb = (w.alloc (.cells #[.int .i64 me, .slice ab nb cb, .slice aa na ca] 39)).alloc (.cells #[.int .i64 0, .slice none 0 0, .slice none 0 0] 39) := ⟨_, rfl⟩
  obtain ⟨g, hg⟩ : ∃ g, g = w.heap.size := ⟨_, rfl⟩
  obtain ⟨gr, hgr0⟩ : ∃ gr, gr = w.heap.size + 1 := ⟨_, rfl⟩
  have hbox : Blk wb g 39 #[.int .i64 me, .slice ab nb cb, .slice aa na ca] := by rw [hwb, hg]; exact (Blk.new _ _ _).alloc _
  have hres : Blk wb gr 39 #[.int .i64 0, .slice none 0 0, .slice none 0 0] := by
    rw [hwb, hgr0]
    have h := Blk.new (w.alloc (.cells #[.int .i64 me, .slice ab nb cb, .slice aa na ca] 39)) 39 #[.int .i64 0, .slice none 0 0, .slice none 0 0]
    simpa using h
  have hb0 : Below w.heap.size w wb := by rw [hwb]; exact ((Below.refl _ _).alloc (Nat.le_refl _) _).alloc (by simp) _
  have hgr : w.heap.size ≤ gr := by omega
  have hne : g ≠ gr := by omega
  have hs0 := hb0.size
  have hsb := hbox.lt; have hsr := hres.lt
  have HBOX : Hid (∀ w', Below wb.heap.size wb w' → Blk w' g 39 #[.int .i64 me, .slice ab nb cb, .slice aa na ca]) := Lib.hid (fun w' h => hbox.below h hsb)
  have HRES : Hid (∀ w', Below wb.heap.size wb w' → Blk w' gr 39 #[.int .i64 0, .slice none 0 0, .slice none 0 0]) := Lib.hid (fun w' h => hres.below h hsr)
  have HA : Hid (∀ w', Below wb.heap.size wb w' → Below w.heap.size w w') := Lib.hid (fun w' h => hb0.trans (h.mono hs0))
  have hno := specNodeOk_any B me ab nb cb book aa na ca acks wb (hx.below hb0 hB (Nat.le_refl B)) (ha.below hb0 hB (Nat.le_refl B)) (by omega)
  have hcp := fun (hn : nb ≤ 1099511627776) w' (h : Below wb.heap.size wb w') => l4Copy_any B ab nb cb book w' (hx.below (HA.out w' h) hB (Nat.le_refl B)) hz (by have := (HA.out w' h).size; omega) hn
  have e1 : nodeOk me book acks = false → fallen ⟨me, book, acks⟩ = zeroNd := fun h => by rw [fallen, if_neg (by simp [h])]
  have e2 : nodeOk me book acks = true → fallen ⟨me, book, acks⟩ = ⟨me, book, zeros⟩ := fun h => by rw [fallen, if_pos h]
  have e3 : nodeOk me book acks = true → nb ≤ 1099511627776 := fun h => by
    have h2 : bookOk book = true := by
      simp only [nodeOk, soundE, Bool.and_eq_true] at h
      exact h.1.2.1
    have := book_len h2
    omega
  have e4 : nodeOk me book acks = true → AllE book := fun h => by
    have h2 : bookOk book = true := by
      simp only [nodeOk, soundE, Bool.and_eq_true] at h
      exact h.1.2.1
    exact book_wf h2
  generalize fallen ⟨me, book, acks⟩ = r at e1 e2
  generalize nodeOk me book acks = b1 at hno e1 e2 e3 e4
  have E1 := Lib.hid e1; have E2 := Lib.hid e2; have E3 := Lib.hid e3; have E4 := Lib.hid e4; have HCP := Lib.hid hcp; clear e1 e2 e3 e4 hcp hlen
  have d0 := hbox.cell 0; have d1 := hbox.cell 1; have d2 := hbox.cell 2
  go_enter Tryz.func58, Tryz.ntmps58
  go_upto_region 1 with fail
  rw [← hwb, ← hgr0, ← hg]
  clear hwb hg hgr0
  go_wp2_with fail
  refine hno.mono ?_
  rintro e w1 ⟨rfl, hb1⟩
  have hB1 := HA.out w1 hb1
  have hres1 := HRES.out w1 hb1
  have hbox1 := HBOX.out w1 hb1
  have hs1 := hb1.size
  clear d0 d1 d2
  rcases b1 with _ | _
  · have hr := E1.out (by first | rfl | trivial)
    subst hr
    clear E1 E2 E3 E4
    have z0 := hres1.cell 0; have z1 := hres1.cell 1; have z2 := hres1.cell 2
    have y0 := hres1.frozen 0; have y1 := hres1.frozen 1; have y2 := hres1.frozen 2
    have hZ := Blk.set3 hres1 (.int .i64 0) (.slice none 0 0) (.slice none 0 0)
    have hBZ := hB1.set3 hgr (.int .i64 0) (.slice none 0 0) (.slice none 0 0)
    have p0 := hZ.cell 0; have p1 := hZ.cell 1; have p2 := hZ.cell 2
    have HBZ := Lib.hid hBZ; clear hBZ hZ
    go_wp2_with fail
    refine bodyPost_ret (v := .agg #[.int .i64 0, .slice none 0 0, .slice none 0 0]) (by simp [results, Tryz.results58, go_sem, p0, p1, p2]) rfl ?_
    exact nodePost_zero HBZ.out
  · have hr := E2.out (by first | rfl | trivial)
    subst hr
    have hcp := HCP.out (E3.out (by first | rfl | trivial))
    have hbw := E4.out (by first | rfl | trivial)
    clear E1 E2 E3 E4
    have d0 := hbox1.cell 0; have d1 := hbox1.cell 1; have d2 := hbox1.cell 2
    have HC2 := Lib.hid hcp; clear hcp
    go_wp2_with fail
    refine wp_region_held_drew (S := (fun w' => w'.cell? ⟨g, 0, none⟩ = some (.int .i64 me) ∧ w'.cell? ⟨g, 1, none⟩ = some (.slice ab nb cb) ∧ w'.cell? ⟨g, 2, none⟩ = some (.slice aa na ca))) (by kernel_rfl) ⟨d0, d1, d2⟩ (fun hHeld => ?_)
    refine tk (i := 0) (v := ?va0) rfl (by kernel_rfl) (fun _ _ _ h => h) (Or.inl ⟨by rfl, ?hya0⟩) (by assumption) ?ra0
    case hya0 => (intro w hSw; (try dsimp only at hSw); go_simp; try with_reducible rfl)
    try simp only [Act.put, qGa, qGb, qGc, qSa, qSb, qSc]
    refine tk (i := 1) (v := ?va1) rfl (by kernel_rfl) (fun _ _ _ h => h) (Or.inl ⟨by rfl, ?hya1⟩) (by assumption) ?ra1
    case hya1 => (intro w hSw; (try dsimp only at hSw); go_simp; try with_reducible rfl)
    try simp only [Act.put, qGa, qGb, qGc, qSa, qSb, qSc]
    refine tk (i := 2) (v := ?va2) rfl (by kernel_rfl) (fun _ _ _ h => h) (Or.inl ⟨by rfl, ?hya2⟩) (by assumption) ?ra2
    case hya2 => (intro w hSw; (try dsimp only at hSw); go_simp; try with_reducible rfl)
    try simp only [Act.put, qGa, qGb, qGc, qSa, qSb, qSc]
    refine tk (i := 3) (v := ?va3) rfl (by kernel_rfl) (fun _ _ _ h => h) (Or.inl ⟨by rfl, ?hya3⟩) (by assumption) ?ra3
    case hya3 => (intro w hSw; (try dsimp only at hSw); go_simp; try with_reducible rfl)
    try simp only [Act.put, qGa, qGb, qGc, qSa, qSb, qSc]
    refine wpAnyH_ready (rs := [4]) (by kernel_rfl) (by simp) ?_
    refine AllReadyH.cons rfl (fun Kb hKb => ?_) AllReadyH.nil
    go_simp
    refine (HC2.out _ (hb1.trans ((Below.refl w1.heap.size w1).drew.mono hs1))).mono ?_
    rintro e w2 ⟨v2, rfl, hn2, hb2'⟩
    have hb2 := (Below.refl w1.heap.size w1).drew.trans hb2'
    have hn2k : OwnE w1.heap.size w2 v2 book := hn2
    obtain ⟨a2, c2, rfl, -⟩ := hn2.ents hbw
    go_wp2_with fail
    refine hKb.out _ _ ⟨(HBOX.out _ (hb1.trans (hb2.mono hs1))).cell 0, (HBOX.out _ (hb1.trans (hb2.mono hs1))).cell 1, (HBOX.out _ (hb1.trans (hb2.mono hs1))).cell 2⟩ (fun hHeld => ?_)
    clear hKb Kb
    try simp only [Act.put, qGa, qGb, qGc, qSa, qSb, qSc]
    refine wpAnyH_ready (rs := [5]) (by kernel_rfl) (by simp) ?_
    refine AllReadyH.cons rfl (fun Kc hKc => ?_) AllReadyH.nil
    go_simp
    refine (l15Zeros_any _).mono ?_
    rintro e w3 ⟨v3, rfl, hn3, hb3⟩
    have hn3k := hn3
    obtain ⟨a3, c3, rfl, -⟩ := hn3.rows zeros_wf
    have hb13 := hb2.trans (hb3.mono hb2.size)
    have hbb3 := hb1.trans (hb13.mono hs1)
    go_wp2_with fail
    refine hKc.out _ _ ⟨(HBOX.out _ hbb3).cell 0, (HBOX.out _ hbb3).cell 1, (HBOX.out _ hbb3).cell 2⟩ (fun hHeld => ?_)
    clear hKc Kc
    try simp only [Act.put, qGa, qGb, qGc, qSa, qSb, qSc]
    refine tk (i := 6) (v := ?vd6) rfl (by kernel_rfl) (fun _ _ _ h => h) (Or.inl ⟨by rfl, ?hyd6⟩) (by assumption) ?rd6
    case hyd6 => (intro w hSw; (try dsimp only at hSw); go_simp; try with_reducible rfl)
    try simp only [Act.put, qGa, qGb, qGc, qSa, qSb, qSc]
    have hres3 := HRES.out _ hbb3
    have hbox3 := HBOX.out _ hbb3
    have hB3 := HA.out _ hbb3
    have z0 := hres3.cell 0; have z1 := hres3.cell 1; have z2 := hres3.cell 2
    have y0 := hres3.frozen 0; have y1 := hres3.frozen 1; have y2 := hres3.frozen 2
    have hZ := Blk.set3 hres3 (.int .i64 me) (.slice a2 book.length c2) (.slice a3 zeros.length c3)
    have hBZ := hB3.set3 hgr (.int .i64 me) (.slice a2 book.length c2) (.slice a3 zeros.length c3)
    have hOZ := Only.set3 gr w3 (.int .i64 me) (.slice a2 book.length c2) (.slice a3 zeros.length c3)
    have hboxZ := hbox3.keeps hOZ.keeps hne
    have hsr1 : gr < w1.heap.size := by omega
    have hsr2 : gr < w2.heap.size := by have := hb2.size; omega
    have ho2 := ((hn2k.below hb3 (Nat.le_refl _)).keeps hOZ.keeps hsr1).mono (show w.heap.size ≤ w1.heap.size by omega)
    have ho3 := (hn3k.keeps hOZ.keeps hsr2).mono (show w.heap.size ≤ w2.heap.size by have := hb2.size; omega)
    have p0 := hZ.cell 0; have p1 := hZ.cell 1; have p2 := hZ.cell 2
    refine wpAnyH_ready (rs := [7]) (by kernel_rfl) (by simp) ?_
    refine AllReadyH.cons rfl (fun Ke hKe => ?_) AllReadyH.nil
    go_simp
    refine hKe.out _ _ ⟨(hboxZ).cell 0, (hboxZ).cell 1, (hboxZ).cell 2⟩ (fun hHeld => ?_)
    clear hKe Ke
    try simp only [Act.put, qGa, qGb, qGc, qSa, qSb, qSc]
    refine wpAnyH_done (by kernel_rfl) ?_ _
    have HBZ := Lib.hid hBZ; have HO2 := Lib.hid ho2; have HO3 := Lib.hid ho3
    clear hBZ ho2 ho3 hOZ hboxZ hZ
    go_wp2_with fail
    refine bodyPost_ret (v := .agg #[.int .i64 me, .slice a2 book.length c2, .slice a3 zeros.length c3]) (by simp [results, Tryz.results58, go_sem, p0, p1, p2]) rfl ?_
    exact ⟨_, _, rfl, HO2.out, HO3.out, HBZ.out⟩
end Go.Proofs.YtoniahfdjhhalaaGreat
