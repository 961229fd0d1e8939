/- Texts of this claim, put together. -/
import Derived.Test.YtccoljbnddfmpaaGreatDoorP1
import Derived.Test.YtccoljbnddfmpaaGreatDoorP2
import Derived.Test.YtccoljbnddfmpaaGreatDoorP5
import Derived.Deep.RegionHeld3
import Derived.Deep.WholeRow

namespace Go.Proofs.YtccoljbnddfmpaaGreatDoor
open Go.RowKit
structure Nd where
  me : Int
  book : List Ent
  acks : List (List Int)
def zeroNd : Nd := ⟨0, [], []⟩
theorem Blk.set3 {w : World} {g : Nat} {t : TypeId} {a b c : Value} (h : Blk w g t #[a, b, c]) (a' b' c' : Value) : Blk (((w.setCell ⟨g, 0, none⟩ a').setCell ⟨g, 1, none⟩ b').setCell ⟨g, 2, none⟩ c') g t #[a', b', c'] := by
  have h4 := ((h.set_ 0 a').set_ 1 b').set_ 2 c'
  simpa using h4
theorem _root_.Go.RowKit.Below.set3 {B : Nat} {w w' : World} {g : Nat} (h : Below B w w') (hg : B ≤ g) (a b c : Value) : Below B w (((w'.setCell ⟨g, 0, none⟩ a).setCell ⟨g, 1, none⟩ b).setCell ⟨g, 2, none⟩ c) :=
  ((h.setCell (p := ⟨g, 0, none⟩) hg a).setCell (p := ⟨g, 1, none⟩) hg b).setCell (p := ⟨g, 2, none⟩) hg c
theorem Only.set3 (g : Nat) (w : World) (a b c : Value) : Only g w (((w.setCell ⟨g, 0, none⟩ a).setCell ⟨g, 1, none⟩ b).setCell ⟨g, 2, none⟩ c) :=
  (((Only.refl g w).setCell 0 a).setCell 1 b).setCell 2 c
def NodePost (nd : Nd) (w : World) (e : Ending) (w' : World) : Prop := ∃ bv av, e = .returned (.agg #[.int .i64 nd.me, bv, av]) ∧ OwnE w.heap.size w' bv nd.book ∧ OwnRows w.heap.size w' av nd.acks ∧ Below w.heap.size w w'
theorem nodePost_zero {w w' : World} (hb : Below w.heap.size w w') : NodePost zeroNd w (.returned (.agg #[.int .i64 0, .slice none 0 0, .slice none 0 0])) w' :=
  ⟨_, _, rfl, ownE_nil _ _, ownRows_nil _ _, hb⟩
theorem zero4_i64 : AllI64 zero4 := fun x hx => by simp [zero4] at hx; subst hx; exact ⟨by decide, by decide⟩
theorem zeros_wf : AllR zeros := fun r hr => by simp [zeros] at hr; subst hr; exact zero4_i64
def newNode (me : Int) : Nd := if inB me 0 3 = true then ⟨me, [], zeros⟩ else zeroNd
def fallen (nd : Nd) : Nd := if nodeOk nd.me nd.book nd.acks = true then ⟨nd.me, nd.book, zeros⟩ else zeroNd
set_option linter.unusedSimpArgs false in
set_option maxHeartbeats 1000000 in
set_option maxRecDepth 100000 in
theorem specNewNode_any (me : Int) (w : World) :
    Calls Tryz.prog 71 #[.int .i64 me] w (NodePost (newNode me) w) := by
  obtain ⟨wcur, hwb⟩ : ∃ wb, wb = w.alloc (.cells #[.int .i64 0, .slice none 0 0, .slice none 0 0] 55) := ⟨_, rfl⟩
  obtain ⟨gr, hgr0⟩ : ∃ g, g = w.heap.size := ⟨_, rfl⟩
  have hres : Blk wcur gr 55 #[.int .i64 0, .slice none 0 0, .slice none 0 0] := by rw [hwb, hgr0]; exact Blk.new _ _ _
  have hb0 : Below w.heap.size w wcur := by rw [hwb]; exact (Below.refl _ _).alloc (Nat.le_refl _) _
  have hgr : w.heap.size ≤ gr := by omega
  have hs0 := hb0.size
  have hsg : gr < wcur.heap.size := hres.lt
  have h1 := fun w => l3Node_any me w
  have e1 : inB me 0 3 = false → newNode me = zeroNd := fun h => by rw [newNode, if_neg (by rw [h]; simp)]
  have e2 : inB me 0 3 = true → newNode me = ⟨me, [], zeros⟩ := fun h => by rw [newNode, if_pos h]
  generalize newNode me = r at e1 e2
  generalize inB me 0 3 = b1 at h1 e1 e2
  have E1 := Lib.hid e1; have E2 := Lib.hid e2; clear e1 e2
  go_enter Tryz.func71, Tryz.ntmps71
  go_upto_region 1 with fail
  rw [← hwb, ← hgr0]
  clear hwb hgr0
  go_wp2_with fail
  refine (h1 _).mono ?_
  rintro e w1 ⟨rfl, rfl⟩
  rcases b1 with _ | _
  · have hr := E1.out (by first | rfl | trivial)
    subst hr
    clear E1 E2
    have z0 := hres.cell 0; have z1 := hres.cell 1; have z2 := hres.cell 2
    have y0 := hres.frozen 0; have y1 := hres.frozen 1; have y2 := hres.frozen 2
    have hZ := Blk.set3 hres (.int .i64 0) (.slice none 0 0) (.slice none 0 0)
    have hBZ := hb0.set3 hgr (.int .i64 0) (.slice none 0 0) (.slice none 0 0)
    have p0 := hZ.cell 0; have p1 := hZ.cell 1; have p2 := hZ.cell 2
    have HBZ := Lib.hid hBZ; clear hBZ hZ
    go_wp2_with fail
    refine bodyPost_ret (v := .agg #[.int .i64 0, .slice none 0 0, .slice none 0 0]) (by simp [results, Tryz.results71, go_sem, p0, p1, p2]) rfl ?_
    exact nodePost_zero HBZ.out
  · have hr := E2.out (by first | rfl | trivial)
    subst hr
    clear E1 E2
    go_wp2_with fail
    refine (l15Zeros_any _).mono ?_
    rintro e w2 ⟨v2, rfl, hn2, hb2⟩
    have hn2k := hn2
    obtain ⟨a2, c2, rfl, -⟩ := hn2.rows zeros_wf
    have hres2 := hres.below hb2 hres.lt
    have hB2 := hb0.trans (hb2.mono hs0)
    obtain ⟨wcur, hwc⟩ : ∃ x, x = w2 := ⟨_, rfl⟩
    subst hwc
    have z0 := hres2.cell 0; have z1 := hres2.cell 1; have z2 := hres2.cell 2
    have y0 := hres2.frozen 0; have y1 := hres2.frozen 1; have y2 := hres2.frozen 2
    have hZ := Blk.set3 hres2 (.int .i64 me) (.slice none 0 0) (.slice a2 zeros.length c2)
    have hBZ := hB2.set3 hgr (.int .i64 me) (.slice none 0 0) (.slice a2 zeros.length c2)
    have hOZ := Only.set3 gr wcur (.int .i64 me) (.slice none 0 0) (.slice a2 zeros.length c2)
    have p0 := hZ.cell 0; have p1 := hZ.cell 1; have p2 := hZ.cell 2
    have HON := Lib.hid ((hn2k.keeps hOZ.keeps hsg).mono hs0)
    have HBZ := Lib.hid hBZ; clear hBZ hZ hOZ
    go_wp2_with fail
    refine bodyPost_ret (v := .agg #[.int .i64 me, .slice none 0 0, .slice a2 zeros.length c2]) (by simp [results, Tryz.results71, go_sem, p0, p1, p2]) rfl ?_
    exact ⟨_, _, rfl, ownE_nil _ _, HON.out, HBZ.out⟩
set_option linter.unusedSimpArgs false in
set_option maxHeartbeats 2000000 in
set_option maxRecDepth 100000 in
theorem specFallen_any (B : Nat) (me : Int) (ab : Option Addr) (nb cb : Nat) (book : List Ent) (aa : Option Addr) (na ca : Nat) (acks : List (List Int)) (w : World) (hx : Ents B w ab nb cb book) (hz : ab = none → cb = 0) (ha : Rws B w aa na ca acks) (hB : B ≤ w.heap.size) :
    Calls Tryz.prog 79 #[.agg #[.int .i64 me, .slice ab nb cb, .slice aa na ca]] w (NodePost (fallen ⟨me, book, acks⟩) w) := by
  have hlen := hx.hlen
  obtain ⟨wb, hwb⟩ : ∃ wb, wb = (w.alloc (.cells #[.int .i64 me, .slice ab nb cb, .slice aa na ca] 55)).alloc (.cells #[.int .i64 0, .slice none 0 0, .slice none 0 0] 55) := ⟨_, rfl⟩
  obtain ⟨g, hg⟩ : ∃ g, g = w.heap.size := ⟨_, rfl⟩
  obtain ⟨gr, hgr0⟩ : ∃ gr, gr = w.heap.size + 1 := ⟨_, rfl⟩
  have hbox : Blk wb g 55 #[.int .i64 me, .slice ab nb cb, .slice aa na ca] := by rw [hwb, hg]; exact (Blk.new _ _ _).alloc _
  have hres : Blk wb gr 55 #[.int .i64 0, .slice none 0 0, .slice none 0 0] := by
    rw [hwb, hgr0]
    have h := Blk.new (w.alloc (.cells #[.int .i64 me, .slice ab nb cb, .slice aa na ca] 55)) 55 #[.int .i64 0, .slice none 0 0, .slice none 0 0]
    simpa using h
  have hb0 : Below w.heap.size w wb := by rw [hwb]; exact ((Below.refl _ _).alloc (Nat.le_refl _) _).alloc (by simp) _
  have hgr : w.heap.size ≤ gr := by omega
  have hne : g ≠ gr := by omega
  have hs0 := hb0.size
  have hsb := hbox.lt; have hsr := hres.lt
  have HBOX : Hid (∀ w', Below wb.heap.size wb w' → Blk w' g 55 #[.int .i64 me, .slice ab nb cb, .slice aa na ca]) := Lib.hid (fun w' h => hbox.below h hsb)
  have HRES : Hid (∀ w', Below wb.heap.size wb w' → Blk w' gr 55 #[.int .i64 0, .slice none 0 0, .slice none 0 0]) := Lib.hid (fun w' h => hres.below h hsr)
  have HA : Hid (∀ w', Below wb.heap.size wb w' → Below w.heap.size w w') := Lib.hid (fun w' h => hb0.trans (h.mono hs0))
  have hno := specNodeOk_any B me ab nb cb book aa na ca acks wb (hx.below hb0 hB (Nat.le_refl B)) (ha.below hb0 hB (Nat.le_refl B)) (by omega)
  have hcp := fun (hn : nb ≤ 1099511627776) w' (h : Below wb.heap.size wb w') => l4Copy_any B ab nb cb book w' (hx.below (HA.out w' h) hB (Nat.le_refl B)) hz (by have := (HA.out w' h).size; omega) hn
  have e1 : nodeOk me book acks = false → fallen ⟨me, book, acks⟩ = zeroNd := fun h => by rw [fallen, if_neg (by simp [h])]
  have e2 : nodeOk me book acks = true → fallen ⟨me, book, acks⟩ = ⟨me, book, zeros⟩ := fun h => by rw [fallen, if_pos h]
  have e3 : nodeOk me book acks = true → nb ≤ 1099511627776 := fun h => by
    have h2 : bookOk book = true := by
      simp only [nodeOk, soundE, Bool.and_eq_true] at h
      exact h.1.2.1
    have := book_len h2
    omega
  have e4 : nodeOk me book acks = true → AllE book := fun h => by
    have h2 : bookOk book = true := by
      simp only [nodeOk, soundE, Bool.and_eq_true] at h
      exact h.1.2.1
    exact book_wf h2
  generalize fallen ⟨me, book, acks⟩ = r at e1 e2
  generalize nodeOk me book acks = b1 at hno e1 e2 e3 e4
  have E1 := Lib.hid e1; have E2 := Lib.hid e2; have E3 := Lib.hid e3; have E4 := Lib.hid e4; have HCP := Lib.hid hcp; clear e1 e2 e3 e4 hcp hlen
  have d0 := hbox.cell 0; have d1 := hbox.cell 1; have d2 := hbox.cell 2
  go_enter Tryz.func79, Tryz.ntmps79
  go_upto_region 1 with fail
  rw [← hwb, ← hgr0, ← hg]
  clear hwb hg hgr0
  go_wp2_with fail
  refine hno.mono ?_
  rintro e w1 ⟨rfl, hb1⟩
  have hB1 := HA.out w1 hb1
  have hres1 := HRES.out w1 hb1
  have hbox1 := HBOX.out w1 hb1
  have hs1 := hb1.size
  clear d0 d1 d2
  rcases b1 with _ | _
  · have hr := E1.out (by first | rfl | trivial)
    subst hr
    clear E1 E2 E3 E4
    have z0 := hres1.cell 0; have z1 := hres1.cell 1; have z2 := hres1.cell 2
    have y0 := hres1.frozen 0; have y1 := hres1.frozen 1; have y2 := hres1.frozen 2
    have hZ := Blk.set3 hres1 (.int .i64 0) (.slice none 0 0) (.slice none 0 0)
    have hBZ := hB1.set3 hgr (.int .i64 0) (.slice none 0 0) (.slice none 0 0)
    have p0 := hZ.cell 0; have p1 := hZ.cell 1; have p2 := hZ.cell 2
    have HBZ := Lib.hid hBZ; clear hBZ hZ
    go_wp2_with fail
    refine bodyPost_ret (v := .agg #[.int .i64 0, .slice none 0 0, .slice none 0 0]) (by simp [results, Tryz.results79, go_sem, p0, p1, p2]) rfl ?_
    exact nodePost_zero HBZ.out
  · have hr := E2.out (by first | rfl | trivial)
    subst hr
    have hcp := HCP.out (E3.out (by first | rfl | trivial))
    have hbw := E4.out (by first | rfl | trivial)
    clear E1 E2 E3 E4
    have d0 := hbox1.cell 0; have d1 := hbox1.cell 1; have d2 := hbox1.cell 2
    have HC2 := Lib.hid hcp; clear hcp
    go_wp2_with fail
    refine wp_region_held_drew (S := (fun w' => w'.cell? ⟨g, 0, none⟩ = some (.int .i64 me) ∧ w'.cell? ⟨g, 1, none⟩ = some (.slice ab nb cb) ∧ w'.cell? ⟨g, 2, none⟩ = some (.slice aa na ca))) (by kernel_rfl) ⟨d0, d1, d2⟩ (fun hHeld => ?_)
    refine wpAnyH_take (i := 0) (v := ?va0) rfl (by kernel_rfl) (by kernel_rfl) (by kernel_rfl) (fun _ _ _ h => h) (Or.inl ⟨by rfl, ?hya0⟩) (by assumption) ?ra0
    case hya0 => (intro w hSw; (try dsimp only at hSw); go_simp; try with_reducible rfl)
    try simp only [Act.put, qGa, qGb, qGc, qSa, qSb, qSc]
    refine wpAnyH_take (i := 1) (v := ?va1) rfl (by kernel_rfl) (by kernel_rfl) (by kernel_rfl) (fun _ _ _ h => h) (Or.inl ⟨by rfl, ?hya1⟩) (by assumption) ?ra1
    case hya1 => (intro w hSw; (try dsimp only at hSw); go_simp; try with_reducible rfl)
    try simp only [Act.put, qGa, qGb, qGc, qSa, qSb, qSc]
    refine wpAnyH_take (i := 2) (v := ?va2) rfl (by kernel_rfl) (by kernel_rfl) (by kernel_rfl) (fun _ _ _ h => h) (Or.inl ⟨by rfl, ?hya2⟩) (by assumption) ?ra2
    case hya2 => (intro w hSw; (try dsimp only at hSw); go_simp; try with_reducible rfl)
    try simp only [Act.put, qGa, qGb, qGc, qSa, qSb, qSc]
    refine wpAnyH_take (i := 3) (v := ?va3) rfl (by kernel_rfl) (by kernel_rfl) (by kernel_rfl) (fun _ _ _ h => h) (Or.inl ⟨by rfl, ?hya3⟩) (by assumption) ?ra3
    case hya3 => (intro w hSw; (try dsimp only at hSw); go_simp; try with_reducible rfl)
    try simp only [Act.put, qGa, qGb, qGc, qSa, qSb, qSc]
    refine wpAnyH_ready (rs := [4]) (by kernel_rfl) (by simp) ?_
    refine AllReadyH.cons rfl (fun Kb hKb => ?_) AllReadyH.nil
    go_simp
    refine (HC2.out _ (hb1.trans ((Below.refl w1.heap.size w1).drew.mono hs1))).mono ?_
    rintro e w2 ⟨v2, rfl, hn2, hb2'⟩
    have hb2 := (Below.refl w1.heap.size w1).drew.trans hb2'
    have hn2k : OwnE w1.heap.size w2 v2 book := hn2
    obtain ⟨a2, c2, rfl, -⟩ := hn2.ents hbw
    go_wp2_with fail
    refine hKb.out _ _ ⟨(HBOX.out _ (hb1.trans (hb2.mono hs1))).cell 0, (HBOX.out _ (hb1.trans (hb2.mono hs1))).cell 1, (HBOX.out _ (hb1.trans (hb2.mono hs1))).cell 2⟩ (fun hHeld => ?_)
    clear hKb Kb
    try simp only [Act.put, qGa, qGb, qGc, qSa, qSb, qSc]
    refine wpAnyH_ready (rs := [5]) (by kernel_rfl) (by simp) ?_
    refine AllReadyH.cons rfl (fun Kc hKc => ?_) AllReadyH.nil
    go_simp
    refine (l15Zeros_any _).mono ?_
    rintro e w3 ⟨v3, rfl, hn3, hb3⟩
    have hn3k := hn3
    obtain ⟨a3, c3, rfl, -⟩ := hn3.rows zeros_wf
    have hb13 := hb2.trans (hb3.mono hb2.size)
    have hbb3 := hb1.trans (hb13.mono hs1)
    go_wp2_with fail
    refine hKc.out _ _ ⟨(HBOX.out _ hbb3).cell 0, (HBOX.out _ hbb3).cell 1, (HBOX.out _ hbb3).cell 2⟩ (fun hHeld => ?_)
    clear hKc Kc
    try simp only [Act.put, qGa, qGb, qGc, qSa, qSb, qSc]
    refine wpAnyH_take (i := 6) (v := ?vd6) rfl (by kernel_rfl) (by kernel_rfl) (by kernel_rfl) (fun _ _ _ h => h) (Or.inl ⟨by rfl, ?hyd6⟩) (by assumption) ?rd6
    case hyd6 => (intro w hSw; (try dsimp only at hSw); go_simp; try with_reducible rfl)
    try simp only [Act.put, qGa, qGb, qGc, qSa, qSb, qSc]
    have hres3 := HRES.out _ hbb3
    have hbox3 := HBOX.out _ hbb3
    have hB3 := HA.out _ hbb3
    have z0 := hres3.cell 0; have z1 := hres3.cell 1; have z2 := hres3.cell 2
    have y0 := hres3.frozen 0; have y1 := hres3.frozen 1; have y2 := hres3.frozen 2
    have hZ := Blk.set3 hres3 (.int .i64 me) (.slice a2 book.length c2) (.slice a3 zeros.length c3)
    have hBZ := hB3.set3 hgr (.int .i64 me) (.slice a2 book.length c2) (.slice a3 zeros.length c3)
    have hOZ := Only.set3 gr w3 (.int .i64 me) (.slice a2 book.length c2) (.slice a3 zeros.length c3)
    have hboxZ := hbox3.keeps hOZ.keeps hne
    have hsr1 : gr < w1.heap.size := by omega
    have hsr2 : gr < w2.heap.size := by have := hb2.size; omega
    have ho2 := ((hn2k.below hb3 (Nat.le_refl _)).keeps hOZ.keeps hsr1).mono (show w.heap.size ≤ w1.heap.size by omega)
    have ho3 := (hn3k.keeps hOZ.keeps hsr2).mono (show w.heap.size ≤ w2.heap.size by have := hb2.size; omega)
    have p0 := hZ.cell 0; have p1 := hZ.cell 1; have p2 := hZ.cell 2
    refine wpAnyH_ready (rs := [7]) (by kernel_rfl) (by simp) ?_
    refine AllReadyH.cons rfl (fun Ke hKe => ?_) AllReadyH.nil
    go_simp
    refine hKe.out _ _ ⟨(hboxZ).cell 0, (hboxZ).cell 1, (hboxZ).cell 2⟩ (fun hHeld => ?_)
    clear hKe Ke
    try simp only [Act.put, qGa, qGb, qGc, qSa, qSb, qSc]
    refine wpAnyH_done (by kernel_rfl) ?_ _
    have HBZ := Lib.hid hBZ; have HO2 := Lib.hid ho2; have HO3 := Lib.hid ho3
    clear hBZ ho2 ho3 hOZ hboxZ hZ
    go_wp2_with fail
    refine bodyPost_ret (v := .agg #[.int .i64 me, .slice a2 book.length c2, .slice a3 zeros.length c3]) (by simp [results, Tryz.results79, go_sem, p0, p1, p2]) rfl ?_
    exact ⟨_, _, rfl, HO2.out, HO3.out, HBZ.out⟩
end Go.Proofs.YtccoljbnddfmpaaGreatDoor

namespace Go.Proofs.YtccoljbnddfmpaaGreatDoor
def half (n : Nat) : Nat := if n % 2 = 1 then n / 2 ^^^ 3988292384 else n / 2
def halves : Nat → Nat → Nat
  | 0, n => n
  | k + 1, n => halves k (half n)
def step (s : Nat) (x : Int) : Nat := halves 8 (s ^^^ x.toNat)
def crc (s : Nat) (xs : List Int) : Nat := xs.foldl step s
def sumN (xs : List Int) : Nat := crc 4294967295 xs ^^^ 4294967295
def sumOf (xs : List Int) : Int := if bytesOk xs = true then (sumN xs : Int) else -1
def tail4 (s : Nat) : List Int := [(s : Int) / 16777216, (s : Int) / 65536 % 256, (s : Int) / 256 % 256, (s : Int) % 256]
def withSum (xs : List Int) : List Int := if bytesOk xs = true ∧ xs.length ≤ 3996 then xs ++ tail4 (sumN xs) else []
def unsummed (xs : List Int) : Option (List Int) :=
  if 4 ≤ xs.length ∧ withSum (xs.take (xs.length - 4)) = xs then some (xs.take (xs.length - 4)) else none
theorem half_lt {n : Nat} (h : n < 4294967296) : half n < 4294967296 := by
  unfold half
  split
  · exact Nat.xor_lt_two_pow (n := 32) (by omega) (by omega)
  · omega
theorem halves_lt (k : Nat) : ∀ {n : Nat}, n < 4294967296 → halves k n < 4294967296 := by
  induction k with
  | zero => intro n h; exact h
  | succ k ih => intro n h; exact ih (half_lt h)
theorem step_lt {s : Nat} {x : Int} (h : s < 4294967296) (hx : 0 ≤ x ∧ x ≤ 255) : step s x < 4294967296 :=
  halves_lt 8 (Nat.xor_lt_two_pow (n := 32) h (by omega))
theorem crc_lt (xs : List Int) : ∀ {s : Nat}, s < 4294967296 → (∀ x ∈ xs, 0 ≤ x ∧ x ≤ 255) → crc s xs < 4294967296 := by
  induction xs with
  | nil => intro s h _; exact h
  | cons x xs ih => intro s h hx; exact ih (step_lt h (hx x (by simp))) (fun y hy => hx y (by simp [hy]))
theorem sumN_lt {xs : List Int} (hx : ∀ x ∈ xs, 0 ≤ x ∧ x ≤ 255) : sumN xs < 4294967296 :=
  Nat.xor_lt_two_pow (n := 32) (crc_lt xs (by omega) hx) (by omega)
theorem crc_split (s : Nat) (us : List Int) (y : Int) (bs : List Int) : crc s (us ++ y :: bs) = crc (step (crc s us) y) bs := by
  simp [crc, List.foldl_append]
theorem crc_snoc (s : Nat) (xs : List Int) (k : Nat) (h : k < xs.length) : crc s (xs.take (k + 1)) = step (crc s (xs.take k)) (xs.getD k 0) := by
  have g : xs.getD k 0 = xs[k] := by simp [List.getD, h]
  rw [List.take_succ_eq_append_getElem h, g]
  exact crc_split s (xs.take k) xs[k] []
theorem tail4_bytes {s : Nat} (h : s < 4294967296) : ∀ x ∈ tail4 s, 0 ≤ x ∧ x ≤ 255 := by
  intro x hx
  simp only [tail4, List.mem_cons, List.not_mem_nil, or_false] at hx
  rcases hx with h | h | h | h <;> omega
theorem tail4_len (s : Nat) : (tail4 s).length = 4 := rfl
theorem withSum_len (xs : List Int) : (withSum xs).length ≤ 4000 := by
  unfold withSum
  split
  · rw [List.length_append, tail4_len]; omega
  · simp
theorem withSum_bytes (xs : List Int) : ∀ x ∈ withSum xs, 0 ≤ x ∧ x ≤ 255 := by
  unfold withSum
  split
  · rename_i h
    intro x hx
    rcases List.mem_append.1 hx with hx | hx
    · exact (bytesOk_mem h.1).2 x hx
    · exact tail4_bytes (sumN_lt (bytesOk_mem h.1).2) x hx
  · intro x hx; cases hx
theorem bytesOk_of {xs : List Int} (h : xs.length ≤ 4000) (hx : ∀ x ∈ xs, 0 ≤ x ∧ x ≤ 255) : bytesOk xs = true := by
  simp only [bytesOk, Bool.and_eq_true, decide_eq_true_eq]
  exact ⟨h, List.all_eq_true.2 (fun x hx' => by simpa using hx x hx')⟩
theorem unsummed_bad {xs : List Int} (h : bytesOk xs = false) : unsummed xs = none := by
  unfold unsummed
  rw [if_neg]
  rintro ⟨-, h2⟩
  have := bytesOk_of (withSum_len (xs.take (xs.length - 4))) (withSum_bytes _)
  rw [h2, h] at this
  cases this
theorem unsummed_short {xs : List Int} (h : xs.length < 4) : unsummed xs = none := by
  unfold unsummed
  rw [if_neg (by omega)]
theorem unsummed_is {xs ys : List Int} (h : 4 ≤ xs.length) (e : ys = xs.take (xs.length - 4)) : unsummed xs = if decide (withSum ys = xs) = true then some ys else none := by
  subst e
  unfold unsummed
  by_cases hw : withSum (xs.take (xs.length - 4)) = xs
  · rw [if_pos ⟨h, hw⟩, if_pos (decide_eq_true hw)]
  · rw [if_neg (fun hh => hw hh.2), if_neg (by simpa using hw)]
end Go.Proofs.YtccoljbnddfmpaaGreatDoor

namespace Go.Proofs.YtccoljbnddfmpaaGreatDoor
open Go.RowKit
theorem i64_xor_nat (a b : Nat) (ha : a < 4611686018427387904) (hb : b < 4611686018427387904) : bits .xor .i64 (a : Int) (b : Int) = ((a ^^^ b : Nat) : Int) := by
  have hx : a ^^^ b < 2 ^ 62 := Nat.xor_lt_two_pow (n := 62) (by omega) (by omega)
  have key : (BitVec.ofInt 64 (a : Int) ^^^ BitVec.ofInt 64 (b : Int)).toNat = a ^^^ b := by
    rw [BitVec.toNat_xor, BitVec.toNat_ofInt, BitVec.toNat_ofInt]
    congr 1 <;> omega
  show IntKind.i64.wrap ((BitVec.ofInt 64 (a : Int) ^^^ BitVec.ofInt 64 (b : Int)).toNat : Nat) = _
  rw [key, IntKind.wrap_i64]
  omega
theorem half_odd {m : Nat} (hm : m < 4294967296) (h : m % 2 = 1) : bits .xor .i64 ((m : Int) / 2) 3988292384 = ((half m : Nat) : Int) := by
  have e : ((m : Int) / 2) = ((m / 2 : Nat) : Int) := by omega
  rw [e]
  have := i64_xor_nat (m / 2) 3988292384 (by omega) (by decide)
  rw [half, if_pos h]
  exact this
theorem half_even {m : Nat} (h : ¬ m % 2 = 1) : (m : Int) / 2 = ((half m : Nat) : Int) := by
  rw [half, if_neg h]
  omega
set_option maxHeartbeats 400000 in
theorem l2Step_any (s : Nat) (x : Int) (hs : s < 4294967296) (hx0 : 0 ≤ x) (hx1 : x ≤ 255) (w : World) :
    Calls Tryz.prog 123 #[.int .i64 s, .int .i64 x] w fun e w' => e = .returned (.int .i64 (step s x : Nat)) ∧ w' = w := by
  obtain ⟨y, rfl⟩ := Int.eq_ofNat_of_zero_le hx0
  have e0 := i64_xor_nat s y (by omega) (by omega)
  have hn : s ^^^ y < 4294967296 := Nat.xor_lt_two_pow (n := 32) hs (by omega)
  have ht : step s (y : Int) = halves 8 (s ^^^ y) := by simp [step]
  rw [ht]
  generalize s ^^^ y = n at e0 hn
  clear ht hx0
  go_enter Tryz.func123, Tryz.ntmps123
  go_wp2
  clear e0
  go_loop [0, 5] (fun sn si => ∃ (m k : Nat), k ≤ 8 ∧ si = .int .i64 k ∧ sn = .int .i64 m ∧ m < 4294967296 ∧ Hid (halves (8 - k) m = halves 8 n)) (fun _ si => 8 - (intOf si).toNat)
  case atStart => exact ⟨n, 0, by omega, rfl, rfl, hn, rfl⟩
  case round =>
    obtain ⟨m, k, hk, rfl, rfl, hm, hh⟩ := hrel
    by_cases hlt : k < 8
    · have hh2 : Hid (halves (8 - (k + 1)) (half m) = halves 8 n) := by
        have := hh.out
        rw [show 8 - k = (8 - (k + 1)) + 1 by omega] at this
        exact this
      have hm2 := half_lt hm
      by_cases hodd : m % 2 = 1
      · have hb : (((m : Int) % 2 == 1) = true) := by rw [beq_iff_eq]; omega
        have e := half_odd hm hodd
        generalize half m = m2 at e hh2 hm2
        clear hodd
        go_wp2
        go_round
        case rel => exact ⟨m2, k + 1, by omega, by go_num, rfl, hm2, hh2⟩
        case measure => simp [intOf]; omega
      · have hb : (((m : Int) % 2 == 1) = false) := by rw [beq_eq_false_iff_ne]; omega
        have e := half_even hodd
        generalize half m = m2 at e hh2 hm2
        clear hodd
        have HE := Lib.hid e; clear e
        go_wp2
        go_round
        case rel => exact ⟨m2, k + 1, by omega, by go_num, by rw [HE.out], hm2, hh2⟩
        case measure => simp [intOf]; omega
    · go_wp2
      go_ret
      have ek : k = 8 := by omega
      subst ek
      have := hh.out
      exact ⟨by rw [← this]; rfl, rfl⟩
end Go.Proofs.YtccoljbnddfmpaaGreatDoor

namespace Go.Proofs.YtccoljbnddfmpaaGreatDoor
open Go.RowKit
end Go.Proofs.YtccoljbnddfmpaaGreatDoor

namespace Go.Proofs.YtccoljbnddfmpaaGreatDoor
open Go.RowKit
theorem i64_and255 (n : Int) : bits .and .i64 n 255 = n % 256 := by
  have h127 : (BitVec.ofInt 64 255).toNat = 2 ^ 8 - 1 := by decide
  have key : (BitVec.ofInt 64 n &&& BitVec.ofInt 64 255).toNat = (n % ((2 ^ 64 : Nat) : Int)).toNat % 2 ^ 8 := by
    rw [BitVec.toNat_and, BitVec.toNat_ofInt, h127, Nat.and_two_pow_sub_one_eq_mod]
  show IntKind.i64.wrap ((BitVec.ofInt 64 n &&& BitVec.ofInt 64 255).toNat : Nat) = n % 256
  rw [key, IntKind.wrap_i64]
  omega
theorem i64_and30 (n : Int) : bits .and .i64 n 1073741823 = n % 1073741824 := by
  have h127 : (BitVec.ofInt 64 1073741823).toNat = 2 ^ 30 - 1 := by decide
  have key : (BitVec.ofInt 64 n &&& BitVec.ofInt 64 1073741823).toNat = (n % ((2 ^ 64 : Nat) : Int)).toNat % 2 ^ 30 := by
    rw [BitVec.toNat_and, BitVec.toNat_ofInt, h127, Nat.and_two_pow_sub_one_eq_mod]
  show IntKind.i64.wrap ((BitVec.ofInt 64 n &&& BitVec.ofInt 64 1073741823).toNat : Nat) = n % 1073741824
  rw [key, IntKind.wrap_i64]
  omega
end Go.Proofs.YtccoljbnddfmpaaGreatDoor

namespace Go.Proofs.YtccoljbnddfmpaaGreatDoor
open Go.RowKit
set_option maxHeartbeats 400000 in
theorem specBytesOk_any (B : Nat) (ao : Option Addr) (n cap : Nat) (xs : List Int) (w : World) (hx : Ints B w ao n cap xs) :
    Calls Tryz.prog 117 #[.slice ao n cap] w fun e w' => e = .returned (.bool (bytesOk xs)) ∧ w' = w := by
  have hx0 := hx.hlen; have hx1 := hx.hcap; have hx2 := hx.hmax
  unfold maxLen at hx2
  have HX := Lib.hid hx0
  clear hx0
  go_enter Tryz.func117, Tryz.ntmps117
  go_wp2
  go_loop [3] (fun i => ∃ k : Nat, k ≤ n ∧ i = .int .i64 k ∧ Hid (allBytes (xs.take k) = true)) (fun i => n - (intOf i).toNat)
  case atStart => exact ⟨0, Nat.zero_le _, rfl, rfl⟩
  case round =>
    obtain ⟨k, hk, rfl, ht⟩ := hrel
    by_cases hlt : k < n
    · obtain ⟨b, off, rfl, hbB, hc⟩ := hx.at k hlt
      have g1 := hc k hlt
      clear hc
      have hs := allBytes_snoc xs k (by have := HX.out; omega)
      rw [ht.out] at hs
      have hno := bytesOk_no xs k (by have := HX.out; omega)
      generalize xs.getD k 0 = x at g1 hs hno
      have HS' := Lib.hid hs; clear hs
      have HNO' := Lib.hid hno; clear hno
      by_cases h0 : inB x 0 255 = true
      · go_wp2_with (go_at_call 34; refine (l1In_any _ _ _ _).mono ?_; rintro e w' ⟨rfl, rfl⟩)
        go_round
        case rel => exact ⟨k + 1, by omega, by go_num, by have := HS'.out; simp [inB] at h0; rw [decide_eq_true h0] at this; exact this⟩
        case measure => simp [intOf]; omega
      · have h0 : inB x 0 255 = false := by simpa using h0
        go_wp2_with (go_at_call 34; refine (l1In_any _ _ _ _).mono ?_; rintro e w' ⟨rfl, rfl⟩)
        go_ret
        exact ⟨ret_bool (HNO'.out (by simp [inB] at h0; omega)).symm, rfl⟩
    · have ek : k = n := by omega
      subst ek
      have h1 := ht.out
      rw [List.take_of_length_le (by have := HX.out; omega)] at h1
      have H1' := Lib.hid h1; clear h1
      by_cases hbig : k ≤ 4000
      · go_wp2
        go_ret
        exact ⟨ret_bool (by have := HX.out; have h2 := H1'.out; simp [bytesOk, h2]; omega), rfl⟩
      · go_wp2
        go_ret
        exact ⟨ret_bool (by have := HX.out; rw [bytesOk, decide_eq_false (by omega)]; simp; omega), rfl⟩
end Go.Proofs.YtccoljbnddfmpaaGreatDoor

namespace Go.Proofs.YtccoljbnddfmpaaGreatDoor
open Go.RowKit
set_option maxHeartbeats 400000 in
set_option maxRecDepth 100000 in
theorem specSumOf_any (B : Nat) (ao : Option Addr) (n cap : Nat) (xs : List Int) (w : World) (hx : Ints B w ao n cap xs) :
    Calls Tryz.prog 118 #[.slice ao n cap] w fun e w' => e = .returned (.int .i64 (sumOf xs)) ∧ w' = w := by
  have hx0 := hx.hlen; have hx1 := hx.hcap; have hx2 := hx.hmax
  unfold maxLen at hx2
  have HX := Lib.hid hx0
  clear hx0
  by_cases hok : bytesOk xs = true
  · have hmem := bytesOk_mem hok
    have hsum : sumOf xs = (sumN xs : Int) := by unfold sumOf; rw [if_pos hok]
    rw [hsum]; clear hsum
    go_enter Tryz.func118, Tryz.ntmps118
    go_wp2_with fail
    refine (specBytesOk_any _ _ _ _ xs _ hx).mono ?_
    rintro e w1 ⟨rfl, rfl⟩
    rw [hok]
    have HMEM := Lib.hid hmem; clear hmem
    have HOK := Lib.hid hok; clear hok
    go_wp2_with fail
    go_loop [3, 4] (fun ss si => ∃ (s k : Nat), k ≤ n ∧ si = .int .i64 k ∧ ss = .int .i64 s ∧ s < 4294967296 ∧ Hid (s = crc 4294967295 (xs.take k))) (fun _ si => n - (intOf si).toNat)
    case atStart => exact ⟨4294967295, 0, Nat.zero_le _, rfl, rfl, by omega, rfl⟩
    case round =>
      obtain ⟨s, k, hk, rfl, rfl, hs, hh⟩ := hrel
      by_cases hlt : k < n
      · obtain ⟨b, off, rfl, hbB, hc⟩ := hx.at k hlt
        have g1 := hc k hlt
        clear hc
        have hsn := crc_snoc 4294967295 xs k (by have := HX.out; omega)
        rw [← hh.out] at hsn
        have hxm : 0 ≤ xs.getD k 0 ∧ xs.getD k 0 ≤ 255 := by
          have := HX.out
          have e : xs.getD k 0 = xs[k] := by simp [List.getD, show k < xs.length by omega]
          rw [e]; exact HMEM.out.2 _ (List.getElem_mem _)
        generalize xs.getD k 0 = x at g1 hsn hxm
        have hsl := step_lt hs hxm
        obtain ⟨hx0, hx1⟩ := hxm
        have HSN := Lib.hid hsn; clear hsn
        go_wp2_with fail
        refine (l2Step_any s x hs hx0 hx1 _).mono ?_
        rintro e w2 ⟨rfl, rfl⟩
        go_wp2
        go_round
        case rel => exact ⟨_, k + 1, by omega, by go_num, rfl, hsl, Lib.hid HSN.out.symm⟩
        case measure => simp [intOf]; omega
      · have ek : k = n := by omega
        subst ek
        have e4 := i64_xor_nat s 4294967295 (by omega) (by omega)
        have e5 : s ^^^ 4294967295 = sumN xs := by
          rw [hh.out, List.take_of_length_le (by have := HX.out; omega)]; rfl
        rw [e5] at e4
        have e4' : bits .xor .i64 (s : Int) 4294967295 = ((sumN xs : Nat) : Int) := e4
        clear e4 e5
        go_wp2
        go_ret
        exact ⟨rfl, rfl⟩
  · have hok' : bytesOk xs = false := by simpa using hok
    have hsum : sumOf xs = -1 := by unfold sumOf; rw [if_neg hok]
    rw [hsum]; clear hsum
    go_enter Tryz.func118, Tryz.ntmps118
    go_wp2_with fail
    refine (specBytesOk_any _ _ _ _ xs _ hx).mono ?_
    rintro e w1 ⟨rfl, rfl⟩
    rw [hok']
    go_wp2
    go_ret
    exact ⟨rfl, rfl⟩
end Go.Proofs.YtccoljbnddfmpaaGreatDoor

namespace Go.Proofs.YtccoljbnddfmpaaGreatDoor
open Go.RowKit
structure Sl where
  ao : Option Addr
  n : Nat
  cap : Nat
  xs : List Int
def Sl.val (p : Sl) : Value := .slice p.ao p.n p.cap
def Sl.ok (B : Nat) (w : World) (p : Sl) : Prop := Ints B w p.ao p.n p.cap p.xs ∧ (p.ao = none → p.cap = 0)
theorem Sl.ok.alloc {B : Nat} {w : World} {p : Sl} (h : p.ok B w) (hB : B ≤ w.heap.size) (o : Obj) : p.ok B (w.alloc o) :=
  ⟨h.1.below ((Below.refl _ _).alloc hB o) (Nat.le_refl _) (Nat.le_refl _), h.2⟩
end Go.Proofs.YtccoljbnddfmpaaGreatDoor

namespace Go.Proofs.YtccoljbnddfmpaaGreatDoor
open Go.RowKit
theorem NewInts.of {xs ys : List Int} {w : World} {e : Ending} {w' : World} (h : NewInts xs w e w') (he : xs = ys) : NewInts ys w e w' := he ▸ h
theorem withSum_no {xs : List Int} (h : ¬ (bytesOk xs = true ∧ xs.length ≤ 3996)) : withSum xs = [] := by unfold withSum; rw [if_neg h]
theorem withSum_yes {xs : List Int} (h : bytesOk xs = true ∧ xs.length ≤ 3996) : withSum xs = xs ++ tail4 (sumN xs) := by unfold withSum; rw [if_pos h]
theorem sumOf_yes {xs : List Int} (h : bytesOk xs = true) : sumOf xs = (sumN xs : Int) := by unfold sumOf; rw [if_pos h]
end Go.Proofs.YtccoljbnddfmpaaGreatDoor
