/- Texts of this claim, put together. -/
import Derived.Test.YtoniahfdjhhalaaGreatP1
import Derived.Test.YtoniahfdjhhalaaGreatP2
import Derived.Test.YtoniahfdjhhalaaGreatP6
import Derived.Test.YtoniahfdjhhalaaGreatP7
import Derived.Test.YtoniahfdjhhalaaGreatP11

namespace Go.Proofs.YtoniahfdjhhalaaGreat
open Go.RowKit
def ScPost (o : Option (Int × Nat)) (w : World) (e : Ending) (w' : World) : Prop :=
  e = .returned (.tuple #[.int .i64 (rvN o), .int .i64 (rvE o), .bool o.isSome]) ∧ w' = w
theorem scPost_none {o : Option (Int × Nat)} {w : World} (h : o = none) : ScPost o w (.returned (.tuple #[.int .i64 0, .int .i64 0, .bool false])) w := ⟨by rw [h]; rfl, rfl⟩
theorem scPost_some {o : Option (Int × Nat)} {w : World} {r : Int × Nat} {a b : Int} (h : o = some r) (ha : a = r.1) (hb' : b = r.2) : ScPost o w (.returned (.tuple #[.int .i64 a, .int .i64 b, .bool true])) w := ⟨by rw [h, ha, hb']; rfl, rfl⟩
set_option maxHeartbeats 1000000 in
theorem l1ReadVar_any (B : Nat) (ao : Option Addr) (n cap : Nat) (xs : List Int) (k0 : Nat) (w : World) (hx : Ints B w ao n cap xs) (hn : n ≤ 4000) (hk0 : k0 ≤ n) (hby : ∀ x ∈ xs, 0 ≤ x ∧ x ≤ 255) :
    Calls Tryz.prog 103 #[.slice ao n cap, .int .i64 k0] w (ScPost (scan xs 5 k0 0 1) w) := by
  have hx1 := hx.hcap; have hx2 := hx.hmax; have hx0 := hx.hlen
  unfold maxLen at hx2
  have HX := Lib.hid hx0; clear hx0
  have HBY := Lib.hid hby; clear hby
  go_enter Tryz.func103, Tryz.ntmps103
  go_wp2
  go_loop [7, 8, 9] (fun sn su si => ∃ (f k : Nat) (a u : Int), sn = .int .i64 a ∧ su = .int .i64 u ∧ si = .int .i64 k ∧ Unit' f u ∧ Hid (k + f = k0 + 5) ∧ 0 ≤ a ∧ a < u ∧ k ≤ n ∧ Hid (scan xs 5 k0 0 1 = scan xs f k a u)) (fun _ _ si => n - (intOf si).toNat)
  case atStart => exact ⟨5, k0, 0, 1, rfl, rfl, rfl, .inl ⟨rfl, rfl⟩, rfl, by omega, by omega, hk0, rfl⟩
  case round =>
    obtain ⟨f, k, a, u, rfl, rfl, rfl, hu, hkf, ha0, hau, hkn, hs⟩ := hrel
    by_cases hlt : k < n
    · obtain ⟨b, off, rfl, hbB, hcell⟩ := hx.at k hlt
      have g1 := hcell k hlt
      clear hcell
      have hby : 0 ≤ xs.getD k 0 ∧ xs.getD k 0 ≤ 255 := by
        have hl := HX.out
        have e : xs.getD k 0 = xs[k]'(by omega) := by simp [List.getD, show k < xs.length by omega]
        rw [e]; exact HBY.out _ (List.getElem_mem _)
      have hmore := scan_more (xs := xs) (f := f - 1) (i := k) (n := a) (u := u) (by have := HX.out; omega)
      have hbad := scan_bad (xs := xs) (f := f - 1) (i := k) (n := a) (u := u) (by have := HX.out; omega)
      have hgood := scan_good (xs := xs) (f := f - 1) (i := k) (n := a) (u := u) (by have := HX.out; omega)
      generalize xs.getD k 0 = x at g1 hby hmore hbad hgood
      have HM := Lib.hid hmore; have HB := Lib.hid hbad; have HG := Lib.hid hgood
      clear hmore hbad hgood
      obtain ⟨f1, hf1⟩ : ∃ f1, f1 = f - 1 := ⟨_, rfl⟩
      have HF1 := Lib.hid hf1; clear hf1
      have hcase : 1000000000 < a + x % 128 * u ∨ ¬ 1000000000 < a + x % 128 * u := Classical.em _
      have hl1 : k < k0 + 5 ∨ k0 + 5 ≤ k := by omega
      have hl2 : k0 < k ∨ k ≤ k0 := by omega
      have hl3 : k0 + 5 = k + f := hkf.out.symm
      rcases hu with ⟨rfl, rfl⟩ | ⟨rfl, rfl⟩ | ⟨rfl, rfl⟩ | ⟨rfl, rfl⟩ | ⟨rfl, rfl⟩ | ⟨rfl, rfl⟩
      rotate_left 5
      · have hl4 : ¬ k < k0 + 5 := by omega
        clear hcase hl1 hl2 hl3
        go_wp2
        go_ret3
        exact scPost_none hs.out
      all_goals
        have hl4 : k < k0 + 5 := by omega
        by_cases h128 : x < 128
        · by_cases hz : x = 0
          · subst hz
            first
            | (have e1 : Hid (scan xs 5 k0 0 1 = none) := by rw [Hid, hs.out]; exact HB.out h128 (.inr ⟨rfl, by omega⟩)
               have hl5 : k0 < k := by omega
               have hbig : ¬ 1000000000 < a := by omega
               clear hcase hl1 hl2 hl3
               go_wp2
               go_ret3
               exact scPost_none e1.out)
            | (have e1 : Hid (scan xs 5 k0 0 1 = some (a + 0 % 128 * 1, k + 1)) := by rw [Hid, hs.out]; exact HG.out h128 (by omega)
               have a0 : a = 0 := by omega
               have hl5 : ¬ k0 < k := by omega
               subst a0
               clear hcase hl1 hl2 hl3
               go_wp2
               go_ret3
               exact scPost_some e1.out (by omega) (by omega))
          · have hz' : (x == 0) = false := by simpa using hz
            have hl2' : Hid (k0 < k ∨ k ≤ k0) := hl2
            clear hl1 hl2 hl3
            rcases hcase with hbig | hbig
            · first
              | (exfalso; omega)
              | (have e1 : Hid (scan xs 5 k0 0 1 = none) := by rw [Hid, hs.out]; exact HB.out h128 (.inl hbig)
                 go_wp2
                 go_ret3
                 exact scPost_none e1.out)
            · have e0 := hs.out.trans (HG.out h128 (by omega))
              have e1 := Lib.hid e0; clear e0
              rcases hl2'.out with hl5 | hl5
              all_goals
                go_wp2
                go_ret3
                exact scPost_some e1.out (by omega) (by omega)
        · clear hcase hl1 hl2 hl3
          have e0 := hs.out.trans (HM.out h128)
          have e1 := Lib.hid e0; clear e0
          go_wp2
          go_round
          case rel => exact ⟨f1, k + 1, _, _, rfl, rfl, by go_num, by have := HF1.out; unfold Unit'; omega, by have := HF1.out; have := hkf.out; unfold Hid; omega, by omega, by omega, by omega, by rw [Hid, e1.out, HF1.out]; first | rfl | (congr 1 <;> omega)⟩
          case measure => simp [intOf]; try omega
    · have e1 : Hid (scan xs 5 k0 0 1 = none) := by rw [Hid, hs.out]; exact scan_stop (by have := HX.out; omega)
      go_wp2
      go_ret3
      exact scPost_none e1.out
def NumsPost (o : Option (List Int × Nat)) (w : World) (e : Ending) (w' : World) : Prop := ∃ v, e = .returned (.tuple #[v, .int .i64 (nmE o), .bool o.isSome]) ∧ Own w.heap.size w' v (nmL o) ∧ Below w.heap.size w w'
theorem numsPost_none {o : Option (List Int × Nat)} {w w1 : World} (h : o = none) (hb : Below w.heap.size w w1) : NumsPost o w (.returned (.tuple #[.slice (some ⟨w1.heap.size, 0, none⟩) 0 0, .int .i64 0, .bool false])) (w1.alloc (.cells #[] 2)) := by
  subst h
  exact ⟨_, rfl, (own_empty w1).mono hb.size, hb.alloc hb.size _⟩
theorem allI64_snoc {xs : List Int} {a : Int} (h : AllI64 xs) (ha : I64 a) : AllI64 (xs ++ [a]) := fun x hx => by
  rcases List.mem_append.1 hx with hx | hx
  · exact h x hx
  · rw [List.mem_singleton.1 hx]; exact ha
set_option linter.unusedSimpArgs false in
set_option maxHeartbeats 2000000 in
set_option maxRecDepth 100000 in
theorem l11Numbers_any (B : Nat) (ao : Option Addr) (n cap : Nat) (xs : List Int) (p0 many : Nat) (w : World) (hx : Ints B w ao n cap xs) (hB : B ≤ w.heap.size) (hn : n ≤ 4000) (hp : p0 ≤ n) (hby : ∀ x ∈ xs, 0 ≤ x ∧ x ≤ 255) (hm : many ≤ 100) :
    Calls Tryz.prog 99 #[.slice ao n cap, .int .i64 p0, .int .i64 many] w (NumsPost (numsN xs many p0) w) := by
  have hl := hx.hlen
  obtain ⟨R, hR⟩ : ∃ R, numsN xs many p0 = R := ⟨_, rfl⟩
  rw [hR]
  have hin0 : R = (numsN xs (many - 0) p0).map fun r => ([] ++ r.1, r.2) := by rw [← hR, Nat.sub_zero]; simp
  have HIN0 := Lib.hid hin0; clear hin0 hR
  have hSc := fun (p : Nat) (hp : p ≤ n) w' (hb : Below w.heap.size w w') => l1ReadVar_any B ao n cap xs p w' (hx.below hb hB (Nat.le_refl B)) hn hp hby
  have HSC := Lib.hid hSc; have HBY := Lib.hid hby; have HL := Lib.hid hl; clear hSc hby hl
  have ho0 := own_empty w
  have hb0 : Below w.heap.size w (w.alloc (.cells #[] 2)) := (Below.refl _ _).alloc (Nat.le_refl _) _
  go_enter Tryz.func99, Tryz.ntmps99
  go_wp2
  go_loopw [1, 9] (fun s1 s9 wr => ∃ (p : Nat) (out : List Int), s1 = .int .i64 p ∧ p ≤ n ∧ out.length ≤ many ∧ Hid (R = (numsN xs (many - out.length) p).map fun r => (out ++ r.1, r.2)) ∧ Own w.heap.size wr s9 out ∧ AllI64 out ∧ Below w.heap.size w wr) (fun s1 _ _ => n - (intOf s1).toNat)
  case atStart => exact ⟨p0, [], rfl, hp, Nat.zero_le _, HIN0, ho0, (fun x hx => by cases hx), hb0⟩
  case round =>
    obtain ⟨p, out, rfl, hpn, hol, hin, hown, how, hbel⟩ := hrel
    have hsz := hbel.size
    have hownk := hown
    obtain ⟨a1, c1, rfl, hi1, -⟩ := hown.ints' how
    clear hown
    by_cases hlt : out.length < many
    · have i1 : (out.length : Int) < many := by omega
      have hsc := HSC.out p hpn wr hbel
      have hnone := fun h => nums_none (show 0 < many - out.length by omega) h hin.out
      have hsome := fun a e h => nums_some (a := a) (e := e) (show 0 < many - out.length by omega) h hin.out
      have hfit := fun a e h => scan_fits HBY.out (p := p) (a := a) (e := e) h
      generalize scan xs 5 p 0 1 = o at hsc hnone hsome hfit
      have HNO := Lib.hid hnone; have HSO := Lib.hid hsome; have HF := Lib.hid hfit; clear hnone hsome hfit
      go_wp2_with fail
      refine hsc.mono ?_
      rintro e w2 ⟨rfl, rfl⟩
      rcases o with _ | ⟨a, e⟩
      · have hr := HNO.out rfl
        subst hr
        clear HNO HSO HF hsc
        go_wp2_with fail
        go_ret3
        exact numsPost_none rfl hbel
      · have hf := HF.out a e rfl
        have hnext := HSO.out a e rfl
        have HNX := Lib.hid hnext
        clear hnext HNO HSO HF hsc
        have hll := HL.out
        have e1 : rvN (some (a, e)) = a := rfl
        have e2 : rvE (some (a, e)) = e := rfl
        have e3 : (some (a, e)).isSome = true := rfl
        rw [e1, e2, e3]
        clear e1 e2 e3
        go_wp2_with (at_builtin; refine append_one rfl _ _ rfl w.heap.size _ out rfl rfl hownk hsz (by omega) ?_; intro v' w' hown' hb')
        go_roundw
        case rel => exact ⟨e, out ++ [a], rfl, by omega, by rw [List.length_append, List.length_singleton]; omega, by rw [List.length_append, List.length_singleton, ← Nat.sub_sub]; exact HNX, hown', allI64_snoc how (by unfold I64; omega), hbel.trans hb'⟩
        case measure => simp [intOf]; omega
    · have hr := nums_zero (show many - out.length = 0 by omega) hin.out
      subst hr
      have i1 : ¬ (out.length : Int) < many := by omega
      go_wp2_with fail
      go_ret3
      exact ⟨_, rfl, hownk, hbel⟩
theorem Blk.asideE {base g : Nat} {w w' : World} {v : Value} {es : List Ent} {cs : Array Value} (h : Blk w g 2 cs) (hown : OwnE base w v es) (hg : w.grownBy w' v.ownBlock) : Blk w' g 2 cs := by
  refine (hg.block g h.lt (fun e => ?_)).trans h
  rcases hown.2 with ⟨rfl, _⟩ | ⟨g', cap, cur, rfl, _, hh, _⟩
  · cases e
  · have e2 : g' = g := Option.some.inj e.symm
    subst e2
    have h2 : w.heap[g']? = some (.cells cs 2 (0, 0)) := h
    rw [h2] at hh
    cases hh
theorem Own.blk {base : Nat} {w : World} {v : Value} {xs : List Int} (h : Own base w v xs) (hx : 0 < xs.length) :
    ∃ g cap cur, v = .slice (some ⟨g, 0, none⟩) xs.length cap ∧ base ≤ g ∧ Blk w g 2 cur ∧ xs.length ≤ cap ∧ cap ≤ maxLen ∧ ∀ j, j < xs.length → cur[j]? = some (.int .i64 (xs.getD j 0)) := by
  obtain ⟨h1, h2⟩ := h
  rcases h2 with ⟨rfl, h3⟩ | ⟨g, cap, cur, rfl, hb, hg, hn, hm, hs, ht⟩
  · omega
  · refine ⟨g, cap, cur, rfl, hb, hg, hn, hm, fun j hj => ?_⟩
    have h4 : (cur.toList.take (xs.length * 1))[j]? = (xs.map (Value.int .i64))[j]? := by rw [ht]
    rw [List.getElem?_take, if_pos (by omega)] at h4
    simpa [List.getD, hj] using h4
theorem stepE_one {ops : Array Oper} {o : Oper} {a : Act} {K : Act → World → Prop} {Q : Exit → Act → World → Prop} {E : Prop} {w : World} (y : Ent)
    (hgd : o.guard = none) (s x : Operand) (ho : o.op = .call { callee := .builtin .append, args := #[s, x], argTypes := #[24, 24] })
    (B : Nat) (v : Value) (es : List Ent) (hs : a.eval s = v) (hx : a.eval x = .slice (some ⟨w.heap.size, 0, none⟩) 1 1)
    (hown : OwnE B w v es) (hB : B ≤ w.heap.size) (hlen : es.length ≤ 1099511627776)
    (hK : ∀ v' w', OwnE B w' v' (es ++ [y]) → Below B w w' → (∀ g cs, Blk w g 2 cs → Blk w' g 2 cs) → K (a.put o.dst v') w') :
    if Region.wanted o (yielded ops a.tmps) = true then Oper.wp Tryz.prog o a (w.alloc (.cells #[.int .i64 y.o, .int .i64 y.s, .int .i64 y.a, .int .i64 y.d] 47)) K Q else E := by
  have hw : Region.wanted o (yielded ops a.tmps) = true := by simp [Region.wanted, hgd]
  rw [if_pos hw]
  obtain ⟨i0, hi, hz0, hz1, hz2⟩ := info_parts infoE
  refine wp_append_own _ s x 24 ho B 47 i0 _ 4 32 Tryz.underlying24 hi hz0 hz1 hz2 rfl (by decide) v es.length (flatE es) hs (World.ownsRow.alloc hown _)
    ⟨w.heap.size, 0, none⟩ 1 1 (flatE [y]) hx rfl ?c1 (flatE_oneCell _) ?c3 ?c4 ?c5 ?_
  case c1 =>
    intro j u hu
    rw [Addr.add_lit, Nat.zero_add, cell_of_row _ _ j #[.int .i64 y.o, .int .i64 y.s, .int .i64 y.a, .int .i64 y.d] 47 (0, 0) (heap_alloc_new w _)]
    rw [flatE_one] at hu
    simpa [Ent.cells] using hu
  case c3 => unfold maxLen; omega
  case c4 => omega
  case c5 => simp; omega
  intro v' w' hown' hgrow _
  refine hK v' w' ?_ ?_ ?_
  · unfold OwnE
    rw [List.length_append, flatE_append]
    exact hown'
  · refine ((Below.refl B w).alloc hB _).grown hgrow (by simp; omega) ?_
    intro k hk
    exact (World.ownsRow.lt hown k hk).1
  · intro g cs hb
    exact (hb.alloc _).asideE (hown.alloc _) hgrow
def ReadPost (o : Option (List Ent × Nat)) (w : World) (e : Ending) (w' : World) : Prop := ∃ v, e = .returned (.tuple #[v, .int .i64 (rdE o), .bool o.isSome]) ∧ OwnE w.heap.size w' v (rdL o) ∧ Below w.heap.size w w'
theorem readPost_none {o : Option (List Ent × Nat)} {w w1 : World} (h : o = none) (hb : Below w.heap.size w w1) : ReadPost o w (.returned (.tuple #[.slice (some ⟨w1.heap.size, 0, none⟩) 0 0, .int .i64 0, .bool false])) (w1.alloc (.cells #[] 47)) := by
  subst h
  exact ⟨_, rfl, (ownE_empty w1).mono hb.size, hb.alloc hb.size _⟩
set_option linter.unusedSimpArgs false in
set_option maxHeartbeats 4000000 in
set_option maxRecDepth 100000 in
theorem l11Read_any (B : Nat) (ao : Option Addr) (n cap : Nat) (xs : List Int) (p0 : Nat) (w : World) (hx : Ints B w ao n cap xs) (hB : B ≤ w.heap.size) (hn : n ≤ 4000) (hp : p0 ≤ n) (hby : ∀ x ∈ xs, 0 ≤ x ∧ x ≤ 255) :
    Calls Tryz.prog 100 #[.slice ao n cap, .int .i64 p0] w (ReadPost (readB xs p0) w) := by
  have hl := hx.hlen
  have hNum := fun (k p : Nat) (hk : k ≤ 100) (hp : p ≤ n) w' (hb : Below w.heap.size w w') => l11Numbers_any B ao n cap xs p k w' (hx.below hb hB (Nat.le_refl B)) (by have := hb.size; omega) hn hp hby hk
  have hfit := fun k p r h => nums_fits hby k p r h
  obtain ⟨R, hR⟩ : ∃ R, readB xs p0 = R := ⟨_, rfl⟩
  rw [hR]
  have hb1 : numsN xs 1 p0 = none → R = none := fun h => by rw [← hR]; exact readB_none h
  have hb2 : ∀ l e, numsN xs 1 p0 = some (l, e) → 20 < l.getD 0 0 → R = none := fun l e h h2 => by rw [← hR]; exact readB_big h h2
  have hb3 : ∀ l e, numsN xs 1 p0 = some (l, e) → ¬ 20 < l.getD 0 0 → R = match readE xs (l.getD 0 0).toNat (-1) e with | none => none | some r => if bookOk r.1 = true then some r else none := fun l e h h2 => by rw [← hR]; exact readB_some h h2
  have hc1 := hNum 1 p0 (by omega) hp w (Below.refl _ _)
  have hfit1 := fun r h => hfit 1 p0 r h
  have HNUM := Lib.hid hNum; have HFIT := Lib.hid hfit
  clear hNum hfit hR hby
  generalize numsN xs 1 p0 = o1 at hb1 hb2 hb3 hc1 hfit1
  have HB1 := Lib.hid hb1; have HB2 := Lib.hid hb2; have HB3 := Lib.hid hb3; have HF1 := Lib.hid hfit1; have HL := Lib.hid hl; clear hb1 hb2 hb3 hfit1 hl
  go_enter Tryz.func100, Tryz.ntmps100
  go_wp2_with fail
  refine hc1.mono ?_
  rintro e w1 ⟨v1, rfl, hown1, hbl1⟩
  rcases o1 with _ | ⟨l, e1⟩
  · have hr := HB1.out rfl
    subst hr
    clear HB1 HB2 HB3 HF1 hc1
    go_wp2_with fail
    go_ret3
    exact readPost_none rfl hbl1
  · have hf := HF1.out _ rfl
    have e2 : nmL (some (l, e1)) = l := rfl
    have e3 : nmE (some (l, e1)) = e1 := rfl
    have e4 : (some (l, e1)).isSome = true := rfl
    rw [e2] at hown1
    rw [e3, e4]
    clear e2 e3 e4 hc1
    have hl1 : l.length = 1 := hf.1
    have hfv := hf.2.1
    have hfe : e1 ≤ n := by have := hf.2.2.2; have := HL.out; simp only at *; omega
    obtain ⟨gH, cH, curH, rfl, hgH, hkH, hcH, hmH, hcurH⟩ := hown1.blk (by omega)
    have hH0 := hcurH 0 (by omega)
    have hh0 : 0 ≤ l.getD 0 0 ∧ l.getD 0 0 ≤ 1000000000 := by
      have e : l.getD 0 0 = l[0]'(by omega) := by simp [List.getD, show 0 < l.length by omega]
      rw [e]; exact hfv _ (List.getElem_mem _)
    rw [hl1] at hcH ⊢
    have hbig := HB2.out l e1 rfl
    have hrest := HB3.out l e1 rfl
    clear HB1 HB2 HB3 HF1 hcurH hf hfv hown1
    generalize l.getD 0 0 = h0 at hH0 hh0 hbig hrest
    have c0 : w1.cell? ⟨gH, 0, none⟩ = some (.int .i64 h0) := by rw [hkH.cell]; exact hH0
    unfold maxLen at hmH
    by_cases hgt : 20 < h0
    · have hr := hbig hgt
      subst hr
      clear hbig hrest
      go_wp2_with fail
      go_ret3
      exact readPost_none rfl hbl1
    · obtain ⟨m, rfl⟩ : ∃ m : Nat, h0 = m := ⟨h0.toNat, by omega⟩
      have hr := hrest (by omega)
      rw [Int.toNat_natCast] at hr
      obtain ⟨R2, hR2⟩ : ∃ R2, readE xs m (-1) e1 = R2 := ⟨_, rfl⟩
      rw [hR2] at hr
      have hin0 : R2 = (readE xs (m - 0) (((0 : Nat) : Int) - 1) e1).map fun r => ([] ++ r.1, r.2) := by rw [← hR2, Nat.sub_zero]; simp
      have HR := Lib.hid hr; have HIN0 := Lib.hid hin0; clear hr hin0 hR2 hbig hrest
      have hm20 : m ≤ 20 := by omega
      have hs1 := hbl1.size
      have hb10 : Below w1.heap.size w1 (w1.alloc (.cells #[] 47)) := (Below.refl _ _).alloc (Nat.le_refl _) _
      have ho10 := ownE_empty w1
      have hk10 := hkH.alloc (.cells #[] 47)
      have hgt' : ¬ (20 : Int) < (m : Int) := by omega
      go_wp2
      go_loopw [8, 10, 11] (fun s8 s10 s11 wr => ∃ (p lk : Nat) (out : List Ent), s8 = .int .i64 p ∧ p ≤ n ∧ s11 = .int .i64 ((lk : Int) - 1) ∧ lk ≤ 21 * out.length ∧ out.length ≤ m ∧ Hid (R2 = (readE xs (m - out.length) ((lk : Int) - 1) p).map fun r => (out ++ r.1, r.2)) ∧ OwnE w1.heap.size wr s10 out ∧ AllE out ∧ Below w1.heap.size w1 wr ∧ Blk wr gH 2 curH) (fun s8 _ _ _ => n - (intOf s8).toNat)
      case atStart => exact ⟨e1, 0, [], rfl, hfe, rfl, by omega, Nat.zero_le _, HIN0, ho10, (fun x hx => by cases hx), hb10, hk10⟩
      case round =>
        obtain ⟨p, lk, out, rfl, hpn, rfl, hlk, hol, hin, hown, how, hbel, hkr⟩ := hrel
        have hsz := hbel.size
        have hbw := hbl1.trans (hbel.mono hs1)
        have c0r : wr.cell? ⟨gH, 0, none⟩ = some (.int .i64 m) := by rw [hkr.cell]; exact hH0
        have hownk := hown
        obtain ⟨aO, cO, rfl, hiO, -⟩ := hown.ents how
        clear hown
        by_cases hlt : out.length < m
        · have i1 : (out.length : Int) < m := by omega
          have hc3 := HNUM.out 3 p (by omega) hpn wr hbw
          have hnone := fun h => readE_none (show 0 < m - out.length by omega) h hin.out
          have hbig := fun l e h h2 => readE_big (l := l) (e := e) (show 0 < m - out.length by omega) h h2 hin.out
          have hsome := fun l e h h2 => readE_some (l := l) (e := e) (show 0 < m - out.length by omega) h h2 hin.out
          have hf3 := fun r h => HFIT.out 3 p r h
          generalize numsN xs 3 p = o3 at hc3 hnone hbig hsome hf3
          have HN3 := Lib.hid hnone; have HG3 := Lib.hid hbig; have HS3 := Lib.hid hsome; have HF3 := Lib.hid hf3; clear hnone hbig hsome hf3
          go_wp2_with fail
          refine hc3.mono ?_
          rintro e w3 ⟨v3, rfl, hown3, hbl3⟩
          have hbw3 := hbw.trans (hbl3.mono hbw.size)
          have hbel3 := hbel.trans (hbl3.mono hsz)
          have hkr3 := hkr.below hbl3 hkr.lt
          have hown3k := hownk.below hbl3 (Nat.le_refl _)
          rcases o3 with _ | ⟨l, e3⟩
          · have hr2 : R2 = none := HN3.out rfl
            have hr := HR.out
            rw [hr2] at hr
            have HRN := Lib.hid hr
            clear HN3 HG3 HS3 HF3 hc3 hr hr2
            go_wp2_with fail
            go_ret3
            exact readPost_none HRN.out hbw3
          · have hf := HF3.out _ rfl
            have e2 : nmL (some (l, e3)) = l := rfl
            have e3' : nmE (some (l, e3)) = e3 := rfl
            have e4 : (some (l, e3)).isSome = true := rfl
            rw [e2] at hown3
            rw [e3', e4]
            clear e2 e3' e4 hc3 HN3
            have hl3 : l.length = 3 := hf.1
            have hfv := hf.2.1
            have hfe3 : e3 ≤ n := by have := hf.2.2.2; have := HL.out; simp only at *; omega
            obtain ⟨g3, c3, cur3, rfl, hg3, hk3, hc3, hm3, hcur3⟩ := hown3.blk (by omega)
            have hval : ∀ j, j < 3 → 0 ≤ l.getD j 0 ∧ l.getD j 0 ≤ 1000000000 := fun j hj => by
              have e : l.getD j 0 = l[j]'(by omega) := by simp [List.getD, show j < l.length by omega]
              rw [e]; exact hfv _ (List.getElem_mem _)
            have q0 := hcur3 0 (by omega); have q1 := hcur3 1 (by omega); have q2 := hcur3 2 (by omega)
            have v0 := hval 0 (by omega); have v1 := hval 1 (by omega); have v2 := hval 2 (by omega)
            rw [hl3] at hc3 ⊢
            have hbig := HG3.out l e3 rfl
            have hsome := HS3.out l e3 rfl
            have hbelp : p + 3 ≤ e3 := hf.2.2.1
            clear HG3 HS3 HF3 hcur3 hf hfv hown3 hval
            generalize l.getD 0 0 = n0 at q0 v0 hbig hsome
            generalize l.getD 1 0 = n1 at q1 v1 hsome
            generalize l.getD 2 0 = n2 at q2 v2 hsome
            have HBG := Lib.hid hbig; have HSM := Lib.hid hsome; clear hbig hsome
            have z0 : w3.cell? ⟨g3, 0, none⟩ = some (.int .i64 n0) := by rw [hk3.cell]; exact q0
            have z1 : w3.cell? ⟨g3, 1, none⟩ = some (.int .i64 n1) := by rw [hk3.cell]; exact q1
            have z2 : w3.cell? ⟨g3, 2, none⟩ = some (.int .i64 n2) := by rw [hk3.cell]; exact q2
            unfold maxLen at hm3
            by_cases hgt : 20 < n0
            · have hr2 : R2 = none := HBG.out hgt
              have hr := HR.out
              rw [hr2] at hr
              have HRN := Lib.hid hr
              clear HBG HSM hr hr2
              go_wp2_with fail
              go_ret3
              exact readPost_none HRN.out hbw3
            · obtain ⟨u, rfl⟩ : ∃ u : Nat, n0 = u := ⟨n0.toNat, by omega⟩
              have hnext := HSM.out (by omega)
              have hu20 : (u : Int) ≤ 20 := by omega
              have ek : (lk : Int) - 1 + 1 + u = ((lk + u : Nat) : Int) := by omega
              rw [ek] at hnext
              have HNX := Lib.hid hnext; clear hnext HBG HSM ek hgt
              have hgt' : ¬ (20 : Int) < (u : Int) := by omega
              have f0 : IntKind.i64.wrap (lk : Int) = lk := by rw [IntKind.wrap_i64]; omega
              have f1 : IntKind.i64.wrap ((lk : Int) - 1 + 1) = lk := by rw [IntKind.wrap_i64]; omega
              have f2 : IntKind.i64.wrap ((lk : Int) + u) = ((lk + u : Nat) : Int) := by rw [IntKind.wrap_i64]; omega
              go_upto_region 11 with fail
              obtain ⟨W0, hW0⟩ : ∃ W0, W0 = w3.drew := ⟨_, rfl⟩
              have hq5 : IntKind.i64.wrap (((lk : Int) + u).tdiv 5) = ((lk + u : Nat) : Int) / 5 := by
                rw [show (lk : Int) + u = ((lk + u : Nat) : Int) by omega, Int.tdiv_eq_ediv_of_nonneg (by omega), IntKind.wrap_i64]
                omega
              have hr5 : ((lk : Int) + u).tmod 5 = ((lk + u : Nat) : Int) % 5 := by
                rw [show (lk : Int) + u = ((lk + u : Nat) : Int) by omega, Int.tmod_eq_emod_of_nonneg (by omega)]
              have hyw : Ent.wf ⟨IntKind.i64.wrap (((lk : Int) + u).tdiv 5), ((lk : Int) + u).tmod 5, n1, n2⟩ := by rw [hq5, hr5]; unfold Ent.wf I64; simp only; omega
              have hnx := HNX.out
              rw [← hq5, ← hr5] at hnx
              have HNX2 := Lib.hid hnx; clear hnx HNX
              have HYW := Lib.hid hyw; clear hyw hq5 hr5
              have hok3 : OwnE w1.heap.size w3.drew (.slice aO out.length cO) out := hown3k.below (Below.refl _ _).drew (Nat.le_refl _)
              have hBd : w1.heap.size ≤ w3.drew.heap.size := hbel3.size
              have hzz : ∀ o, (w3.alloc o).drew.cell? ⟨g3, 1, none⟩ = some (.int .i64 n1) ∧ (w3.alloc o).drew.cell? ⟨g3, 2, none⟩ = some (.int .i64 n2) := fun o => by
                have h : Blk (w3.alloc o).drew g3 2 cur3 := hk3.alloc o
                exact ⟨by rw [h.cell]; exact q1, by rw [h.cell]; exact q2⟩
              have HZZ := Lib.hid hzz; clear hzz
              go_region_held3 (fun w' => w'.cell? ⟨g3, 1, none⟩ = some (.int .i64 n1) ∧ w'.cell? ⟨g3, 2, none⟩ = some (.int .i64 n2))
                (first | exact ⟨by rw [hk3A.cell]; exact q1, by rw [hk3A.cell]; exact q2⟩ | exact ⟨(HZZ.out _).1, (HZZ.out _).2⟩ | exact ⟨z1, z2⟩)
                (first
                  | (refine stepE_one (w := w3.drew) ⟨IntKind.i64.wrap (((lk : Int) + u).tdiv 5), ((lk : Int) + u).tmod 5, n1, n2⟩ rfl _ _ rfl w1.heap.size (.slice aO out.length cO) out rfl rfl hok3 hBd (by omega) ?_; intro vA wA hownA hbA hkkA; have hk3A := hkkA _ _ hk3))
              have hBA := hbel3.drew.trans hbA
              have hkrA := hkkA _ _ (show Blk w3.drew gH 2 curH from hkr3)
              have hlast : (((lk + u + 1 : Nat) : Int) - 1) = ((lk + u : Nat) : Int) := by omega
              have hlen2 : (out ++ [(⟨IntKind.i64.wrap (((lk : Int) + u).tdiv 5), ((lk : Int) + u).tmod 5, n1, n2⟩ : Ent)]).length = out.length + 1 := by simp
              have hwf2 : AllE (out ++ [(⟨IntKind.i64.wrap (((lk : Int) + u).tdiv 5), ((lk : Int) + u).tmod 5, n1, n2⟩ : Ent)]) := fun z hz => by
                rcases List.mem_append.1 hz with hz | hz
                · exact how z hz
                · rw [List.mem_singleton.1 hz]; exact HYW.out
              have HWF := Lib.hid hwf2; have HLN := Lib.hid hlen2; have HLA := Lib.hid hlast
              clear hwf2 hlen2 hlast z0 z1 z2 q0 q1 q2 HZZ
              go_wp2
              go_roundw
              case rel => exact ⟨e3, lk + u + 1, _, rfl, by omega, by rw [HLA.out]; simp, by rw [HLN.out]; omega, by rw [HLN.out]; omega, by rw [HLN.out, HLA.out, ← Nat.sub_sub]; exact HNX2, hownA, HWF.out, hBA, hkrA⟩
              case measure => simp [intOf]; omega
        · have hr2 := readE_zero (show m - out.length = 0 by omega) hin.out
          have hr := HR.out
          rw [hr2] at hr
          simp only at hr
          have i1 : ¬ (out.length : Int) < (m : Int) := by omega
          have hbk := specBookOk_any _ aO _ cO out wr hiO (Nat.le_refl _)
          generalize bookOk out = bo at hbk hr
          have HRR := Lib.hid hr; clear hr hr2 HR HNUM HFIT
          go_wp2_with fail
          refine hbk.mono ?_
          rintro e w4 ⟨rfl, hb4⟩
          have hbw4 := hbw.trans (hb4.mono hbw.size)
          rcases bo with _ | _
          · have hr : R = none := by rw [HRR.out, if_neg (by simp)]
            clear HRR
            go_wp2_with fail
            go_ret3
            exact readPost_none hr hbw4
          · have hr : R = some (out, p) := by rw [HRR.out, if_pos (by simp)]
            subst hr
            clear HRR
            go_wp2_with fail
            go_ret3
            exact ⟨_, rfl, (hownk.below hb4 (Nat.le_refl _)).mono hs1, hbw4⟩
theorem take_eq_step {xs ys : List Int} {k : Nat} (hx : k < xs.length) (hy : k < ys.length) (h : xs.take k = ys.take k) (he : xs.getD k 0 = ys.getD k 0) : xs.take (k + 1) = ys.take (k + 1) := by
  rw [List.take_succ_eq_append_getElem hx, List.take_succ_eq_append_getElem hy, h]
  simp [List.getD, hx, hy] at he
  rw [he]
theorem getD_ne {xs ys : List Int} {k : Nat} (he : xs.getD k 0 ≠ ys.getD k 0) : xs ≠ ys := fun h => he (by rw [h])

set_option maxHeartbeats 400000 in
theorem l1Same_any (B C : Nat) (ao bo : Option Addr) (n cap m dap : Nat) (xs ys : List Int) (w : World) (hx : Ints B w ao n cap xs) (hy : Ints C w bo m dap ys) :
    Calls Tryz.prog 102 #[.slice ao n cap, .slice bo m dap] w fun e w' => e = .returned (.bool (decide (xs = ys))) ∧ Drew w w' := by
  have hxl := hx.hlen
  have hyl := hy.hlen
  have hx1 := hx.hcap; have hx2 := hx.hmax; have hy1 := hy.hcap; have hy2 := hy.hmax
  unfold maxLen at hx2 hy2
  have HX := Lib.hid hxl; have HY := Lib.hid hyl
  by_cases hnm : n = m
  · subst hnm
    clear hxl hyl
    go_enter Tryz.func102, Tryz.ntmps102
    go_wp2
    go_loopw [5] (fun i wr => ∃ k : Nat, k ≤ n ∧ i = .int .i64 k ∧ Hid (xs.take k = ys.take k) ∧ Drew w wr) (fun i _ => n - (intOf i).toNat)
    case atStart => exact ⟨0, Nat.zero_le _, rfl, rfl, Drew.refl _⟩
    case round =>
      obtain ⟨k, hk, rfl, ht, nq, rfl⟩ := hrel
      by_cases hlt : k < n
      · obtain ⟨b, off, rfl, hbB, hc⟩ := hx.at k hlt
        obtain ⟨b', off', rfl, hbB', hc'⟩ := hy.at k hlt
        have g1 := hc k hlt
        have g2 := hc' k hlt
        clear hc hc'
        by_cases he : xs.getD k 0 = ys.getD k 0
        · have ht2 := Lib.hid (take_eq_step (by have := HX.out; omega) (by have := HY.out; omega) ht.out he)
          generalize xs.getD k 0 = x at g1 he
          generalize ys.getD k 0 = y at g2 he
          subst he
          have g1' : (w.drewN nq).cell? ⟨b, off + k, none⟩ = some (.int .i64 x) := g1
          have g2' : (w.drewN nq).cell? ⟨b', off' + k, none⟩ = some (.int .i64 x) := g2
          have i1 : (0 : Int) ≤ k := by omega
          have i2 : (k : Int) < n := by omega
          go_wp2
          go_quiet (fail)
          go_wp2
          go_roundw
          case rel => exact ⟨k + 1, by omega, by go_num, ht2, by first | exact Drew.two _ _ _ | exact Drew.one _ _⟩
          case measure => simp [intOf]; omega
        · have hne := getD_ne he
          generalize xs.getD k 0 = x at g1 he
          generalize ys.getD k 0 = y at g2 he
          have hb : (x != y) = true := by simpa using he
          have g1' : (w.drewN nq).cell? ⟨b, off + k, none⟩ = some (.int .i64 x) := g1
          have g2' : (w.drewN nq).cell? ⟨b', off' + k, none⟩ = some (.int .i64 y) := g2
          have i1 : (0 : Int) ≤ k := by omega
          have i2 : (k : Int) < n := by omega
          clear he
          have HNE' := Lib.hid hne; clear hne
          go_wp2
          go_quiet (fail)
          go_wp2
          go_ret
          exact ⟨ret_bool (decide_eq_false HNE'.out).symm, by first | exact Drew.two _ _ _ | exact Drew.one _ _⟩
      · go_wp2
        go_ret
        have ek : k = n := by omega
        subst ek
        have h1 := ht.out
        rw [List.take_of_length_le (by have := HX.out; omega), List.take_of_length_le (by have := HY.out; omega)] at h1
        exact ⟨ret_bool (decide_eq_true h1).symm, by first | exact Drew.two _ _ _ | exact Drew.one _ _⟩
  · have hne : xs ≠ ys := fun h => hnm (by rw [← hxl, ← hyl, h])
    have HNE' := Lib.hid hne; clear hne
    have hb : ((n : Int) != (m : Int)) = true := by rw [bne_iff_ne]; omega
    clear hxl hyl
    go_enter Tryz.func102, Tryz.ntmps102
    go_wp2
    go_ret
    exact ⟨ret_bool (decide_eq_false HNE'.out).symm, Drew.refl _⟩
end Go.Proofs.YtoniahfdjhhalaaGreat
