/-
  What is drawn for chapter 2.
-/
import Derived.Test.YtdfcdemkmniknaaDrawAny
import Derived.Test.YtdfcdemkmniknaaSpecWithSum
import Derived.Deep.RegionWith
namespace Go.Proofs.Ytdfcdemkmniknaa
open Go.RowKit

theorem Only.frozen {g : Nat} {w w' : World} (h : Only g w w') {a : Addr} (hne : a.block ≠ g) (hlt : a.block < w.heap.size) : w'.frozen? a = w.frozen? a :=
  World.frozen?_of_block (h.grown.block a.block hlt (fun e => hne (Option.some.inj e)))

theorem own_of {base : Nat} {w : World} {v : Value} {ys : List Int} {m : Nat} (hm : m = ys.length) (h : w.ownsRow base 2 1 v m (ys.map (Value.int .i64))) : Own base w v ys := by
  subst hm
  exact h

theorem map_get (ys : List Int) (r : Nat) (h : r < ys.length) : (ys.map (Value.int .i64))[r]? = some (.int .i64 (ys.getD r 0)) := by
  simp [List.getD, h]

theorem bend_val {y z : Int} (h0 : 0 ≤ y) (h1 : y ≤ 255) (h2 : 0 ≤ z) (h3 : z < 255) : (IntKind.i64.wrap (IntKind.i64.wrap (y + 1) + z)).tmod 256 = (y + 1 + z) % 256 := by
  have e1 : IntKind.i64.wrap (y + 1) = y + 1 := by rw [IntKind.wrap_i64]; omega
  have e2 : IntKind.i64.wrap (y + 1 + z) = y + 1 + z := by rw [IntKind.wrap_i64]; omega
  rw [e1, e2, Int.tmod_eq_emod_of_nonneg (by omega)]

set_option maxHeartbeats 400000 in
theorem drawWithSum_any (B : Nat) (ao : Option Addr) (n cap : Nat) (bs : List Int) (w : World) (hb : Bytes B w ao n cap bs) (hB : B ≤ w.heap.size) (hn : n ≤ 1099511627776) :
    Calls Try.prog 8 #[.slice ao n cap] w (IntsDrawn 4001 w) := by
  go_enter Try.func8, Try.ntmps8
  go_wp2_with fail
  refine (l1New_any B _ _ _ bs _ hb hB hn).mono ?_
  rintro e w1 ⟨rfl, hd1, hb1⟩
  go_wp2_with fail
  refine (l1DrawAny_any _ _ _ hd1).mono ?_
  rintro e w2 ⟨v, xs, rfl, hown, hall, hlen, hk, hd2⟩
  go_wp2_with fail
  go_ret
  exact ⟨v, xs, rfl, hown.mono hb1.size, hall, hlen, hb1.trans (hk.below (Nat.le_refl _) hb1.size)⟩

set_option maxHeartbeats 400000 in
theorem drawSumOf_any (B : Nat) (ao : Option Addr) (n cap : Nat) (bs : List Int) (w : World) (hb : Bytes B w ao n cap bs) (hB : B ≤ w.heap.size) (hn : n ≤ 1099511627776) :
    Calls Try.prog 13 #[.slice ao n cap] w (IntsDrawn 4001 w) := by
  go_enter Try.func13, Try.ntmps13
  go_wp2_with fail
  refine (l1New_any B _ _ _ bs _ hb hB hn).mono ?_
  rintro e w1 ⟨rfl, hd1, hb1⟩
  go_wp2_with fail
  refine (l1DrawAny_any _ _ _ hd1).mono ?_
  rintro e w2 ⟨v, xs, rfl, hown, hall, hlen, hk, hd2⟩
  go_wp2_with fail
  go_ret
  exact ⟨v, xs, rfl, hown.mono hb1.size, hall, hlen, hb1.trans (hk.below (Nat.le_refl _) hb1.size)⟩

set_option maxHeartbeats 1000000 in
set_option maxRecDepth 100000 in
theorem drawUnsummed_any (B : Nat) (ao : Option Addr) (n cap : Nat) (bs : List Int) (w : World) (hb : Bytes B w ao n cap bs) (hB : B ≤ w.heap.size) (hn : n ≤ 1099511627776) :
    Calls Try.prog 10 #[.slice ao n cap] w (IntsDrawn 4001 w) := by
  go_enter Try.func10, Try.ntmps10
  go_wp2_with fail
  refine (l1New_any B _ _ _ bs _ hb hB hn).mono ?_
  rintro e w1 ⟨rfl, hd1, hb1⟩
  have hg := hd1.hg
  go_wp2_with fail
  refine (l1DrawAny_any _ _ _ hd1).mono ?_
  rintro e w2 ⟨v, xs, rfl, hown2, hall, hlen, hk2, hd2⟩
  have hb2 := hb1.trans (hk2.below (Nat.le_refl _) hb1.size)
  go_wp2_with fail
  refine (l1Once_any _ _ _ _ hd2 ⟨by decide, by decide⟩).mono ?_
  rintro e w3 ⟨b3, rfl, ho3, hd3⟩
  have hown3 := hown2.keeps ho3.keeps hg
  have hb3 := hb2.trans (ho3.below (Nat.le_refl _) hb2.size)
  clear hb1 hb2 hk2 hown2 hd2 hd1
  rcases b3 with _ | _
  · obtain ⟨a3, c3, rfl, hi3, hz3⟩ := hown3.ints' hall
    have HZ3 := Lib.hid hz3; clear hz3
    go_wp2_with fail
    refine (specWithSum_any _ _ _ _ xs _ hi3 (Nat.le_refl _) HZ3.out (by omega)).mono ?_
    rintro e w4 ⟨v4, rfl, hown4, hb4⟩
    have hwl := withSum_len xs
    have hwf := withSum_bytes xs
    generalize withSum xs = ys at hown4 hwl hwf
    have hs3 := hd3.hg
    have hd4 := hd3.below hb4
    have hb14 := hb3.trans (hb4.mono (Nat.le_of_lt hs3))
    clear hi3 hown3 hd3 hb3 hb4
    go_wp2_with fail
    refine (l1Once_any _ _ _ _ hd4 ⟨by decide, by decide⟩).mono ?_
    rintro e w5 ⟨b5, rfl, ho5, hd5⟩
    have hown5 := hown4.keeps ho5.keeps hs3
    have hb5 := hb14.trans (ho5.below (Nat.le_refl _) hb14.size)
    clear hown4 hd4 hb14
    rcases hown5.2 with ⟨rfl, h0⟩ | ⟨g4, cap4, cur, rfl, hbg, hgc, hnc, hcm, -, -⟩
    · rcases b5 with _ | _
      · go_wp2
        go_ret
        exact ⟨_, ys, rfl, hown5.mono (Nat.le_of_lt hs3), bytes_i64 hwf, by omega, hb5⟩
      · go_wp2
        go_ret
        exact ⟨_, ys, rfl, hown5.mono (Nat.le_of_lt hs3), bytes_i64 hwf, by omega, hb5⟩
    · rcases b5 with _ | _
      · go_wp2
        go_ret
        exact ⟨_, ys, rfl, hown5.mono (Nat.le_of_lt hs3), bytes_i64 hwf, by omega, hb5⟩
      · have hg4 : g4 < w5.heap.size := (Array.getElem?_eq_some_iff.1 hgc).1
        clear hgc
        unfold maxLen at hcm
        obtain ⟨m, hm⟩ : ∃ m, m = ys.length := ⟨_, rfl⟩
        rw [← hm] at hwl hnc
        rw [← hm]
        unfold Own at hown5
        rw [← hm] at hown5
        have HM := Lib.hid hm; clear hm
        by_cases hm0 : m = 0
        · subst hm0
          go_wp2
          go_ret
          exact ⟨_, ys, rfl, (own_of HM.out hown5).mono (Nat.le_of_lt hs3), bytes_i64 hwf, by have := HM.out; omega, hb5⟩
        · have hm1 : 0 < m := by omega
          clear hm0
          go_wp2_with fail
          refine (l1Below_any _ _ m _ hd5 ⟨by omega, by omega⟩).mono ?_
          rintro e w6 ⟨r, rfl, hr1, -, ho6, hd6⟩
          have hr2 : (r : Int) < m := hr1 (by omega)
          clear hr1
          have hr3 : r < m := by omega
          have hgg : w.heap.size ≠ g4 := by omega
          have hown6 := World.ownsRow.kept hown5 ho6.grown (.inr (fun e => by have h2 : g4 = w.heap.size := Option.some.inj e; omega))
          have hc6 := hown6.cellAt r (by omega)
          rw [map_get ys r (by have := HM.out; omega)] at hc6
          have hy : 0 ≤ ys.getD r 0 ∧ ys.getD r 0 ≤ 255 := by
            have := HM.out
            have e : ys.getD r 0 = ys[r] := by simp [List.getD, show r < ys.length by omega]
            rw [e]; exact hwf _ (List.getElem_mem _)
          generalize ys.getD r 0 = y at hc6 hy
          obtain ⟨hy0, hy1⟩ := hy
          have f6 := hown6.frozenAt r
          have hb6 := hb5.trans (ho6.below (Nat.le_refl _) hb5.size)
          have hsz6 := ho6.size
          have hg46 : g4 < w6.heap.size := by omega
          have HB6 := Lib.hid hb6; have HOWN6 := Lib.hid hown6
          clear hb5 hb6 hown5 hown6 ho6 hd5 hsz6 hg4
          have hdD := hd6.drew
          have hi255 : I64 255 := ⟨by decide, by decide⟩
          have HW := Lib.hid hwf; clear hwf
          have i1 : (0 : Int) ≤ r := by omega
          go_wp2_with fail
          go_region_with (first
            | (go_at_call_of 28 (Value.int IntKind.i64 255); ((with_reducible refine (l1Below_any _ _ 255 _ hdD hi255).mono ?_); rintro e w7 ⟨z, rfl, hz1, -, ho7, hd7⟩; have hz2 : (z : Int) < 255 := hz1 (by omega); clear hz1; have hc7 := ho7.keeps.cell (a := ⟨g4, r, none⟩) hc6 (fun e => hgg (Option.some.inj e).symm); have f7 := (ho7.frozen (a := ⟨g4, r, none⟩) (fun e => hgg e.symm) hg46).trans f6)))
          all_goals
            go_wp2
            go_ret
            have hown7 := World.ownsRow.kept (World.ownsRow.kept HOWN6.out (Keeps.drew w.heap.size w6) (.inr (fun e => by have h2 : g4 = w.heap.size := Option.some.inj e; omega))) (ho7.grown) (.inr (fun e => by have h2 : g4 = w.heap.size := Option.some.inj e; omega))
            have hb7 := (HB6.out.drew).trans (ho7.below (Nat.le_refl _) HB6.out.size)
            refine ⟨_, ys.set r ((IntKind.i64.wrap (IntKind.i64.wrap (y + 1) + (z : Int))).tmod 256), rfl, ?_, ?_, by rw [List.length_set, ← HM.out]; omega, ?_⟩
            · have hst := (hown7.stored r (.int .i64 ((IntKind.i64.wrap (IntKind.i64.wrap (y + 1) + (z : Int))).tmod 256))).1
              rw [map_set] at hst
              exact (own_of (by rw [List.length_set]; exact HM.out) hst).mono (Nat.le_of_lt hs3)
            · intro x hx
              rcases List.mem_or_eq_of_mem_set hx with h | h
              · exact bytes_i64 HW.out x h
              · rw [h, bend_val hy0 hy1 (by omega) hz2]
                unfold I64; omega
            · exact hb7.setCell (by show w.heap.size ≤ g4; omega) _
  · go_wp2
    go_ret
    exact ⟨_, xs, rfl, hown3.mono (Nat.le_of_lt hg), hall, hlen, hb3⟩

end Go.Proofs.Ytdfcdemkmniknaa
