/-
  What is drawn of bytes: new dice (spec.l1New), slices of bounded size in new memory (l1DrawBytes, l1DrawAny).
-/
import Derived.Test.YtdfcdemkmniknaaDice
namespace Go.Proofs.Ytdfcdemkmniknaa
open Go.RowKit

/-- New dice. -/
def NewDice (w : World) (e : Ending) (w' : World) : Prop := e = .returned (.pointer (some ⟨w.heap.size, 0, none⟩)) ∧ Dice w.heap.size w.heap.size w' ∧ Below w.heap.size w w'

set_option maxHeartbeats 400000 in
theorem l1New_any (B : Nat) (ao : Option Addr) (n cap : Nat) (bs : List Int) (w : World) (hb : Bytes B w ao n cap bs) (hB : B ≤ w.heap.size) (hn : n ≤ 1099511627776) :
    Calls Try.prog 24 #[.slice ao n cap] w (NewDice w) := by
  go_enter Try.func24, Try.ntmps24
  go_wp2
  go_loop [3, 4] (fun sh si => ∃ (h : Int) (i : Nat), sh = .int .i64 h ∧ si = .int .i64 i ∧ i ≤ n ∧ 0 ≤ h ∧ h ≤ 1125899906842624) (fun _ si => n - (intOf si).toNat)
  case atStart => exact ⟨_, 0, rfl, rfl, Nat.zero_le _, by omega, by omega⟩
  case round =>
    obtain ⟨h, i, rfl, rfl, hi, hh0, hh1⟩ := hrel
    by_cases hlt : i < n
    · obtain ⟨b, off, rfl, hbB, hc, hr0, hr1⟩ := hb.at i hlt
      generalize bs.getD i 0 = y at hc hr0 hr1
      have e30 : ∀ n : Int, bits .and .i64 n 1073741823 = n % 1073741824 := i64_and30
      go_wp2
      go_round
      case rel => exact ⟨_, i + 1, rfl, by go_num, by omega, Int.emod_nonneg _ (by decide), by have := Int.emod_lt_of_pos (h * 293 + y + 11) (show (0 : Int) < 1073741824 by decide); omega⟩
      case measure => simp [intOf]; omega
    · go_wp2
      go_ret
      have hbel : Below w.heap.size w (w.alloc (Obj.cells #[.slice ao n cap, .int .i64 0, .int .i64 h] 50)) := (Below.refl _ _).alloc (Nat.le_refl _) _
      refine ⟨rfl, ⟨Nat.le_refl _, by simp, ⟨ao, n, cap, bs, hb.below hbel hB hB, by go_simp, 0, Nat.zero_le _, by go_simp, h, by unfold I64; omega, by go_simp⟩, fun o => by go_simp⟩, hbel⟩

/-- A new slice of numbers, at most m. -/
def SliceSaid (m : Nat) (B g : Nat) (w : World) (e : Ending) (w' : World) : Prop := ∃ v xs, e = .returned v ∧ Own w.heap.size w' v xs ∧ AllI64 xs ∧ xs.length ≤ m ∧ Keeps g w w' ∧ Dice B g w'

set_option maxHeartbeats 400000 in
set_option maxRecDepth 100000 in
theorem l1DrawBytes_any (B g : Nat) (w : World) (hd : Dice B g w) :
    Calls Try.prog 36 #[.pointer (some ⟨g, 0, none⟩)] w (SliceSaid 12 B g w) := by
  have hg := hd.hg
  go_enter Try.func36, Try.ntmps36
  go_wp2_with fail
  refine (l1Below_any B g _ _ (hd.alloc _) ⟨by decide, by decide⟩).mono ?_
  rintro e w1 ⟨r1, rfl, hr1, hr2, ho1, hd1⟩
  have hr3 : (r1 : Int) < 12 := hr1 (by omega)
  clear hr1 hr2
  have hk1 : Keeps g w w1 := (Keeps.alloc g w _).trans ho1.keeps
  have hown1 : Own w.heap.size w1 (.slice (some ⟨w.heap.size, 0, none⟩) 0 0) [] := (own_empty w).keeps ho1.keeps hg
  go_wp2_with fail
  go_loopw [3, 4] (fun sv sn wr => ∃ (m : Nat) (xs : List Int), sn = .int .i64 m ∧ Own w.heap.size wr sv xs ∧ AllI64 xs ∧ xs.length + m ≤ 12 ∧ Keeps g w wr ∧ Dice B g wr) (fun _ sn _ => (intOf sn).toNat)
  case atStart => exact ⟨r1, [], rfl, hown1, fun x hx => (by cases hx), by simp; omega, hk1, hd1⟩
  case round =>
    obtain ⟨m, xs, rfl, hown, hall, hle, hk, hdr⟩ := hrel
    by_cases hm : m = 0
    · subst hm
      go_wp2
      go_ret
      exact ⟨_, xs, rfl, hown, hall, by omega, hk, hdr⟩
    · have hm1 : 0 < m := by omega
      have hsz := hk.size
      go_wp2_with fail
      refine (l1Below_any B g _ _ (hdr.alloc _) ⟨by decide, by decide⟩).mono ?_
      rintro e w2 ⟨r2, rfl, hr1, hr2, ho2, hd2⟩
      have hr4 : (r2 : Int) < 8 := hr1 (by omega)
      clear hr1 hr2
      have hc := lit_cell wr [0, 1, 127, 128, 129, 255, 200, 5] g w2 (by exact ho2.keeps) hdr.hg r2 (by simp; omega)
      have hr : I64 (([0, 1, 127, 128, 129, 255, 200, 5] : List Int).getD r2 0) :=
        all_getD (fun x hx' => by simp at hx'; unfold I64; omega) (by simp; omega)
      generalize ([0, 1, 127, 128, 129, 255, 200, 5] : List Int).getD r2 0 = y at hc hr
      have hk2 : Keeps g wr w2 := (Keeps.alloc g wr _).trans ho2.keeps
      have hown2 : Own w.heap.size w2 _ xs := hown.keeps hk2 hg
      have hsz2 : w.heap.size ≤ w2.heap.size := Nat.le_trans hsz hk2.size
      have HK := Lib.hid hk2; clear hk2
      go_wp2_with (at_builtin; refine append_one rfl _ _ rfl w.heap.size _ xs rfl rfl hown2 hsz2 (by omega) ?_; intro v' w' hown' hbel')
      go_roundw
      case rel => exact ⟨m - 1, xs ++ [y], by go_num, hown', fun x hx => by rcases List.mem_append.1 hx with h | h; exact hall x h; simp at h; rw [h]; exact hr, by simp; omega, (hk.trans HK.out).then_below hbel', hd2.below' hbel' hg⟩
      case measure => simp [intOf]; omega

set_option maxHeartbeats 400000 in
set_option maxRecDepth 100000 in
theorem l1DrawAny_any (B g : Nat) (w : World) (hd : Dice B g w) :
    Calls Try.prog 25 #[.pointer (some ⟨g, 0, none⟩)] w (SliceSaid 4001 B g w) := by
  have hg := hd.hg
  obtain ⟨i0, hi, hz0, hz1, hz2⟩ := info_parts info64
  go_enter Try.func25, Try.ntmps25
  go_wp2_with fail
  refine (l1DrawBytes_any B g _ hd).mono ?_
  rintro e w1 ⟨v1, xs, rfl, hown1, hall1, hlen1, hk1, hd1⟩
  go_wp2_with fail
  refine (l1Once_any B g _ _ hd1 ⟨by decide, by decide⟩).mono ?_
  rintro e w2 ⟨b2, rfl, ho2, hd2⟩
  have hown2 := hown1.keeps ho2.keeps hg
  have hk2 := hk1.trans ho2.keeps
  rcases b2 with _ | _
  · go_wp2_with fail
    refine (l1Once_any B g _ _ hd2 ⟨by decide, by decide⟩).mono ?_
    rintro e w3 ⟨b3, rfl, ho3, hd3⟩
    have hown3 := hown2.keeps ho3.keeps hg
    have hk3 := hk2.trans ho3.keeps
    rcases b3 with _ | _
    · go_wp2_with fail
      go_ret
      exact ⟨_, xs, rfl, hown3, hall1, by omega, hk3, hd3⟩
    · go_wp2_with fail
      refine (l1From_any B g _ _ _ hd3 (by decide) (by decide) (by decide) (by decide)).mono ?_
      rintro e w4 ⟨r, rfl, hr0, hr1, ho4, hd4⟩
      have hk4 := hk3.trans ho4.keeps
      have hsz := hk4.size
      go_wp2_with (at_make; refine wpList_make_full _ rfl _ _ 24 rfl w.heap.size 2 i0 (.int .i64 0) 1 Try.underlying24 hi hz0 hz1 _ _ _ _ (4000 + r).toNat rfl rfl (by omega) (by omega) ?b2 ?b3 hsz ?_)
      case b2 => rw [hz2]; omega
      case b3 => unfold maxLen; omega
      intro w5 hown5 hgrow5
      go_wp2_with fail
      go_ret
      have hb5 : Below w4.heap.size w4 w5 := (Below.refl _ _).grown hgrow5 (Nat.le_refl _) (fun k h => by cases h)
      refine ⟨_, List.replicate (4000 + r).toNat 0, rfl, ?_, ?_, by simp; omega, hk4.trans (Keeps.of_below hb5), hd4.below hb5⟩
      · unfold Own
        rw [List.length_replicate, List.map_replicate]
        simpa [toList_madeCells_one] using hown5
      · intro x hx
        have := (List.mem_replicate.1 hx).2
        subst this
        unfold I64; omega
  · go_wp2_with fail
    refine (l1From_any B g _ _ _ hd2 (by decide) (by decide) (by decide) (by decide)).mono ?_
    rintro e wa ⟨y, rfl, hy0, hy1, hoa, hda⟩
    have hka := hk2.trans hoa.keeps
    have howna := hown2.keeps hoa.keeps hg
    have hsza := hka.size
    have HKA := Lib.hid hka; clear hka
    go_wp2_with (at_builtin; refine append_one rfl _ _ rfl w.heap.size _ xs rfl rfl howna hsza (by omega) ?_; intro vA wA hownA hbelA)
    have hkA := HKA.out.then_below hbelA
    have hdA := hda.below' hbelA hg
    have hallA : AllI64 (xs ++ [y]) := fun x hx => by
      rcases List.mem_append.1 hx with h | h
      · exact hall1 x h
      · simp at h; rw [h]; unfold I64; omega
    refine (l1Once_any B g _ _ hdA ⟨by decide, by decide⟩).mono ?_
    rintro e w3 ⟨b3, rfl, ho3, hd3⟩
    have hown3 := hownA.keeps ho3.keeps hg
    have hk3 := hkA.trans ho3.keeps
    rcases b3 with _ | _
    · go_wp2_with fail
      go_ret
      exact ⟨_, xs ++ [y], rfl, hown3, hallA, by simp; omega, hk3, hd3⟩
    · go_wp2_with fail
      refine (l1From_any B g _ _ _ hd3 (by decide) (by decide) (by decide) (by decide)).mono ?_
      rintro e w4 ⟨r, rfl, hr0, hr1, ho4, hd4⟩
      have hk4 := hk3.trans ho4.keeps
      have hsz := hk4.size
      go_wp2_with (at_make; refine wpList_make_full _ rfl _ _ 24 rfl w.heap.size 2 i0 (.int .i64 0) 1 Try.underlying24 hi hz0 hz1 _ _ _ _ (4000 + r).toNat rfl rfl (by omega) (by omega) ?b2 ?b3 hsz ?_)
      case b2 => rw [hz2]; omega
      case b3 => unfold maxLen; omega
      intro w5 hown5 hgrow5
      go_wp2_with fail
      go_ret
      have hb5 : Below w4.heap.size w4 w5 := (Below.refl _ _).grown hgrow5 (Nat.le_refl _) (fun k h => by cases h)
      refine ⟨_, List.replicate (4000 + r).toNat 0, rfl, ?_, ?_, by simp; omega, hk4.trans (Keeps.of_below hb5), hd4.below hb5⟩
      · unfold Own
        rw [List.length_replicate, List.map_replicate]
        simpa [toList_madeCells_one] using hown5
      · intro x hx
        have := (List.mem_replicate.1 hx).2
        subst this
        unfold I64; omega

def IntDrawn (w : World) (e : Ending) (w' : World) : Prop := ∃ r : Int, e = .returned (.int .i64 r) ∧ I64 r ∧ Below w.heap.size w w'

theorem Dice.drew {B g : Nat} {w : World} (hd : Dice B g w) : Dice B g w.drew := hd.below ((Below.refl _ _).drew)

theorem Keeps.drew (g : Nat) (w : World) : Keeps g w w.drew := (Keeps.refl g w).drewN 1

/-- A cell of a row of numbers that the call has written out. -/
theorem lit_at (w : World) (cs : Array Value) (g : Nat) (w1 : World) (ho : Keeps g (w.alloc (.cells cs 2)) w1) (hg : g < w.heap.size) (r : Nat) (x : Int) (hr : cs[r]? = some (.int .i64 x)) :
    w1.cell? ⟨w.heap.size, r, none⟩ = some (.int .i64 x) := by
  have h0 : (w.alloc (.cells cs 2)).cell? ⟨w.heap.size, r, none⟩ = some (.int .i64 x) := by
    rw [cell_of_row _ _ r cs 2 (0, 0) (heap_alloc_new w _)]
    exact hr
  exact ho.cell h0 (fun e => by have h2 : w.heap.size = g := Option.some.inj e; omega)

theorem wrapI64 (n : Int) : I64 (IntKind.i64.wrap n) := by rw [IntKind.wrap_i64]; unfold I64; omega

/-- A new slice of numbers, at most m. -/
def IntsDrawn (m : Nat) (w : World) (e : Ending) (w' : World) : Prop := ∃ v xs, e = .returned v ∧ Own w.heap.size w' v xs ∧ AllI64 xs ∧ xs.length ≤ m ∧ Below w.heap.size w w'

end Go.Proofs.Ytdfcdemkmniknaa
