import Derived.Test.YtmlabdoncdadmaaCursor
import Derived.Test.YtmlabdoncdadmaaBytesOk
namespace Go.Proofs.Ytmlabdoncdadmaa
open Go.RowKit

/-- What number answers, and where the cursor stands then. -/
def NumPost (xs : List Int) (p : Int) (g : Nat) (ao : Option Addr) (n cap : Nat) (w : World) (e : Ending) (w' : World) : Prop :=
  e = .returned (.tuple #[.int .i64 (rvN (scanAt xs p)), .bool (scanAt xs p).isSome]) ∧ Only g w w' ∧ ∃ p', Cur w' g ao n cap p' ∧ (∀ r, scanAt xs p = some r → p' = r.2)

theorem numPost_none {xs : List Int} {p : Int} {g : Nat} {ao : Option Addr} {n cap : Nat} {w w' : World} {p' : Int} (h : scanAt xs p = none) (ho : Only g w w') (hc : Cur w' g ao n cap p') :
    NumPost xs p g ao n cap w (.returned (.tuple #[.int .i64 0, .bool false])) w' :=
  ⟨by rw [h]; rfl, ho, p', hc, fun r hr => by rw [h] at hr; cases hr⟩

theorem numPost_some {xs : List Int} {p : Int} {g : Nat} {ao : Option Addr} {n cap : Nat} {w w' : World} {a : Int} {k : Nat} {b p' : Int} (h : scanAt xs p = some (a, k)) (hb : b = a) (hp : p' = k) (ho : Only g w w') (hc : Cur w' g ao n cap p') :
    NumPost xs p g ao n cap w (.returned (.tuple #[.int .i64 b, .bool true])) w' :=
  ⟨by rw [h, hb]; rfl, ho, p', hc, fun r hr => by rw [h] at hr; cases hr; exact hp⟩

set_option maxHeartbeats 1000000 in
theorem number_any (g B : Nat) (ao : Option Addr) (n cap : Nat) (xs : List Int) (p : Int) (w : World) (hx : Ints B w ao n cap xs) (hB : B ≤ g) (hc : Cur w g ao n cap p) (hg : g < w.heap.size) (hby : ∀ x ∈ xs, 0 ≤ x ∧ x ≤ 255) :
    Calls Try.prog 28 #[.pointer (some ⟨g, 0, none⟩)] w (NumPost xs p g ao n cap w) := by
  have hx1 := hx.hcap; have hx2 := hx.hmax; have hx0 := hx.hlen
  unfold maxLen at hx2
  have HX := Lib.hid hx0; clear hx0
  have HBY := Lib.hid hby; clear hby
  by_cases hp : p < 0 ∨ (n : Int) ≤ p
  · have e0 : scanAt xs p = none := by
      unfold scanAt
      split
      · exact scan_stop (by have := HX.out; omega)
      · rfl
    go_enter Try.func28, Try.ntmps28
    go_wp2
    refine wp_loop_rounds 1 ?_
    rw [rounds_succ]
    go_wp2_with (go_at_call 36; refine (next_no g ao n cap p _ hc hp).mono ?_; rintro e w' ⟨rfl, nq, rfl⟩)
    go_ret2
    exact numPost_none e0 ((Only.refl _ _).drewN _) (hc.drewN _)
  · obtain ⟨k0, rfl⟩ : ∃ k0 : Nat, p = k0 := ⟨p.toNat, by omega⟩
    have e0 : scanAt xs k0 = scan xs 5 k0 0 1 := by unfold scanAt; rw [if_pos (by omega)]; simp
    have E0 := Lib.hid e0; clear e0
    go_enter Try.func28, Try.ntmps28
    go_wp2
    go_loopw [4, 5] (fun sn su wr => ∃ (f k : Nat) (a u : Int), sn = .int .i64 a ∧ su = .int .i64 u ∧ Unit' f u ∧ 0 ≤ a ∧ a < u ∧ Hid (scanAt xs k0 = scan xs f k a u) ∧ Only g w wr ∧ Cur wr g ao n cap k) (fun _ su _ => (34359738368 - intOf su).toNat)
    case atStart => exact ⟨5, k0, 0, 1, rfl, rfl, .inl ⟨rfl, rfl⟩, by omega, by omega, E0.out, Only.refl _ _, hc⟩
    case round =>
      obtain ⟨f, k, a, u, rfl, rfl, hu, ha0, hau, hs, ho, hcr⟩ := hrel
      have hgr : g < wr.heap.size := by rw [ho.size]; exact hg
      by_cases hlt : k < n
      · have hxr := hx.only ho hB
        have hby : 0 ≤ xs.getD k 0 ∧ xs.getD k 0 ≤ 255 := by
          have hl := HX.out
          have e : xs.getD k 0 = xs[k]'(by omega) := by simp [List.getD, show k < xs.length by omega]
          rw [e]; exact HBY.out _ (List.getElem_mem _)
        have hmore := scan_more (xs := xs) (f := f - 1) (i := k) (n := a) (u := u) (by have := HX.out; omega)
        have hbad := scan_bad (xs := xs) (f := f - 1) (i := k) (n := a) (u := u) (by have := HX.out; omega)
        have hgood := scan_good (xs := xs) (f := f - 1) (i := k) (n := a) (u := u) (by have := HX.out; omega)
        have hnx := fun w' hx' hc' => next_yes g B ao n cap xs k w' hx' hc' hlt
        generalize xs.getD k 0 = x at hby hmore hbad hgood hnx
        have HM := Lib.hid hmore; have HB := Lib.hid hbad; have HG := Lib.hid hgood; have HN := Lib.hid hnx
        clear hmore hbad hgood hnx
        obtain ⟨f1, hf1⟩ : ∃ f1, f1 = f - 1 := ⟨_, rfl⟩
        have HF1 := Lib.hid hf1; clear hf1
        have hcase : 1000000000 < a + x % 128 * u ∨ ¬ 1000000000 < a + x % 128 * u := Classical.em _
        rcases hu with ⟨rfl, rfl⟩ | ⟨rfl, rfl⟩ | ⟨rfl, rfl⟩ | ⟨rfl, rfl⟩ | ⟨rfl, rfl⟩ | ⟨rfl, rfl⟩
        rotate_left 5
        · clear hcase
          go_wp2
          go_ret2
          exact numPost_none hs.out ho hcr
        all_goals
          by_cases h128 : x < 128
          · by_cases hz : x = 0
            · subst hz
              first
              | (have e1 : Hid (scanAt xs k0 = none) := by rw [Hid, hs.out]; exact HB.out h128 (.inr ⟨rfl, by omega⟩)
                 go_wp2_with (go_at_call 36; refine (HN.out _ hxr hcr).mono ?_; rintro e w' ⟨rfl, nq, rfl⟩)
                 go_ret2
                 exact numPost_none e1.out ((ho.drewN _).setCell _ _) ((hcr.drewN _).moved _))
              | (have e1 : Hid (scanAt xs k0 = some (a + 0 % 128 * 1, k + 1)) := by rw [Hid, hs.out]; exact HG.out h128 (by omega)
                 have a0 : a = 0 := by omega
                 subst a0
                 go_wp2_with (go_at_call 36; refine (HN.out _ hxr hcr).mono ?_; rintro e w' ⟨rfl, nq, rfl⟩)
                 go_ret2
                 exact numPost_some e1.out rfl rfl ((ho.drewN _).setCell _ _) ((hcr.drewN _).moved _))
            · have hz' : (x == 0) = false := by simpa using hz
              rcases hcase with hbig | hbig
              · first
                | (exfalso; omega)
                | (have e1 : Hid (scanAt xs k0 = none) := by rw [Hid, hs.out]; exact HB.out h128 (.inl hbig)
                   go_wp2_with (go_at_call 36; refine (HN.out _ hxr hcr).mono ?_; rintro e w' ⟨rfl, nq, rfl⟩)
                   go_ret2
                   exact numPost_none e1.out ((ho.drewN _).setCell _ _) ((hcr.drewN _).moved _))
              · have e0 := hs.out.trans (HG.out h128 (by omega))
                have e1 := Lib.hid e0; clear e0
                go_wp2_with (go_at_call 36; refine (HN.out _ hxr hcr).mono ?_; rintro e w' ⟨rfl, nq, rfl⟩)
                go_ret2
                exact numPost_some e1.out (by omega) rfl ((ho.drewN _).setCell _ _) ((hcr.drewN _).moved _)
          · clear hcase
            have e0 := hs.out.trans (HM.out h128)
            have e1 := Lib.hid e0; clear e0
            go_wp2_with (go_at_call 36; refine (HN.out _ hxr hcr).mono ?_; rintro e w' ⟨rfl, nq, rfl⟩)
            go_roundw
            case rel => exact ⟨f1, k + 1, _, _, rfl, rfl, by have := HF1.out; unfold Unit'; omega, by omega, by omega, by rw [Hid, e1.out, HF1.out]; first | rfl | (congr 1 <;> omega), (ho.drewN _).setCell _ _, (hcr.drewN _).moved _⟩
            case measure => simp [intOf]; try omega
      · have hkn : (n : Int) ≤ k := by omega
        have e1 : Hid (scanAt xs k0 = none) := by rw [Hid, hs.out]; exact scan_stop (by have := HX.out; omega)
        rcases hu with ⟨rfl, rfl⟩ | ⟨rfl, rfl⟩ | ⟨rfl, rfl⟩ | ⟨rfl, rfl⟩ | ⟨rfl, rfl⟩ | ⟨rfl, rfl⟩
        rotate_left 5
        · go_wp2
          go_ret2
          exact numPost_none e1.out ho hcr
        all_goals
          go_wp2_with (go_at_call 36; refine (next_no g ao n cap _ _ hcr (.inr hkn)).mono ?_; rintro e w' ⟨rfl, nq, rfl⟩)
          go_ret2
          exact numPost_none e1.out (ho.drewN _) (hcr.drewN _)

/-- impl.ReadVar. -/
def RvPost (xs : List Int) (p : Int) (w : World) (e : Ending) (w' : World) : Prop :=
  e = .returned (.tuple #[.int .i64 (rvN (readVar xs p)), .int .i64 (rvE (readVar xs p)), .bool (readVar xs p).isSome]) ∧ Below w.heap.size w w'

theorem rvPost_none {xs : List Int} {p : Int} {w w' : World} (h : readVar xs p = none) (hb : Below w.heap.size w w') : RvPost xs p w (.returned (.tuple #[.int .i64 0, .int .i64 0, .bool false])) w' := ⟨by rw [h]; rfl, hb⟩
theorem rvPost_some {xs : List Int} {p : Int} {w w' : World} {r : Int × Nat} {a b : Int} (h : readVar xs p = some r) (ha : a = r.1) (hb' : b = r.2) (hb : Below w.heap.size w w') : RvPost xs p w (.returned (.tuple #[.int .i64 a, .int .i64 b, .bool true])) w' := ⟨by rw [h, ha, hb']; rfl, hb⟩

set_option maxHeartbeats 400000 in
theorem implReadVar_any (B : Nat) (ao : Option Addr) (n cap : Nat) (xs : List Int) (p : Int) (w : World) (hx : Ints B w ao n cap xs) (hB : B ≤ w.heap.size) :
    Calls Try.prog 12 #[.slice ao n cap, .int .i64 p] w (RvPost xs p w) := by
  by_cases hok : bytesOk xs = true
  · have e0 : readVar xs p = scanAt xs p := by rw [readVar, if_pos hok]
    have E0 := Lib.hid e0; clear e0
    have hby := (bytesOk_mem hok).2
    have HBY := Lib.hid hby; clear hby
    go_enter Try.func12, Try.ntmps12
    go_wp2_with fail
    refine (implBytesOk_any _ _ _ _ xs _ hx).mono ?_
    rintro e w1 ⟨rfl, rfl⟩
    rw [hok]
    go_wp2_with fail
    have hb1 : Below w1.heap.size w1 (w1.alloc (Obj.cells #[Value.slice ao n cap, Value.int IntKind.i64 p] 46)) := (Below.refl _ _).alloc (Nat.le_refl _) _
    have hx' : Ints w1.heap.size (w1.alloc (Obj.cells #[Value.slice ao n cap, Value.int IntKind.i64 p] 46)) ao n cap xs := hx.below hb1 hB hB
    have hcur : Cur (w1.alloc (Obj.cells #[Value.slice ao n cap, Value.int IntKind.i64 p] 46)) w1.heap.size ao n cap p := ⟨by go_simp, by go_simp, by go_simp⟩
    refine (number_any w1.heap.size w1.heap.size ao n cap xs p _ hx' (Nat.le_refl _) hcur (by simp) HBY.out).mono ?_
    rintro e w2 ⟨he, ho, p', hc2, hp'⟩
    have hbb : Below w1.heap.size w1 w2 := hb1.trans (ho.below (Nat.le_refl _) (by simp))
    have HO := Lib.hid ho; have HBB := Lib.hid hbb; have HP := Lib.hid hp'; have HB1 := Lib.hid hb1; have HX' := Lib.hid hx'; have HC := Lib.hid hcur
    clear ho hbb hp' hb1 hx' hcur
    obtain ⟨h1, h2, h3⟩ := hc2
    rcases hs : scanAt xs p with _ | ⟨a, k⟩
    · rw [hs] at he
      subst he
      have E1 := Lib.hid (E0.out.trans hs); clear hs
      go_wp2
      go_ret3
      exact rvPost_none E1.out HBB.out
    · rw [hs] at he
      subst he
      have E1 := Lib.hid (E0.out.trans hs)
      have hpk := HP.out _ hs
      clear hs
      subst hpk
      go_wp2
      go_quiet (fail)
      go_wp2
      go_ret3
      exact rvPost_some E1.out rfl rfl (HBB.out.trans (below_drewN (Below.refl _ _) _))
  · have hok : bytesOk xs = false := by simpa using hok
    have e0 : readVar xs p = none := by rw [readVar, hok]; rfl
    have E0 := Lib.hid e0; clear e0
    go_enter Try.func12, Try.ntmps12
    go_wp2_with fail
    refine (implBytesOk_any _ _ _ _ xs _ hx).mono ?_
    rintro e w1 ⟨rfl, rfl⟩
    rw [hok]
    go_wp2_with fail
    go_ret3
    exact rvPost_none E0.out (Below.refl _ _)

end Go.Proofs.Ytmlabdoncdadmaa
