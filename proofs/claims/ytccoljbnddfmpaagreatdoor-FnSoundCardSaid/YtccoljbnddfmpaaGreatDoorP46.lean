/- FnSound: for every slice of bytes the call returns true, and the slice and the package-level errors read afterwards as before; condition: the package-level errors, and errors' type of errors, hold what the program's own initialisers lay (tied to the program's text by the card). -/
import Derived.Test.YtccoljbnddfmpaaGreatDoorP1
import Derived.Test.YtccoljbnddfmpaaGreatDoorP3
import Derived.Test.YtccoljbnddfmpaaGreatDoorP32
import Derived.Test.YtccoljbnddfmpaaGreatDoorP34
import Derived.Test.YtccoljbnddfmpaaGreatDoorP38
import Derived.Test.YtccoljbnddfmpaaGreatDoorP39
import Derived.Test.YtccoljbnddfmpaaGreatDoorP41
import Derived.Test.YtccoljbnddfmpaaGreatDoorP45
import Derived.ProofKit
import Derived.Test.YtccoljbnddfmpaaGreatDoorTie
import Derived.LaidLaws
import Derived.LaidHandle
import Derived.LaidMore
import Derived.Stop.LaidTwo
import Derived.Stop.Joined
import Derived.Test.YtccoljbnddfmpaaGreatDoorCards
import Derived.SevenTiedAt

namespace Go.Proofs.YtccoljbnddfmpaaGreatDoor
open Go.RowKit
def doneF (es : List Ent) (k nd t m : Int) : List Ent × Int := if bookOk es = true ∧ deedOk k nd t m = true then doneR es k nd t m else ([], 3)
theorem doneF_bad {es : List Ent} {k nd t m : Int} (h : bookOk es = false ∨ deedOk k nd t m = false) : doneF es k nd t m = ([], 3) := by
  rw [doneF, if_neg]
  rintro ⟨h1, h2⟩
  rcases h with h | h
  · rw [h] at h1; cases h1
  · rw [h] at h2; cases h2
theorem doneF_good {es : List Ent} {k nd t m : Int} (h1 : bookOk es = true) (h2 : deedOk k nd t m = true) : doneF es k nd t m = doneR es k nd t m := by rw [doneF, if_pos ⟨h1, h2⟩]
theorem doneF_code {es : List Ent} {k nd t m : Int} :
    (doneCode es k nd t m = 0 → doneF es k nd t m = (putE es (deedEnt es k nd t m), 0)) ∧ (doneCode es k nd t m = 1 ∨ doneCode es k nd t m = 2 → doneF es k nd t m = (es, doneCode es k nd t m) ∧ bookOk es = true) ∧ (doneCode es k nd t m = 3 → doneF es k nd t m = ([], 3)) := by
  refine ⟨fun h => ?_, fun h => ?_, fun h => ?_⟩
  · obtain ⟨h1, -, h2, h3⟩ := code_zero h
    rw [doneF_good h1 h2, h3]
  · cases hb : bookOk es with
    | false => rw [code_bad (.inl hb)] at h; omega
    | true =>
      cases hd : deedOk k nd t m with
      | false => rw [code_bad (.inr hd)] at h; omega
      | true =>
        refine ⟨?_, rfl⟩
        rw [code_good hb hd] at h ⊢
        rw [doneF_good hb hd]
        unfold doneR at h ⊢
        split
        · rfl
        · rename_i h1
          rw [if_neg h1] at h
          split
          · rename_i h2
            rw [if_pos h2] at h
            simp at h
          · rfl
  · cases hb : bookOk es with
    | false => exact doneF_bad (.inl hb)
    | true =>
      cases hd : deedOk k nd t m with
      | false => exact doneF_bad (.inr hd)
      | true =>
        exfalso
        rw [code_good hb hd] at h
        unfold doneR at h
        split at h
        · simp at h
        · split at h <;> simp at h
set_option maxHeartbeats 2000000 in
set_option maxRecDepth 100000 in
theorem implDone_any (B : Nat) (ao : Option Addr) (n cap : Nat) (es : List Ent) (k nd t m : Int) (a0 a1 : Addr) (w : World) (hx : Ents B w ao n cap es) (hz : ao = none → cap = 0) (hB : B ≤ w.heap.size) (hE : Errs w a0 a1) :
    Calls Tryz.prog 7 #[.slice ao n cap, .agg #[.int .i64 k, .int .i64 nd, .int .i64 t, .int .i64 m]] w (NewEsN (doneF es k nd t m) w) := by
  obtain ⟨wb, hwb⟩ : ∃ wb, wb = w.alloc (.cells #[.int .i64 k, .int .i64 nd, .int .i64 t, .int .i64 m] 26) := ⟨_, rfl⟩
  have hb0 : Below w.heap.size w wb := by rw [hwb]; exact (Below.refl _ _).alloc (Nat.le_refl _) _
  have hs0 := hb0.size
  have hk0 : Blk wb w.heap.size 26 #[.int .i64 k, .int .i64 nd, .int .i64 t, .int .i64 m] := by rw [hwb]; exact Blk.new _ _ _
  have h1 := tried_any B ao n cap es k nd t m a0 a1 wb (hx.below hb0 hB (Nat.le_refl B)) hz (by omega) (hE.below hb0 (Nat.le_refl _))
  obtain ⟨hc0, hc12, hc3⟩ := doneF_code (es := es) (k := k) (nd := nd) (t := t) (m := m)
  obtain ⟨r, hr⟩ : ∃ r, doneF es k nd t m = r := ⟨_, rfl⟩
  rw [hr] at hc0 hc12 hc3
  obtain ⟨c, hc⟩ : ∃ c, doneCode es k nd t m = c := ⟨_, rfl⟩
  rw [hc] at hc0 hc12 hc3 h1
  rw [hr]
  clear hr hc
  have HC0 := Lib.hid hc0; have HC12 := Lib.hid hc12; have HC3 := Lib.hid hc3; clear hc0 hc12 hc3
  generalize putE es (deedEnt es k nd t m) = pe at h1 HC0
  have d0 := hk0.cell 0; have d1 := hk0.cell 1; have d2 := hk0.cell 2; have d3 := hk0.cell 3
  go_enter Tryz.func7, Tryz.ntmps7
  go_upto_region 1 with fail
  rw [← hwb]
  clear hwb hk0
  go_wp2_with fail
  refine h1.mono ?_
  rintro e w1 ⟨v, err, rfl, hb1, hcase⟩
  have hB1 := hb0.trans (hb1.mono hs0)
  have hs1 := hB1.size
  have hE1 := hE.below hB1 (Nat.le_refl _)
  clear d0 d1 d2 d3 h1
  rcases hcase with ⟨rfl, rfl, hown⟩ | ⟨rfl, why, hwhy, rfl⟩
  · have hr := Lib.hid (HC0.out rfl)
    have h2 := codeOf_nil w1
    go_wp2_with fail
    refine h2.mono ?_
    rintro e w2 ⟨rfl, hb2⟩
    go_wp2_with fail
    go_ret2
    rw [hr.out]
    exact ⟨_, rfl, (hown.below hb2 (Nat.le_refl _)).mono (by omega), hB1.trans (hb2.mono hs1)⟩
  · have h2 := codeOf_why a0 a1 k nd t m c why w1 hE1 hwhy
    have hcc : c = 1 ∨ c = 2 ∨ c = 3 := by
      rcases hwhy with ⟨h, -⟩ | ⟨h, -⟩ | ⟨h, -⟩ <;> omega
    clear hwhy hE1
    have hcl := fun w' (hb : Below w.heap.size w w') (hn : n ≤ 1099511627776) => cloneE_any B ao n cap es w' (hx.below hb hB (Nat.le_refl B)) hz (by have := hb.size; omega) hn
    have HCL := Lib.hid hcl; clear hcl
    have hlen := hx.hlen
    rcases hcc with rfl | rfl | rfl
    · obtain ⟨hr, hbk⟩ := HC12.out (.inl rfl)
      have hn20 : n ≤ 20 := by have := book_len hbk; omega
      have HR := Lib.hid hr; clear hr hbk hlen
      go_wp2_with fail
      refine h2.mono ?_
      rintro e w2 ⟨rfl, hb2⟩
      have hB2 := hB1.trans (hb2.mono hs1)
      go_wp2_with fail
      refine (HCL.out _ hB2 (by omega)).mono ?_
      rintro e w3 ⟨v3, rfl, hown, hb3⟩
      go_wp2_with fail
      go_ret2
      rw [HR.out]
      exact ⟨_, rfl, hown.mono hB2.size, hB2.trans (hb3.mono hB2.size)⟩
    · obtain ⟨hr, hbk⟩ := HC12.out (.inr rfl)
      have hn20 : n ≤ 20 := by have := book_len hbk; omega
      have HR := Lib.hid hr; clear hr hbk hlen
      go_wp2_with fail
      refine h2.mono ?_
      rintro e w2 ⟨rfl, hb2⟩
      have hB2 := hB1.trans (hb2.mono hs1)
      go_wp2_with fail
      refine (HCL.out _ hB2 (by omega)).mono ?_
      rintro e w3 ⟨v3, rfl, hown, hb3⟩
      go_wp2_with fail
      go_ret2
      rw [HR.out]
      exact ⟨_, rfl, hown.mono hB2.size, hB2.trans (hb3.mono hB2.size)⟩
    · have HR := Lib.hid (HC3.out rfl)
      go_wp2_with fail
      refine h2.mono ?_
      rintro e w2 ⟨rfl, hb2⟩
      have hB2 := hB1.trans (hb2.mono hs1)
      go_wp2_with fail
      go_ret2
      rw [HR.out]
      exact ⟨_, rfl, ownE_nil _ _, hB2⟩
end Go.Proofs.YtccoljbnddfmpaaGreatDoor

namespace Go.Proofs.YtccoljbnddfmpaaGreatDoor
open Go.RowKit
set_option maxHeartbeats 400000 in
theorem big_any (ao : Option Addr) (n cap : Nat) (w : World) :
    Calls Tryz.prog 5 #[.slice ao n cap] w fun e w' => e = .returned (.bool (decide (4096 < n))) ∧ w' = w := by
  go_enter Tryz.func5, Tryz.ntmps5
  go_wp2
  go_ret
  exact ⟨ret_bool (by simp; omega), rfl⟩
end Go.Proofs.YtccoljbnddfmpaaGreatDoor

namespace Go.Proofs.YtccoljbnddfmpaaGreatDoor
open Go.RowKit
theorem doneR_code (es : List Ent) (k n t m : Int) : 0 ≤ (doneR es k n t m).2 ∧ (doneR es k n t m).2 ≤ 2 := by
  unfold doneR
  split
  · dsimp only; omega
  · split <;> (dsimp only; omega)
theorem OwnE.apart {base g : Nat} {w w' : World} {v : Value} {es : List Ent} (h : OwnE base w v es) (hk : Keeps g w w') (hn : v.ownBlock ≠ some g) : OwnE base w' v es := World.ownsRow.kept h hk (.inr hn)
theorem OwnE.newer {base g : Nat} {w : World} {v : Value} {es : List Ent} (h : OwnE base w v es) (hg : g < base) : v.ownBlock ≠ some g := fun e => by
  have := (World.ownsRow.lt h g e).1
  omega
theorem OwnE.older {base g C : Nat} {w : World} {v : Value} {es : List Ent} (h : OwnE base w v es) (hw : w.heap.size ≤ C) (hg : C ≤ g) : v.ownBlock ≠ some g := fun e => by
  have := (World.ownsRow.lt h g e).2
  omega
theorem sound_wf {es : List Ent} (h : soundE es = true) : AllE es := book_wf (sound_parts h).1
set_option maxHeartbeats 8000000 in
set_option maxRecDepth 100000 in
theorem fnSound_any (ao : Option Addr) (n cap : Nat) (bs : List Int) (e0 e1 : Addr) (w : World) (hb : Bytes w.heap.size w ao n cap bs) (hE : Errs w e0 e1) :
    Calls Tryz.prog 4 #[.slice ao n cap] w (Yes w) := by
  by_cases hbig : 4096 < n
  · go_enter Tryz.func4, Tryz.ntmps4
    go_wp2_with fail
    refine (big_any _ _ _ _).mono ?_
    rintro e w1 ⟨rfl, rfl⟩
    rw [decide_eq_true hbig]
    go_wp2_with fail
    go_ret
    exact ⟨rfl, Below.refl _ _⟩
  · go_enter Tryz.func4, Tryz.ntmps4
    go_wp2_with fail
    refine (big_any _ _ _ _).mono ?_
    rintro e w1 ⟨rfl, rfl⟩
    rw [decide_eq_false hbig]
    go_wp2_with fail
    refine (drawSound_any _ _ _ _ bs _ hb (Nat.le_refl _) (by omega)).mono ?_
    rintro e w2 ⟨v2, es, rfl, hown2, hall2, -, hb2⟩
    obtain ⟨a2, c2, rfl, hi2, hz2⟩ := hown2.ents hall2
    have hs2 := hb2.size
    have hbb2 := hb.below hb2 (Nat.le_refl _) (Nat.le_refl _)
    have hown2k := hown2.mono (Nat.zero_le _)
    clear hown2 hb
    have hI := fun B w h1 h2 => implSound_any B a2 es.length c2 es w h1 h2
    have hS := fun B w h1 h2 => specSound_any B a2 es.length c2 es w h1 h2
    obtain ⟨so, hso⟩ : ∃ so, soundE es = so := ⟨_, rfl⟩
    rw [hso] at hI hS
    have HSO := Lib.hid hso; have HI := Lib.hid hI; have HS := Lib.hid hS; have HE := Lib.hid hE; clear hso hI hS hE
    go_wp2_with fail
    refine (HI.out w2.heap.size _ hi2 (Nat.le_refl _)).mono ?_
    rintro e w3 ⟨rfl, hb3⟩
    have hs3 := hb3.size
    have hi3 := hi2.below hb3 (Nat.le_refl _) hs3
    go_wp2_with fail
    refine (HS.out w3.heap.size _ hi3 (Nat.le_refl _)).mono ?_
    rintro e w4 ⟨rfl, hb4⟩
    have hb24 := hb3.trans (hb4.mono hs3)
    have hb14 := hb2.trans (hb24.mono hs2)
    have hi4 := hi2.below hb24 (Nat.le_refl _) hb24.size
    have hbb4 := hbb2.below hb24 hs2 (Nat.le_refl _)
    have hs4 := hb14.size
    clear hi2 hi3 hb3 hb4
    have hne : (so != so) = false := by cases so <;> rfl
    go_upto_region 6 with fail
    go_wp2_with fail
    refine (roll_any w1.heap.size _ _ _ bs 4 _ hbb4 hs4 (by omega)).mono ?_
    rintro e w5 ⟨he5, hd5, hb5⟩
    subst he5
    obtain ⟨g, hg0⟩ : ∃ g, w4.heap.size = g := ⟨_, rfl⟩
    rw [hg0] at hd5 ⊢
    have hgw : w1.heap.size ≤ g := by omega
    have hne6 := OwnE.older hown2k (Nat.le_refl w2.heap.size) (show w2.heap.size ≤ g by have := hb24.size; omega)
    have hown4 := hown2k.below hb24 (Nat.le_refl _)
    have hb15 := hb14.trans (hb5.mono hs4)
    have hi5 := hi4.below hb5 (Nat.le_refl _) hb5.size
    have hs5 := hb15.size
    clear hi4 hb14 hbb4 hb24 hbb2 hb2
    go_wp2_with fail
    refine (HS.out w5.heap.size _ hi5 (Nat.le_refl _)).mono ?_
    rintro e w6 ⟨rfl, hb6⟩
    have hb16 := hb15.trans (hb6.mono hs5)
    have hi6 := hi5.below hb6 (Nat.le_refl _) hb6.size
    have hd6 := hd5.below hb6 hd5.hg
    have hs6 := hb16.size
    have hown6 := (hown4.below hb5 (Nat.le_refl _)).below hb6 (Nat.le_refl _)
    clear hi5 hd5 hb5 hb6 hb15
    cases so
    · obtain ⟨gz, hgz⟩ : ∃ x, x = w6.heap.size := ⟨_, rfl⟩
      obtain ⟨W7, hW7⟩ : ∃ x, x = w6.alloc (.cells #[] 47) := ⟨_, rfl⟩
      have hb67 : Below w6.heap.size w6 W7 := by rw [hW7]; exact (Below.refl _ _).alloc (Nat.le_refl _) _
      have hoz : OwnE w6.heap.size W7 (.slice (some ⟨gz, 0, none⟩) 0 0) [] := by rw [hW7, hgz]; exact ownE_empty w6
      have hoz0 := hoz.mono (Nat.zero_le _)
      have hnz := OwnE.newer hoz (show g < w6.heap.size from hd6.hg)
      have hd7 := hd6.below hb67 hd6.hg
      have hb17 := hb16.trans (hb67.mono hs6)
      go_upto_region 9 with fail
      rw [← hW7, ← hgz]
      clear hW7 hgz hd6 hi6 hb67 hoz
      go_wp2_with fail
      go_loopw [3, 5] (fun s3 s5 wr => ∃ (k : Nat) (a : Option Addr) (c : Nat) (xs : List Ent), k ≤ 12 ∧ s5 = .int .i64 k ∧ s3 = .slice a xs.length c ∧ OwnE 0 wr (.slice a xs.length c) xs ∧ (Value.slice a xs.length c).ownBlock ≠ some g ∧ soundE xs = true ∧ LDice g g wr ∧ Below w1.heap.size w1 wr) (fun _ s5 _ => 12 - (intOf s5).toNat)
      case atStart => exact ⟨0, some ⟨gz, 0, none⟩, 0, [], by omega, rfl, rfl, hoz0, hnz, by decide, hd7, hb17⟩
      case round =>
        obtain ⟨k, a, c, xs, hk, rfl, rfl, hox, hnx, hsx, hd, hbel⟩ := hrel
        clear hoz0 hnz hd7 hb17
        by_cases hlt : k < 12
        · have i0 : (k : Int) < 12 := by omega
          go_wp2_with fail
          refine (wish_any g g 4 _ hd (by decide) (by decide)).mono ?_
          rintro e w7 ⟨dk, dn, dt, dm, rfl, hdok, hk7, hd7⟩
          have hsz := hbel.size
          obtain ⟨ax, cx, hex, hix7, hzx⟩ := (OwnE.apart hox hk7 hnx).ents (sound_wf hsx)
          cases hex
          have hbel7 := hbel.trans (hk7.below hgw hsz)
          have hbk := (sound_parts hsx).1
          have hsd := deed_sound hsx hdok
          have hcd := doneR_code xs dk dn dt dm
          have hdone := implDone_any w7.heap.size _ xs.length _ xs dk dn dt dm e0 e1 w7 hix7 hzx (Nat.le_refl _) (HE.out.below hbel7 (Nat.le_refl _))
          rw [doneF_good hbk hdok] at hdone
          generalize doneR xs dk dn dt dm = r at hdone hsd hcd
          obtain ⟨ys, code⟩ := r
          dsimp only at hsd hcd
          go_wp2_with fail
          refine hdone.mono ?_
          rintro e w8 ⟨v8, rfl, hown8, hb8⟩
          dsimp only at hown8 ⊢
          have hown8k := hown8
          obtain ⟨a8, c8, rfl, hi8, hz8⟩ := hown8.ents (sound_wf hsd)
          have hn8 := OwnE.newer hown8k (show g < w7.heap.size from hd7.hg)
          have ho8 := hown8k.mono (Nat.zero_le _)
          have hbel8 := hbel7.trans (hb8.mono hbel7.size)
          have hd8 := hd7.below hb8 hd7.hg
          have hI8 := implSound_any w8.heap.size a8 ys.length c8 ys w8 hi8 (Nat.le_refl _)
          rw [hsd] at hI8
          have HSD := Lib.hid hsd
          clear hown8 hown8k hdone hox hix7 hd hd7 hk7 hb8 hsx hbk hsd hbel hbel7
          go_wp2_with fail
          refine hI8.mono ?_
          rintro e w9 ⟨rfl, hb9⟩
          have hbel9 := hbel8.trans (hb9.mono hbel8.size)
          have hd9 := hd8.below hb9 hd8.hg
          have ho9 := OwnE.below ho8 hb9 (Nat.le_refl _)
          have hc3 : (code == 3) = false := by simpa using (show ¬ code = 3 by omega)
          clear hi8 hd8 hI8 hb9 hbel8 ho8
          go_wp2_with fail
          go_roundw
          case rel => exact ⟨k + 1, a8, c8, ys, by omega, by go_num, rfl, ho9, hn8, HSD.out, hd9, hbel9⟩
          case measure => simp [intOf]; omega
        · have ek : k = 12 := by omega
          subst ek
          go_wp2_with fail
          go_ret
          exact ⟨rfl, hbel⟩
    · go_wp2_with fail
      go_loopw [3, 5] (fun s3 s5 wr => ∃ (k : Nat) (a : Option Addr) (c : Nat) (xs : List Ent), k ≤ 12 ∧ s5 = .int .i64 k ∧ s3 = .slice a xs.length c ∧ OwnE 0 wr (.slice a xs.length c) xs ∧ (Value.slice a xs.length c).ownBlock ≠ some g ∧ soundE xs = true ∧ LDice g g wr ∧ Below w1.heap.size w1 wr) (fun _ s5 _ => 12 - (intOf s5).toNat)
      case atStart => exact ⟨0, a2, c2, es, by omega, rfl, rfl, hown6, hne6, HSO.out, hd6, hb16⟩
      case round =>
        obtain ⟨k, a, c, xs, hk, rfl, rfl, hox, hnx, hsx, hd, hbel⟩ := hrel
        clear hi6 hd6 hb16 hown6 hne6
        by_cases hlt : k < 12
        · have i0 : (k : Int) < 12 := by omega
          go_wp2_with fail
          refine (wish_any g g 4 _ hd (by decide) (by decide)).mono ?_
          rintro e w7 ⟨dk, dn, dt, dm, rfl, hdok, hk7, hd7⟩
          have hsz := hbel.size
          obtain ⟨ax, cx, hex, hix7, hzx⟩ := (OwnE.apart hox hk7 hnx).ents (sound_wf hsx)
          cases hex
          have hbel7 := hbel.trans (hk7.below hgw hsz)
          have hbk := (sound_parts hsx).1
          have hsd := deed_sound hsx hdok
          have hcd := doneR_code xs dk dn dt dm
          have hdone := implDone_any w7.heap.size _ xs.length _ xs dk dn dt dm e0 e1 w7 hix7 hzx (Nat.le_refl _) (HE.out.below hbel7 (Nat.le_refl _))
          rw [doneF_good hbk hdok] at hdone
          generalize doneR xs dk dn dt dm = r at hdone hsd hcd
          obtain ⟨ys, code⟩ := r
          dsimp only at hsd hcd
          go_wp2_with fail
          refine hdone.mono ?_
          rintro e w8 ⟨v8, rfl, hown8, hb8⟩
          dsimp only at hown8 ⊢
          have hown8k := hown8
          obtain ⟨a8, c8, rfl, hi8, hz8⟩ := hown8.ents (sound_wf hsd)
          have hn8 := OwnE.newer hown8k (show g < w7.heap.size from hd7.hg)
          have ho8 := hown8k.mono (Nat.zero_le _)
          have hbel8 := hbel7.trans (hb8.mono hbel7.size)
          have hd8 := hd7.below hb8 hd7.hg
          have hI8 := implSound_any w8.heap.size a8 ys.length c8 ys w8 hi8 (Nat.le_refl _)
          rw [hsd] at hI8
          have HSD := Lib.hid hsd
          clear hown8 hown8k hdone hox hix7 hd hd7 hk7 hb8 hsx hbk hsd hbel hbel7
          go_wp2_with fail
          refine hI8.mono ?_
          rintro e w9 ⟨rfl, hb9⟩
          have hbel9 := hbel8.trans (hb9.mono hbel8.size)
          have hd9 := hd8.below hb9 hd8.hg
          have ho9 := OwnE.below ho8 hb9 (Nat.le_refl _)
          have hc3 : (code == 3) = false := by simpa using (show ¬ code = 3 by omega)
          clear hi8 hd8 hI8 hb9 hbel8 ho8
          go_wp2_with fail
          go_roundw
          case rel => exact ⟨k + 1, a8, c8, ys, by omega, by go_num, rfl, ho9, hn8, HSD.out, hd9, hbel9⟩
          case measure => simp [intOf]; omega
        · have ek : k = 12 := by omega
          subst ek
          go_wp2_with fail
          go_ret
          exact ⟨rfl, hbel⟩
end Go.Proofs.YtccoljbnddfmpaaGreatDoor

namespace Go.Proofs.YtccoljbnddfmpaaGreatDoor
open Go.ChangeShapes Go.WideShapes Go.ChangeAt Go.RowKit
theorem Tryz.own : ownKnob Tryz.prog.godebug = none := by kernel_rfl
theorem Tryz.laidOut : laidOutB Tryz.prog = true := by kernel_rfl
end Go.Proofs.YtccoljbnddfmpaaGreatDoor

namespace Go.Proofs.YtccoljbnddfmpaaGreatDoor
open Go.ChangeShapes Go.WideShapes Go.RowKit
theorem Tryz.gShort : Tryz.prog.globalNamed "loop.example/g00824/impl.errShort" = some 0 := by kernel_rfl
theorem Tryz.gBad : Tryz.prog.globalNamed "loop.example/g00824/impl.errNotRight" = some 1 := by kernel_rfl
theorem Tryz.gType : Tryz.prog.globalNamed "errors.errorType" = some 2 := by kernel_rfl
theorem Tryz.gShortType : (Tryz.prog.globals[0]?).map (·.type) = some 57 := by kernel_rfl
theorem Tryz.gBadType : (Tryz.prog.globals[1]?).map (·.type) = some 57 := by kernel_rfl
theorem Tryz.cellsES : Tryz.prog.cellsOf 217 = 1 := by kernel_rfl
theorem Tryz.cellsS : Tryz.prog.cellsOf 9 = 1 := by kernel_rfl
theorem Tryz.star : "*" ++ "errors.errorString" = "*errors.errorString" := by decide
theorem Tryz.rowES (u : TypeId) (h : Tryz.prog.typeName? 3 u = some "*errors.errorString") : u = 195 :=
  typeName_ptr_named (nm := "errors.errorString") (by rw [Tryz.star]; kernel_rfl) (by kernel_rfl) (by decide) u (by rw [Tryz.star]; exact h)
theorem Tryz.rt : (Tryz.prog.cutTypes.find? (·.1 == "internal/reflectlite.rtype")).map (·.2) = some 160 := by kernel_rfl
theorem Tryz.oneRow : ((List.range 229).filter fun t => Tryz.prog.rowNamed t [101, 114, 114, 111, 114]) = [57] := by kernel_rfl
theorem Tryz.size : Tryz.prog.types.size = 229 := by kernel_rfl
def laid3 : List (String × DataW Unit) := [("errors.errorType", Rows.laid_errors_errorType), ("loop.example/g00824/impl.errNotRight", Rows.laid_loop_example_g00824_impl_errNotRight), ("loop.example/g00824/impl.errShort", Rows.laid_loop_example_g00824_impl_errShort)]
theorem errs_of_laid {W : World} (h : laidMetH Tryz.prog laid3 W) :
    ∃ a0 a1 : Addr, Errs W a0 a1 ∧ W.var? Tryz.prog "loop.example/g00824/impl.errNotRight" = some #[.iface 195 (.pointer (some a1))] ∧ W.var? Tryz.prog "loop.example/g00824/impl.errShort" = some #[.iface 195 (.pointer (some a0))] := by
  have h' : laidMet Tryz.prog [("loop.example/g00824/impl.errNotRight", Rows.laid_loop_example_g00824_impl_errNotRight), ("loop.example/g00824/impl.errShort", Rows.laid_loop_example_g00824_impl_errShort)] W ∧ handlesMet Tryz.prog [("errors.errorType", Rows.laid_errors_errorType)] W := h
  obtain ⟨hl, hh⟩ := h'
  obtain ⟨name, u, ty, e1, e2, e3, e4, e5⟩ := hh _ (List.mem_singleton.2 rfl)
  have en : name = [101, 114, 114, 111, 114] := (Option.some.inj e1).symm
  subst en
  obtain rfl := Option.some.inj (Tryz.rt.symm.trans e2)
  have hm : ty ∈ (List.range 229).filter fun t => Tryz.prog.rowNamed t [101, 114, 114, 111, 114] := List.mem_filter.2 ⟨List.mem_range.2 (by rw [← Tryz.size]; exact e3), e4⟩
  rw [Tryz.oneRow] at hm
  obtain rfl := List.mem_singleton.1 hm
  have hth : typeHandle Tryz.prog 57 = .pointer (some ⟨3, 57, none⟩) := by kernel_rfl
  rw [hth] at e5
  obtain ⟨a0, a1, s0, s1, c0, c1, t0, t1, hv0, hv1, -, -, -, -, -, -, hne, hb0, hb1⟩ := laid_sentinels2 hl Tryz.gBad Tryz.gBadType Tryz.gShort Tryz.gShortType Tryz.underlying57 Tryz.rowES Tryz.underlying195 Tryz.underlying217 rfl rfl Tryz.underlying9 Tryz.cellsES Tryz.cellsS
  exact ⟨a1, a0, ⟨by simpa using World.var?_cell Tryz.gShort hv1 0, by simpa using World.var?_cell Tryz.gBad hv0 0, by simpa using World.var?_cell Tryz.gType e5 0, fun e => hne e.symm, ⟨c1, t1, hb1⟩, ⟨c0, t0, hb0⟩⟩, hv0, hv1⟩
theorem door_met (os : Os) (args : Array Value) : laidMetH Tryz.prog laid3 ((World.doorLaid Tryz.prog 54 os).forCall (fun _ _ => 0) ⟨#[], args, []⟩).memory :=
  laidMetH_of_parts3 (fuel := 8) (laidMet_of_run' 8 (by kernel_rfl) (by kernel_rfl)) (by kernel_rfl) (by kernel_rfl)
theorem var_below {W W' : World} {n : String} {g : Nat} {x : Value} (hg : Tryz.prog.globalNamed n = some g) (h : W.var? Tryz.prog n = some #[x]) (hb : Below W.heap.size W W') : W'.var? Tryz.prog n = some #[x] := by
  have hc : W.cell? ⟨g, 0, none⟩ = some x := by simpa using World.var?_cell hg h 0
  have hlt := cell_lt hc
  have he : W'.heap[g]? = W.heap[g]? := hb.block g hlt
  unfold World.var? at h ⊢
  rw [hg] at h ⊢
  simp only [Option.bind_some] at h ⊢
  rw [he]
  exact h
end Go.Proofs.YtccoljbnddfmpaaGreatDoor

namespace Go.Proofs.YtccoljbnddfmpaaGreatDoor
open Go.ChangeShapes Go.WideShapes Go.ChangeAt Go.RowKit
end Go.Proofs.YtccoljbnddfmpaaGreatDoor

namespace Go.Proofs.YtccoljbnddfmpaaGreatDoor
open Go.ChangeShapes Go.WideShapes Go.ChangeAt Go.RowKit
theorem Tryz.cells8 : Tryz.prog.cellsOf 5 = 1 := by kernel_rfl
theorem u8_of_wf {n : Int} (h : (Lit.int .u8 n).wf = true) : 0 ≤ n ∧ n ≤ 255 := by
  have h1 : IntKind.u8.min = 0 := rfl
  have h2 : IntKind.u8.max = 255 := rfl
  simp only [Lit.wf, Bool.and_eq_true, decide_eq_true_eq] at h
  omega
set_option maxRecDepth 100000 in
theorem open_bytes {H : Type} {enc : TypeId × Value → H} {W : World} {v : Value} {d : DataW H} {p : List MemPlace}
    (hv : Value.okWide Tryz.prog W .any 0 22 v) (h : DataW.Trod enc Tryz.prog W 0 (fun _ => true) true 22 v d p) (hlt : ∀ x ∈ p, x.block < W.heap.size) :
    ∃ ao n cap xs, v = .slice ao n cap ∧ Bytes W.heap.size W ao n cap xs := by
  obtain ⟨a0, len, cap, rfl⟩ := okWide_slice Tryz.underlying22 hv
  obtain ⟨fuel, hf⟩ := h
  rcases open_ints Tryz.underlying22 Tryz.underlying5 Tryz.cells8 hf with ⟨hcs, hx⟩ | ⟨a, len', cap', zs, hcs, _, hl, hm, hz, hx, hcell, hwz⟩
  · simp [Value.cells] at hcs
    obtain ⟨rfl, rfl, rfl⟩ := hcs
    exact ⟨none, 0, 0, [], rfl, rfl, Nat.le_refl _, by unfold maxLen; omega, fun j hj => by omega, fun x hx => by cases hx⟩
  · simp [Value.cells] at hcs
    obtain ⟨rfl, rfl, rfl⟩ := hcs
    simp only [Prod.mk.injEq] at hx
    obtain ⟨rfl, rfl⟩ := hx
    simp only [if_true] at hz
    refine ⟨some a, len, cap, zs.take len, rfl, by rw [List.length_take]; omega, hl, hm, fun j hj => ?_, fun x hx => u8_of_wf (hwz x (List.mem_of_mem_take hx))⟩
    obtain ⟨b, off, spot⟩ := a
    have hspot : spot = none := by simpa [Addr.add] using World.cell?_spot (hcell 0 (by omega))
    subst hspot
    have hbW : b < W.heap.size := hlt (.cell b off) (MemPlace.mem_row.2 ⟨0, by omega, by simp⟩)
    refine ⟨b, off, rfl, hbW, ?_⟩
    have := hcell j (by omega)
    rw [add_plain] at this
    rw [this]
    simp [List.getD, hj]
end Go.Proofs.YtccoljbnddfmpaaGreatDoor

namespace Go.Proofs.YtccoljbnddfmpaaGreatDoor
open Go.ChangeShapes Go.WideShapes Go.ChangeAt Go.RowKit
set_option maxRecDepth 100000 in
theorem fnSound_lifted (os : Os) (started : os.Started) (H : Type) (enc : TypeId × Value → H) :
    ReturnsInHanded {} Tryz.checked os 4 .any (fun w args => (Rows.fnSoundSpec.pre enc Tryz.prog Tryz.f4 [] false w args ∧ laidMetH Tryz.prog laid3 w) ∧ sizedMet enc Tryz.prog Tryz.f4 (OpenSpec.ofChange Rows.fnSoundSpec) false w args) (Rows.fnSoundSpec.post enc Tryz.prog Tryz.f4 false true false false) := by
  refine returnsInHanded_of_change_and (C := Tryz.checked) (X := fun w _ => laidMetH Tryz.prog laid3 w) (fun _ _ _ hh h => h.of_heap hh) Tryz.own started (by kernel_rfl) Tryz.func4
    (ChangeSpec.witness_shaped (enc := enc) (C := Tryz.checked) (os := os) (X := fun w _ => laidMetH Tryz.prog laid3 w) false (World.doorLaid Tryz.prog 54 os) #[.slice none 0 0] 8 rfl (World.shaped_of_RefB (by kernel_rfl) (by kernel_rfl)) (by kernel_rfl) (by kernel_rfl) (by kernel_rfl) (door_met os _)) ?_
  intro W base args ds gs before hval0 hW _ _ hL _
  have hval : ∀ (j : Nat) t v, Tryz.f4.params[j]? = some t → args[j]? = some v → Value.okWide Tryz.prog W .any base t v := hval0
  have hW' := hW
  obtain ⟨p, q, hA0, hV0, rfl, hfz, hnd⟩ := hW
  have hA : DataW.TrodAll enc Tryz.prog W 0 (fun _ => true) true Tryz.f4.params.toList args.toList ds p := hA0
  have hV : DataW.TrodVars enc Tryz.prog W (fun _ => true) ["loop.example/g00824/impl.errNotRight", "loop.example/g00824/impl.errShort"] gs q := hV0
  rw [Tryz.params4] at hA hval
  obtain ⟨v0, d0, rfl, rfl, h0⟩ := trodAll_one hA
  obtain ⟨a0, a1, hE, hvB, hvS⟩ := errs_of_laid hL
  have vr : ∀ {X : World}, X.var? Tryz.prog "loop.example/g00824/impl.errNotRight" = some #[.iface 195 (.pointer (some a1))] → X.var? Tryz.prog "loop.example/g00824/impl.errShort" = some #[.iface 195 (.pointer (some a0))] → ∀ sp : Nat → Bool,
      DataW.TrodVars enc Tryz.prog X sp ["loop.example/g00824/impl.errNotRight", "loop.example/g00824/impl.errShort"] [tok enc (.iface 195 (.pointer (some a1))), tok enc (.iface 195 (.pointer (some a0)))] [.cell 1 0, .cell 0 0] :=
    fun x0 x1 sp => vars_read2 enc Tryz.gBad Tryz.gBadType Tryz.underlying57 x0 trivial Tryz.gShort Tryz.gShortType Tryz.underlying57 x1 trivial sp
  obtain ⟨rfl, rfl⟩ := hV.unique (vr hvB hvS _)
  clear hA0 hV0 hval0 hA
  have hlt : ∀ x ∈ p, x.block < W.heap.size := fun x hx => hW'.lt x (List.mem_append_left _ hx)
  have h0k := h0
  obtain ⟨ao, n, cap, xs, rfl, hx⟩ := open_bytes (by exact hval 0 _ v0 rfl rfl) h0 hlt
  refine (fnSound_any ao n cap xs a0 a1 W hx hE).mono fun e W' ⟨he, hb⟩ => ?_
  subst he
  exact ⟨_, rfl, _, _, _, _, _, _, hW', trodAll_mk1 (shut_bool Tryz.underlying4 _), trodAll_mk1 (Below.trod Tryz.laidOut (by kernel_rfl) (of_decide_eq_true (by kernel_rfl)) h0k hb hlt), vr (var_below Tryz.gBad hvB hb) (var_below Tryz.gShort hvS hb) _, hb.frame _, fun h => by cases h⟩
theorem fnSound_row : Rows.FnSoundSaid :=
  OpenClaim.holds_of_wide 4 Tryz.f4 rfl rfl rfl rfl rfl rfl rfl ⟨rfl, rfl, rfl, rfl, rfl⟩ rfl rfl rfl rfl rfl (by kernel_rfl) Tryz.func4 (by kernel_rfl)
    (of_decide_eq_true (by kernel_rfl)) (by unfold Func.isWrapper; first | (rw [if_pos (by decide +kernel)]; kernel_rfl) | (rw [if_neg (by decide +kernel)]; exact ⟨rfl, rfl⟩))
    (fun os started H enc _ => fnSound_lifted os started H enc)
theorem fnSound_holds : Rows.FnSoundCardSaid :=
  Claim7.holds_tied_plain_at .later [] [.handle, .sentinel, .sentinel] true (true, "54b7835c7a8d800d060729e5e2cc7848114cfe73bca8fc2aa05bf3d533d0f0e4") true
    fnSound_row (fun _ h => by cases h) (by kernel_rfl) (fun _ h => by cases h) fnSound_row_tie rfl ⟨rfl, rfl⟩ (by kernel_rfl) rfl
    (fun f fn hf hfn => by
      obtain rfl : f = 4 := Option.some.inj ((show Tryz.prog.funcNamed "loop.example/g00824/laws.FnSound" = some 4 by kernel_rfl).symm.trans hf) |>.symm
      obtain rfl : fn = Tryz.f4 := (Option.some.inj (Tryz.func4.symm.trans hfn)).symm
      exact ⟨by kernel_rfl, fun j t ht => by
        rw [Tryz.params4] at ht
        have hm : t ∈ [22] := by simpa using Array.mem_of_getElem? ht
        have hall : ([22].all fun u => !Tryz.prog.wantsStandIn u) = true := by kernel_rfl
        exact (show Tryz.prog.wantsStandIn t = false by simpa using List.all_eq_true.1 hall t hm)⟩)
    (by kernel_rfl)
end Go.Proofs.YtccoljbnddfmpaaGreatDoor
