/- FnExactWith: for all arguments the call returns true, and they read afterwards as before; no condition. -/
import Derived.Test.YtekkjfhmabefoaaExactE
import Derived.Test.YtekkjfhmabefoaaOpenE
import Derived.Test.YtekkjfhmabefoaaImplWith
import Derived.Test.YtekkjfhmabefoaaToEntry
import Derived.Test.YtekkjfhmabefoaaBig
import Derived.Deep.RegionHeld3
namespace Go.Proofs.Ytekkjfhmabefoaa
open Go.ChangeShapes Go.WideShapes Go.ChangeAt Go.RowKit

theorem withR_getD {es : List Ent} {x : Ent} : AllE ((withR es x).getD []) ∧ ((withR es x).getD []).length ≤ 20 := by
  unfold withR
  split
  · rename_i hh
    exact ⟨book_wf hh.2.2, book_len hh.2.2⟩
  · exact ⟨(fun z hz => by cases hz), by simp⟩

set_option maxHeartbeats 4000000 in
set_option maxRecDepth 100000 in
theorem exactWith_any (ao : Option Addr) (n cap : Nat) (es : List Ent) (x : Ent) (w : World) (hx : Ents w.heap.size w ao n cap es) (hxw : x.wf) :
    Calls Try.prog 6 #[.slice ao n cap, .agg #[.int .i64 x.o, .int .i64 x.s, .int .i64 x.a, .int .i64 x.d]] w (Yes w) := by
  have hmax : n ≤ maxLen := Nat.le_trans hx.hcap hx.hmax
  have hn1 := hx.hcap; have hn2 := hx.hmax
  unfold maxLen at hn2
  have hbx : Below w.heap.size w (w.alloc (.cells #[.int .i64 x.o, .int .i64 x.s, .int .i64 x.a, .int .i64 x.d] 42)) := (Below.refl _ _).alloc (Nat.le_refl _) _
  have hblk : Blk (w.alloc (.cells #[.int .i64 x.o, .int .i64 x.s, .int .i64 x.a, .int .i64 x.d] 42)) w.heap.size 42 #[.int .i64 x.o, .int .i64 x.s, .int .i64 x.a, .int .i64 x.d] := Blk.new _ _ _
  by_cases hbig : 1048576 < n
  · have hsz : (if (1048576 : Int) < n then (-1 : Int) else 1048576 - n) = -1 := if_pos (by omega)
    have hc := fun w => szEntryS_any ao n cap 1048576 w hmax (by decide) (by decide)
    rw [hsz] at hc
    clear hsz
    have HBX := Lib.hid hbx; clear hbx hblk
    go_enter Try.func6, Try.ntmps6
    go_wp2_with fail
    refine (hc _).mono ?_
    rintro e w1 ⟨rfl, rfl⟩
    go_wp2_with fail
    go_ret
    exact ⟨rfl, HBX.out⟩
  · have hsz : (if (1048576 : Int) < n then (-1 : Int) else 1048576 - n) = 1048576 - n := if_neg (by omega)
    have hc := fun w => szEntryS_any ao n cap 1048576 w hmax (by decide) (by decide)
    rw [hsz] at hc
    clear hsz
    have hpos : (0 : Int) ≤ 1048576 - n := by omega
    have hn : n ≤ 1048576 := by omega
    have hwS := fun B a c w h1 hz h2 => specWith_any B a n c es x w h1 hz h2 hxw
    have hwI := fun B a c w h1 hz h2 => implWith_any B a n c es x w h1 hz h2 hxw
    have hT := fun w => toEntry_any x.o x.s x.a x.d w
    obtain ⟨hall, hle⟩ := withR_getD (es := es) (x := x)
    generalize withR es x = r at hwS hwI hall hle
    have hlt0 := hblk.lt
    have hxb := hx.below hbx (Nat.le_refl _) (Nat.le_refl _)
    have hsb := hbx.size
    have hxe := hx.wf
    go_enter Try.func6, Try.ntmps6
    go_wp2_with fail
    generalize w.alloc (.cells #[.int .i64 x.o, .int .i64 x.s, .int .i64 x.a, .int .i64 x.d] 42) = wb at hbx hblk hlt0 hxb hsb ⊢
    refine (hc _).mono ?_
    rintro e w1 ⟨rfl, rfl⟩
    have hxD : Ents w.heap.size w1.drew ao n cap es := hxb.below ((Below.refl _ _).drew) (Nat.le_refl _) (Nat.le_refl _)
    have hDD : ∀ w', Below w1.heap.size w1 w' → Blk w' w.heap.size 42 #[.int .i64 x.o, .int .i64 x.s, .int .i64 x.a, .int .i64 x.d] := fun w' h => hblk.below h hlt0
    have HD := Lib.hid hDD; clear hDD hblk
    have q0 := (HD.out w1 (Below.refl _ _)).cell 0; have q1 := (HD.out w1 (Below.refl _ _)).cell 1; have q2 := (HD.out w1 (Below.refl _ _)).cell 2; have q3 := (HD.out w1 (Below.refl _ _)).cell 3
    go_wp2_with fail
    go_region_held3 (fun w' => w'.cell? ⟨w.heap.size, 0, none⟩ = some (.int .i64 x.o) ∧ w'.cell? ⟨w.heap.size, 1, none⟩ = some (.int .i64 x.s) ∧ w'.cell? ⟨w.heap.size, 2, none⟩ = some (.int .i64 x.a) ∧ w'.cell? ⟨w.heap.size, 3, none⟩ = some (.int .i64 x.d))
      (first | exact ⟨(HD.out _ HBS).cell 0, (HD.out _ HBS).cell 1, (HD.out _ HBS).cell 2, (HD.out _ HBS).cell 3⟩ | exact ⟨(HD.out _ HBT).cell 0, (HD.out _ HBT).cell 1, (HD.out _ HBT).cell 2, (HD.out _ HBT).cell 3⟩ | exact ⟨(HD.out _ HBA).cell 0, (HD.out _ HBA).cell 1, (HD.out _ HBA).cell 2, (HD.out _ HBA).cell 3⟩ | exact ⟨q0, q1, q2, q3⟩)
      (first
        | (go_at_call 19; refine (toEntryS_any _ _ _ _ es _ hxD hsb hn).mono ?_; rintro e wA ⟨aA, cA, rfl, hoA, hiA, hzA, hbA, hsA⟩; have HBA := (Below.refl w1.heap.size w1).drew.trans hbA)
        | (go_at_call 21; refine (hT _).mono ?_; rintro e wT ⟨rfl, hbT⟩; have HBT := HBA.trans (hbT.mono HBA.size))
        | (go_at_call 10; refine (hwS _ _ _ _ (hiA.below hbT (Nat.le_refl _) hbT.size) hzA (Nat.le_refl _)).mono ?_; rintro e wS ⟨v1, rfl, ho1, hb1⟩; have HBS := HBT.trans (hb1.mono HBT.size)))
    obtain ⟨rs, hrs⟩ : ∃ rs, r.getD [] = rs := ⟨_, rfl⟩
    obtain ⟨rb, hrb⟩ : ∃ rb, r.isSome = rb := ⟨_, rfl⟩
    obtain ⟨m, hm⟩ : ∃ m, rs.length = m := ⟨_, rfl⟩
    have hmay : ∀ w e w', MaybeEs r w e w' → ∃ v, e = .returned (.tuple #[v, .bool rb]) ∧ OwnE w.heap.size w' v rs ∧ Below w.heap.size w w' := fun w e w' h => by
      obtain ⟨v, h1, h2, h3⟩ := h
      rw [hrb] at h1; rw [hrs] at h2
      exact ⟨v, h1, h2, h3⟩
    rw [hrs] at hall hle ho1
    rw [hrb]
    rw [hm] at hle
    have HM := Lib.hid hm; have HMAY := Lib.hid hmay
    clear hmay hm hrs hrb hwS hiA hzA hoA hbA hsA hbT q0 q1 q2 q3 hxD hxb
    obtain ⟨a1, c1, rfl, hi1, -⟩ := ho1.ents hall
    rw [HM.out] at hi1 ⊢
    clear ho1 hb1 HBA HBT
    have hb0S := hbx.trans (HBS.mono hsb)
    have hsS := hb0S.size
    have hxS := hx.below hb0S (Nat.le_refl _) (Nat.le_refl _)
    have hs1S := HBS.size
    go_wp2_with fail
    refine (toEntryS_any _ _ _ _ es _ hxS hsS hn).mono ?_
    rintro e w2 ⟨a2, c2, rfl, ho2, hi2, hz2, hb2, hs2⟩
    have HB2 := HBS.trans (hb2.mono hs1S)
    have hb02 := hb0S.trans (hb2.mono hsS)
    have hi12 := hi1.below hb2 (Nat.le_refl _) (Nat.le_refl _)
    have q0 := (HD.out _ HB2).cell 0; have q1 := (HD.out _ HB2).cell 1; have q2 := (HD.out _ HB2).cell 2; have q3 := (HD.out _ HB2).cell 3
    have HZ2 := Lib.hid hz2; clear hz2
    clear hi1 hxS
    go_wp2_with fail
    refine (hT _).mono ?_
    rintro e w3 ⟨rfl, hb3⟩
    have HB3 := HB2.trans (hb3.mono HB2.size)
    have hs3 := hb3.size
    have hi23 := hi2.below hb3 (Nat.le_refl _) hs3
    clear q0 q1 q2 q3
    go_wp2_with fail
    refine (hwI _ _ _ _ hi23 HZ2.out (Nat.le_refl _)).mono ?_
    rintro e w4 hmay4
    obtain ⟨v4, rfl, ho4, hb4⟩ := HMAY.out _ _ _ hmay4
    clear hmay4
    have hs4 := hb4.size
    have HB4 := HB3.trans (hb4.mono HB3.size)
    have hb24 := hb3.trans (hb4.mono hs3)
    have hb04 := hb02.trans (hb24.mono hb02.size)
    have hi14 := hi12.below hb24 hs2 (Nat.le_refl _)
    have hi24 := hi2.below hb24 (Nat.le_refl _) (Nat.le_refl _)
    have ho24 := ho2.below hb24 (Nat.le_refl _)
    have ho2o := ho2
    have ho4k := ho4
    obtain ⟨a4, c4, rfl, hi4, -⟩ := ho4.ents hall
    rw [HM.out] at hi4 ho4k ⊢
    clear hi12 hi23 hi2 ho2 ho4 hb3 hb4 HB2 HB3
    go_wp2_with fail
    refine (eqEntryS_any _ _ _ _ _ _ _ _ _ _ _ hi4 hi14 (Nat.le_refl _) (by omega)).mono ?_
    rintro e w5 ⟨rfl, hb5⟩
    rw [decide_eq_true rfl]
    have hs5 := hb5.size
    have HB5 := HB4.trans (hb5.mono HB4.size)
    have hb05 := hb04.trans (hb5.mono hb04.size)
    have hi15 := hi14.below hb5 (by omega) (Nat.le_refl _)
    have hi25 := hi24.below hb5 (by omega) (Nat.le_refl _)
    have ho25 := ho24.below hb5 (Nat.le_refl _)
    have ho45 := ho4k.below hb5 (Nat.le_refl _)
    have hx5 := hx.below hb05 (Nat.le_refl _) (Nat.le_refl _)
    clear hi14 hi24 hi4 ho24 ho4k
    go_wp2_with fail
    refine (toEntryS_any _ _ _ _ es _ hx5 hb05.size hn).mono ?_
    rintro e w6 ⟨a6, c6, rfl, -, hi6, -, hb6, hs6⟩
    have HB6 := HB5.trans (hb6.mono HB5.size)
    have hb06 := hb05.trans (hb6.mono hb05.size)
    have hi16 := hi15.below hb6 (by omega) (Nat.le_refl _)
    have hi26 := hi25.below hb6 (by omega) (Nat.le_refl _)
    have ho26 := ho25.below hb6 (Nat.le_refl _)
    have ho46 := ho45.below hb6 (Nat.le_refl _)
    clear hi15 hi25 ho25 ho45 hx5
    go_wp2_with fail
    refine (eqEntryS_any _ _ _ _ _ _ _ _ _ _ _ hi26 hi6 (by omega) (Nat.le_refl _)).mono ?_
    rintro e w7 ⟨rfl, hb7⟩
    rw [decide_eq_true rfl]
    have hs7 := hb7.size
    have HB7 := HB6.trans (hb7.mono HB6.size)
    have hb07 := hb06.trans (hb7.mono hb06.size)
    have hi17 := hi16.below hb7 (by omega) (Nat.le_refl _)
    have ho27 := ho26.below hb7 (Nat.le_refl _)
    have ho47 := ho46.below hb7 (Nat.le_refl _)
    clear hi16 hi26 hi6 ho26 ho46
    have hmk := markEntryS_any wS.heap.size _ es 1 n w7 ho27 hx.hlen (by decide) (by decide) hn (by omega)
    go_wp2_with fail
    refine hmk.mono ?_
    rintro e w8 ⟨rfl, -, hg8, hs8, hb8⟩
    have ho48 := ho47.older ho2o hs3 hg8
    have HB8 := HB7.trans (hb8.mono hs1S)
    have hb08 := hb07.trans (hb8.mono hsS)
    have hi18 := hi17.below hb8 (Nat.le_refl _) (Nat.le_refl _)
    have hi48 := ho48.ents_at hall
    clear hmk ho27 ho2o ho47 hi17 hg8 hb8
    have k1 : ¬ (1 + 4 * (n : Int)) < 0 := by omega
    go_wp2_with fail
    refine (eqEntryS_any _ _ _ _ _ _ _ _ _ _ _ hi48 hi18 (Nat.le_refl _) (by omega)).mono ?_
    rintro e w9 ⟨rfl, hb9⟩
    rw [decide_eq_true rfl]
    have hs9 := hb9.size
    have HB9 := HB8.trans (hb9.mono HB8.size)
    have hb09 := hb08.trans (hb9.mono hb08.size)
    have hi19 := hi18.below hb9 (by omega) (Nat.le_refl _)
    have ho49 := ho48.below hb9 (Nat.le_refl _)
    clear hi18 hi48 ho48
    have hmk := markEntryS_any w3.heap.size _ rs 1 m w9 ho49 HM.out (by decide) (by decide) (by omega) (by omega)
    go_wp2_with fail
    refine hmk.mono ?_
    rintro e wA ⟨rfl, hoA, hgA, hsA, hbA⟩
    have HBA := HB9.trans (hbA.mono (by omega))
    have hb0A := hb09.trans (hbA.mono (by omega))
    have hi1A := hi19.below hbA (by omega) (Nat.le_refl _)
    have hmwf : AllE (marksE 1 m) := marksE_wf (by decide) (by omega)
    have hiA := hoA.ents_at hmwf
    clear hmk ho49 hi19 hgA hbA
    go_wp2_with fail
    refine (heldEntryS_any _ _ _ _ 1 _ hiA (by decide) (by decide) (by omega)).mono ?_
    rintro e wB ⟨rfl, rfl⟩
    have k2 : ¬ (1 + 4 * (m : Int)) < 0 := by omega
    have hxA : Ents w.heap.size wB.drew ao n cap es := (hx.below hb0A (Nat.le_refl _) (Nat.le_refl _)).below ((Below.refl w.heap.size wB).drew) (Nat.le_refl _) (Nat.le_refl _)
    have hs0A := hb0A.size
    have q0 := (HD.out _ HBA).cell 0; have q1 := (HD.out _ HBA).cell 1; have q2 := (HD.out _ HBA).cell 2; have q3 := (HD.out _ HBA).cell 3
    go_wp2_with fail
    go_region_held3 (fun w' => w'.cell? ⟨w.heap.size, 0, none⟩ = some (.int .i64 x.o) ∧ w'.cell? ⟨w.heap.size, 1, none⟩ = some (.int .i64 x.s) ∧ w'.cell? ⟨w.heap.size, 2, none⟩ = some (.int .i64 x.a) ∧ w'.cell? ⟨w.heap.size, 3, none⟩ = some (.int .i64 x.d))
      (first | exact ⟨(HD.out _ HBS2).cell 0, (HD.out _ HBS2).cell 1, (HD.out _ HBS2).cell 2, (HD.out _ HBS2).cell 3⟩ | exact ⟨(HD.out _ HBT2).cell 0, (HD.out _ HBT2).cell 1, (HD.out _ HBT2).cell 2, (HD.out _ HBT2).cell 3⟩ | exact ⟨(HD.out _ HBA2).cell 0, (HD.out _ HBA2).cell 1, (HD.out _ HBA2).cell 2, (HD.out _ HBA2).cell 3⟩ | exact ⟨q0, q1, q2, q3⟩)
      (first
        | (go_at_call 19; refine (toEntryS_any _ _ _ _ es _ hxA hs0A hn).mono ?_; rintro e wD ⟨aD, cD, rfl, -, hiD, hzD, hbD, hsD⟩; have hbBD := (Below.refl wB.heap.size wB).drew.trans hbD; have HBA2 := HBA.trans (hbBD.mono HBA.size))
        | (go_at_call 21; refine (hT _).mono ?_; rintro e wT2 ⟨rfl, hbT2⟩; have hbBT := hbBD.trans (hbT2.mono hbBD.size); have HBT2 := HBA.trans (hbBT.mono HBA.size))
        | (go_at_call 9; refine (hwI _ _ _ _ (hiD.below hbT2 (Nat.le_refl _) hbT2.size) hzD (Nat.le_refl _)).mono ?_; rintro e wF hmayF; obtain ⟨v9, rfl, ho9, hb9F⟩ := HMAY.out _ _ _ hmayF; have hbBF := hbBT.trans (hb9F.mono hbBT.size); have HBS2 := HBA.trans (hbBF.mono HBA.size)))
    obtain ⟨a9, c9, rfl, hi9, -⟩ := ho9.ents hall
    rw [HM.out] at hi9 ⊢
    have hi1F := hi1A.below hbBF (by omega) (Nat.le_refl _)
    have hiAF := hiA.below hbBF (Nat.le_refl _) hbBF.size
    have hb0F := hb0A.trans (hbBF.mono hs0A)
    have hsF := hbBF.size
    clear hi1A hiA q0 q1 q2 q3 hiD hzD hbD hsD hbBD hbT2 hbBT hxA ho9 HBA2 HBT2
    go_wp2_with fail
    refine (eqEntryS_any _ _ _ _ _ _ _ _ _ _ _ hi9 hi1F (Nat.le_refl _) (by omega)).mono ?_
    rintro e wG ⟨rfl, hbG⟩
    rw [decide_eq_true rfl]
    have hiAG := hiAF.below hbG (Nat.le_refl _) hbG.size
    have hb0G := hb0F.trans (hbG.mono hb0F.size)
    go_wp2_with fail
    refine (heldEntryS_any _ _ _ _ 1 _ hiAG (by decide) (by decide) (by omega)).mono ?_
    rintro e wH ⟨rfl, rfl⟩
    go_wp2_with fail
    go_ret
    exact ⟨rfl, hb0G⟩

set_option maxRecDepth 100000 in
theorem exactWith_lifted (os : Os) (started : os.Started) (H : Type) (enc : TypeId × Value → H) :
    ReturnsInHanded {} Try.checked os 6 .any (Rows.fnExactWithSpec.pre6 enc Try.prog Try.f6 Rows.fnExactWithRow.domain false) (Rows.fnExactWithSpec.post enc Try.prog Try.f6 false true false false) := by
  refine returnsInHanded_of_change (C := Try.checked) Try.own started (by kernel_rfl) Try.func6
    (ChangeSpec.witness6 (enc := enc) (C := Try.checked) false ⟨#[], #[.slice none 0 0, .agg #[.int .i64 0, .int .i64 0, .int .i64 0, .int .i64 0]], []⟩ 8 (by kernel_rfl) (by kernel_rfl) (by kernel_rfl) (by kernel_rfl)) ?_
  intro W base args ds gs before hval0 hW hcnd _
  have hval : ∀ (j : Nat) t v, Try.f6.params[j]? = some t → args[j]? = some v → Value.okWide Try.prog W .any base t v := hval0
  have hW' := hW
  obtain ⟨p, q, hA0, hV, rfl, hfz, hnd⟩ := hW
  have hA : DataW.TrodAll enc Try.prog W 0 (fun _ => true) true Try.f6.params.toList args.toList ds p := hA0
  rw [Try.params6] at hA hval
  obtain ⟨v0, v1, d0, d1, p0, p1, rfl, rfl, rfl, h0, h1⟩ := trodAll_two hA
  obtain ⟨rfl, rfl⟩ := trodVars_none hV
  clear hA0 hval0 hA
  simp only [List.append_nil] at hW' hfz
  have hlt : ∀ x ∈ p0 ++ p1, x.block < W.heap.size := fun x hx => by simpa using hW'.lt x hx
  have hlt0 : ∀ x ∈ p0, x.block < W.heap.size := fun x hx => hlt x (List.mem_append_left _ hx)
  have hlt1 : ∀ x ∈ p1, x.block < W.heap.size := fun x hx => hlt x (List.mem_append_right _ hx)
  have h0k := h0
  obtain ⟨ao0, n0, cap0, es0, rfl, hx0⟩ := open_ents (by exact hval 0 _ v0 rfl rfl) h0 hlt0
  have h1k := h1
  obtain ⟨e1, rfl, hx1⟩ := open_entw (by exact hval 1 _ v1 rfl rfl) h1
  refine (exactWith_any ao0 n0 cap0 es0 e1 W hx0 hx1).mono fun e W' ⟨he, hb⟩ => ?_
  subst he
  exact ⟨_, rfl, _, _, _, _, _, [], hW', trodAll_mk1 (shut_bool Try.underlying4 _), trodAll_mk2 (Below.trod Try.laidOut (by kernel_rfl) (of_decide_eq_true (by kernel_rfl)) h0k hb hlt0) (Below.trod Try.laidOut (by kernel_rfl) (of_decide_eq_true (by kernel_rfl)) h1k hb hlt1), rfl, hb.frame _, fun h => by cases h⟩

theorem exactWith_holds : Rows.FnExactWithSaid :=
  OpenClaim.holds_of_wide 6 Try.f6 rfl rfl rfl rfl rfl rfl rfl ⟨rfl, rfl, rfl, rfl, rfl⟩ rfl rfl rfl rfl rfl (by kernel_rfl) Try.func6 (by kernel_rfl)
    (of_decide_eq_true (by kernel_rfl)) (by unfold Func.isWrapper; first | (rw [if_pos (by decide +kernel)]; kernel_rfl) | (rw [if_neg (by decide +kernel)]; exact ⟨rfl, rfl⟩))
    (fun os started H enc _ => exactWith_lifted os started H enc)

end Go.Proofs.Ytekkjfhmabefoaa
