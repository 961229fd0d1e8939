/- Texts of this claim, put together. -/
import Derived.Test.YtoniahfdjhhalaaGreatP1
import Derived.Test.YtoniahfdjhhalaaGreatP2
import Derived.Test.YtoniahfdjhhalaaGreatP7
import Derived.Test.YtoniahfdjhhalaaGreatP10

namespace Go.Proofs.YtoniahfdjhhalaaGreat
open Go.RowKit
def putE : List Ent → Ent → List Ent
  | [], e => [e]
  | x :: r, e => if x.key < e.key then x :: putE r e else if x.key = e.key then e :: r else e :: x :: r
theorem put_step {es : List Ent} {e : Ent} {k : Nat} (hk : k < es.length) (h : putE es e = es.take k ++ putE (es.drop k) e) (hl : (E es k).key < e.key) : putE es e = es.take (k + 1) ++ putE (es.drop (k + 1)) e := by
  rw [h, dropE' hk, putE, if_pos hl, takeE hk, List.append_assoc]
  rfl
theorem put_same {es : List Ent} {e : Ent} {k : Nat} (hk : k < es.length) (h : putE es e = es.take k ++ putE (es.drop k) e) (hl : (E es k).key = e.key) : putE es e = es.take k ++ [e] ++ es.drop (k + 1) := by
  rw [h, dropE' hk, putE, if_neg (by omega), if_pos hl, List.append_assoc]
  rfl
theorem put_else {es : List Ent} {e : Ent} {k : Nat} (hk : k < es.length) (h : putE es e = es.take k ++ putE (es.drop k) e) (hl : ¬ (E es k).key < e.key) (hn : ¬ (E es k).key = e.key) : putE es e = es.take k ++ [e] ++ es.drop k := by
  rw [h, dropE' hk, putE, if_neg hl, if_neg hn, List.append_assoc]
  rfl
theorem put_end {es : List Ent} {e : Ent} {k : Nat} (hk : es.length ≤ k) (h : putE es e = es.take k ++ putE (es.drop k) e) : putE es e = es.take k ++ [e] ++ es.drop k := by
  rw [h, List.drop_of_length_le hk, putE, List.append_nil]
theorem put_len (es : List Ent) (e : Ent) : (putE es e).length ≤ es.length + 1 := by
  induction es with
  | nil => simp [putE]
  | cons x r ih =>
    rw [putE]
    split
    · simp; omega
    · split <;> simp
theorem put_wf {es : List Ent} {e : Ent} (h : AllE es) (he : e.wf) : AllE (putE es e) := by
  induction es with
  | nil => intro x hx; simp [putE] at hx; subst hx; exact he
  | cons x r ih =>
    have hr := ih (fun y hy => h y (List.mem_cons_of_mem _ hy))
    have hx0 := h x (List.mem_cons_self ..)
    rw [putE]
    split
    · intro y hy
      rcases List.mem_cons.1 hy with rfl | hy
      · exact hx0
      · exact hr y hy
    · split
      · intro y hy
        rcases List.mem_cons.1 hy with rfl | hy
        · exact he
        · exact h y (List.mem_cons_of_mem _ hy)
      · intro y hy
        rcases List.mem_cons.1 hy with rfl | hy
        · exact he
        · exact h y hy
set_option maxHeartbeats 2000000 in
set_option maxRecDepth 100000 in
theorem l4With_any (B : Nat) (ao : Option Addr) (n cap : Nat) (es : List Ent) (x : Ent) (w : World) (hx : Ents B w ao n cap es) (hz : ao = none → cap = 0) (hB : B ≤ w.heap.size) (hn : n ≤ 1073741824) :
    Calls Tryz.prog 86 #[.slice ao n cap, .agg #[.int .i64 x.o, .int .i64 x.s, .int .i64 x.a, .int .i64 x.d]] w (NewEs (putE es x) w) := by
  have hx0 := hx.hlen; have hx1 := hx.hcap; have hx2 := hx.hmax
  unfold maxLen at hx2
  have HX := Lib.hid hx0; clear hx0
  have hK := fun w => specKeyOf_any x.o x.s x.a x.d w
  have hkE : keyOf x.o x.s x.a x.d = x.key := rfl
  rw [hkE] at hK
  clear hkE
  generalize hr : putE es x = res
  have hinv : res = es.take 0 ++ putE (es.drop 0) x := by rw [← hr]; rfl
  have HR := Lib.hid hr; clear hr
  generalize hkx : x.key = kx at hK
  have HKX := Lib.hid hkx; clear hkx
  go_enter Tryz.func86, Tryz.ntmps86
  have hbox : Blk (w.alloc (.cells #[.int .i64 x.o, .int .i64 x.s, .int .i64 x.a, .int .i64 x.d] 47)) w.heap.size 47 #[.int .i64 x.o, .int .i64 x.s, .int .i64 x.a, .int .i64 x.d] := Blk.new _ _ _
  have hb0 : Below w.heap.size w (w.alloc (.cells #[.int .i64 x.o, .int .i64 x.s, .int .i64 x.a, .int .i64 x.d] 47)) := (Below.refl _ _).alloc (Nat.le_refl _) _
  go_wp2
  go_loopw [5] (fun sk wr => ∃ k : Nat, k ≤ n ∧ sk = .int .i64 k ∧ Hid (res = es.take k ++ putE (es.drop k) x) ∧ Below w.heap.size w wr ∧ Blk wr w.heap.size 47 #[.int .i64 x.o, .int .i64 x.s, .int .i64 x.a, .int .i64 x.d]) (fun sk _ => n - (intOf sk).toNat)
  case atStart => exact ⟨0, Nat.zero_le _, rfl, Lib.hid hinv, hb0, hbox⟩
  case round =>
    obtain ⟨k, hk, rfl, hin, hbel, hblk⟩ := hrel
    have hxW := hx.below hbel hB hB
    go_upto_region 2 with fail
    go_cut [20] (fun sq wx => ∃ q : Bool, sq = .bool q ∧ Hid (q = true → k < n ∧ (E es k).key < kx) ∧ Hid (q = false → k < n → ¬ (E es k).key < kx) ∧ Below w.heap.size w wx ∧ Blk wx w.heap.size 47 #[.int .i64 x.o, .int .i64 x.s, .int .i64 x.a, .int .i64 x.d])
    case first =>
      by_cases hlt : k < n
      ·
        obtain ⟨b, off, rfl, hbB, hc⟩ := hxW.at k hlt
        have g1 := hc k hlt
        clear hc
        have hsz := hbel.size
        have hwW := hblk.lt
        have hKy := fun w => specKeyOf_any (E es k).o (E es k).s (E es k).a (E es k).d w
        have hkE : keyOf (E es k).o (E es k).s (E es k).a (E es k).d = (E es k).key := rfl
        rw [hkE] at hKy
        clear hkE
        generalize hyk : (E es k).key = kk at hKy
        have HYK := Lib.hid hyk; clear hyk
        generalize hyi : E es k = y at hKy g1
        clear hyi
        have HVV : ∀ w', Below wr.heap.size wr w' → Ent4 w' b (off + k * 4) y := fun w' h => g1.below h (by omega)
        have HDD : ∀ w', Below wr.heap.size wr w' → Blk w' w.heap.size 47 #[.int .i64 x.o, .int .i64 x.s, .int .i64 x.a, .int .i64 x.d] := fun w' h => hblk.below h hwW
        have HV := Lib.hid HVV; have HD := Lib.hid HDD; clear HVV HDD
        obtain ⟨c0, c1, c2, c3⟩ := g1
        have p0 := hblk.cell 0; have p1 := hblk.cell 1; have p2 := hblk.cell 2; have p3 := hblk.cell 3
        have i1 : (0 : Int) ≤ k := by omega
        have i2 : (k : Int) < n := by omega
        go_wp2_with fail
        go_region_held3 (fun w' => w'.cell? ⟨b, off + k * 4, none⟩ = some (.int .i64 y.o) ∧ w'.cell? ⟨b, off + k * 4 + 1, none⟩ = some (.int .i64 y.s) ∧ w'.cell? ⟨b, off + k * 4 + 2, none⟩ = some (.int .i64 y.a) ∧ w'.cell? ⟨b, off + k * 4 + 3, none⟩ = some (.int .i64 y.d) ∧ w'.cell? ⟨w.heap.size, 0, none⟩ = some (.int .i64 x.o) ∧ w'.cell? ⟨w.heap.size, 1, none⟩ = some (.int .i64 x.s) ∧ w'.cell? ⟨w.heap.size, 2, none⟩ = some (.int .i64 x.a) ∧ w'.cell? ⟨w.heap.size, 3, none⟩ = some (.int .i64 x.d))
          (first | exact ⟨(HV.out _ HBB).h0, (HV.out _ HBB).h1, (HV.out _ HBB).h2, (HV.out _ HBB).h3, (HD.out _ HBB).cell 0, (HD.out _ HBB).cell 1, (HD.out _ HBB).cell 2, (HD.out _ HBB).cell 3⟩ | exact ⟨(HV.out _ HBA).h0, (HV.out _ HBA).h1, (HV.out _ HBA).h2, (HV.out _ HBA).h3, (HD.out _ HBA).cell 0, (HD.out _ HBA).cell 1, (HD.out _ HBA).cell 2, (HD.out _ HBA).cell 3⟩ | exact ⟨c0, c1, c2, c3, p0, p1, p2, p3⟩)
          (first
            | (go_at_call_of 23 (Value.agg #[Value.int IntKind.i64 y.o, Value.int IntKind.i64 y.s, Value.int IntKind.i64 y.a, Value.int IntKind.i64 y.d]); refine (hKy _).mono ?_; rintro e wA ⟨rfl, hbA⟩; have HBA := (Below.refl wr.heap.size wr).drew.trans hbA)
            | (go_at_call_of 23 (Value.agg #[Value.int IntKind.i64 x.o, Value.int IntKind.i64 x.s, Value.int IntKind.i64 x.a, Value.int IntKind.i64 x.d]); refine (hK _).mono ?_; rintro e wC ⟨rfl, hbC⟩; have HBB := HBA.trans (hbC.mono HBA.size)))
        go_wp2_with fail
        go_meet
        refine ⟨_, rfl, ?_, ?_, hbel.trans (HBB.mono hsz), HD.out _ HBB⟩
        · exact Lib.hid (fun h => ⟨hlt, by rw [HYK.out]; simpa using h⟩)
        · exact Lib.hid (fun h _ => by rw [HYK.out]; simpa using h)
      · have i1 : (0 : Int) ≤ k := by omega
        have i2 : decide ((k : Int) < n) = false := decide_eq_false (by omega)
        have i3 : decide (k < n) = false := decide_eq_false hlt
        go_wp2_with fail
        go_quiet (fail)
        go_wp2_with fail
        go_meet
        exact ⟨false, rfl, Lib.hid (fun h => by cases h), Lib.hid (fun _ h => absurd h hlt), below_drewN hbel _, hblk.drewN _⟩
    case rest =>
      obtain ⟨q, rfl, hq1, hq2, hbx, hbk⟩ := hcut
      rcases q with _ | _
      · have hno := hq2.out rfl
        clear hq1 hq2
        have HNO := Lib.hid hno; clear hno
        have hxc := hx.below hbx hB hB
        have hsc := hbx.size
        have hbc := hbk.lt
        have hx1 : Ents w.heap.size (wc.alloc (.cells #[] 47)) ao k cap (es.take k) := (hxc.take k hk).below ((Below.refl w.heap.size wc).alloc hsc _) (Nat.le_refl _) (Nat.le_refl _)
        have ho0 := ownE_empty wc
        have hbk1 := hbk.alloc (.cells #[] 47)
        have hB1 := hbx.alloc hsc (.cells #[] 47)
        have hs1 : wc.heap.size ≤ (wc.alloc (.cells #[] 47)).heap.size := by simp
        have htl : (es.take k).length ≤ 1073741824 := by rw [List.length_take]; omega
        have i1 : (0 : Int) ≤ k := by omega
        have i2 : (k : Int) ≤ n := by omega
        have i3 : (k : Int) ≤ cap := by omega
        go_upto_region 5 with (at_builtin; refine appendE_all rfl _ _ rfl wc.heap.size w.heap.size _ [] (es.take k) ao k cap rfl rfl hx1 hz ho0 hs1 (by simp; omega) ?_; intro vA wA hownA hbA)
        rw [List.nil_append] at hownA
        have hbkA := hbk1.below hbA hbc
        have hBA := hB1.trans (hbA.mono hsc)
        have p0 := hbkA.cell 0; have p1 := hbkA.cell 1; have p2 := hbkA.cell 2; have p3 := hbkA.cell 3
        have hsA := hbA.size
        go_upto_region 6 with (at_builtin; refine appendE_one x rfl _ _ rfl wc.heap.size vA (es.take k) rfl rfl hownA (by omega) (by omega) ?_; intro vB wB hownB hbB1)
        have hsB := hbB1.size
        have hbkB := hbkA.below hbB1 hbc
        have hBB0 := hBA.trans (hbB1.mono hsc)
        have hxB := hx.below hBB0 hB hB
        have hcB : wc.heap.size ≤ wB.heap.size := by have := hsA; simp at this; omega
        have hwB : w.heap.size ≤ wB.heap.size := by omega
        obtain ⟨g0, hg0⟩ : ∃ g0, g0 = wc.heap.size := ⟨_, rfl⟩
        rw [← hg0] at hownB hcB
        have hwg : w.heap.size ≤ g0 := by omega
        have htx : (es.take k ++ [x]).length ≤ 1073741825 := by simp only [List.length_append, List.length_singleton]; omega
        clear p0 p1 p2 p3 hxc hx1 ho0 hbk1 hB1 hs1 hownA hbA hbkA hBA hbB1 hsA i2 i3 hbx hbk hxW hblk hbel
        go_cut [45] (fun sq wx => ∃ q : Bool, sq = .bool q ∧ Hid (q = true → k < n ∧ (E es k).key = kx) ∧ Hid (q = false → k < n → ¬ (E es k).key = kx) ∧ Below wB.heap.size wB wx)
        case first =>
          by_cases hlt : k < n
          ·
            obtain ⟨b, off, rfl, hbB, hc⟩ := hxB.at k hlt
            have g1 := hc k hlt
            clear hc
            have hsz := hBB0.size
            have hwW := hbkB.lt
            have hKy := fun w => specKeyOf_any (E es k).o (E es k).s (E es k).a (E es k).d w
            have hkE : keyOf (E es k).o (E es k).s (E es k).a (E es k).d = (E es k).key := rfl
            rw [hkE] at hKy
            clear hkE
            generalize hyk : (E es k).key = kk at hKy
            have HYK := Lib.hid hyk; clear hyk
            generalize hyi : E es k = y at hKy g1
            clear hyi
            have HVV : ∀ w', Below wB.heap.size wB w' → Ent4 w' b (off + k * 4) y := fun w' h => g1.below h (by omega)
            have HDD : ∀ w', Below wB.heap.size wB w' → Blk w' w.heap.size 47 #[.int .i64 x.o, .int .i64 x.s, .int .i64 x.a, .int .i64 x.d] := fun w' h => hbkB.below h hwW
            have HV := Lib.hid HVV; have HD := Lib.hid HDD; clear HVV HDD
            obtain ⟨c0, c1, c2, c3⟩ := g1
            have p0 := hbkB.cell 0; have p1 := hbkB.cell 1; have p2 := hbkB.cell 2; have p3 := hbkB.cell 3
            have i1 : (0 : Int) ≤ k := by omega
            have i2 : (k : Int) < n := by omega
            go_wp2_with fail
            go_region_held3 (fun w' => w'.cell? ⟨b, off + k * 4, none⟩ = some (.int .i64 y.o) ∧ w'.cell? ⟨b, off + k * 4 + 1, none⟩ = some (.int .i64 y.s) ∧ w'.cell? ⟨b, off + k * 4 + 2, none⟩ = some (.int .i64 y.a) ∧ w'.cell? ⟨b, off + k * 4 + 3, none⟩ = some (.int .i64 y.d) ∧ w'.cell? ⟨w.heap.size, 0, none⟩ = some (.int .i64 x.o) ∧ w'.cell? ⟨w.heap.size, 1, none⟩ = some (.int .i64 x.s) ∧ w'.cell? ⟨w.heap.size, 2, none⟩ = some (.int .i64 x.a) ∧ w'.cell? ⟨w.heap.size, 3, none⟩ = some (.int .i64 x.d))
              (first | exact ⟨(HV.out _ HBB).h0, (HV.out _ HBB).h1, (HV.out _ HBB).h2, (HV.out _ HBB).h3, (HD.out _ HBB).cell 0, (HD.out _ HBB).cell 1, (HD.out _ HBB).cell 2, (HD.out _ HBB).cell 3⟩ | exact ⟨(HV.out _ HBA).h0, (HV.out _ HBA).h1, (HV.out _ HBA).h2, (HV.out _ HBA).h3, (HD.out _ HBA).cell 0, (HD.out _ HBA).cell 1, (HD.out _ HBA).cell 2, (HD.out _ HBA).cell 3⟩ | exact ⟨c0, c1, c2, c3, p0, p1, p2, p3⟩)
              (first
                | (go_at_call_of 23 (Value.agg #[Value.int IntKind.i64 y.o, Value.int IntKind.i64 y.s, Value.int IntKind.i64 y.a, Value.int IntKind.i64 y.d]); refine (hKy _).mono ?_; rintro e wA ⟨rfl, hbA⟩; have HBA := (Below.refl wB.heap.size wB).drew.trans hbA)
                | (go_at_call_of 23 (Value.agg #[Value.int IntKind.i64 x.o, Value.int IntKind.i64 x.s, Value.int IntKind.i64 x.a, Value.int IntKind.i64 x.d]); refine (hK _).mono ?_; rintro e wC ⟨rfl, hbC⟩; have HBB := HBA.trans (hbC.mono HBA.size)))
            go_wp2_with fail
            go_meet
            refine ⟨_, rfl, ?_, ?_, HBB⟩
            · exact Lib.hid (fun h => ⟨hlt, by rw [HYK.out]; simpa using h⟩)
            · exact Lib.hid (fun h _ => by rw [HYK.out]; simpa using h)
          · have i2 : decide ((k : Int) < n) = false := decide_eq_false (by omega)
            have i3 : decide (k < n) = false := decide_eq_false hlt
            go_wp2_with fail
            go_quiet (fail)
            go_wp2_with fail
            go_meet
            exact ⟨false, rfl, Lib.hid (fun h => by cases h), Lib.hid (fun _ h => absurd h hlt), below_drewN (Below.refl _ _) _⟩
        case rest =>
          obtain ⟨q, rfl, hq1, hq2, hby⟩ := hcut
          have hsy := hby.size
          have hsB' : g0 ≤ wc.heap.size := by omega
          have hwc : w.heap.size ≤ g0 := hwg
          have hownY := hownB.below hby (Nat.le_refl _)
          have hBY := hBB0.trans (hby.mono (by omega))
          have hxY := hx.below hBY hB hB
          rcases q with _ | _
          · have hres : res = es.take k ++ [x] ++ es.drop k := by
              by_cases hlt : k < n
              · rw [← HR.out]
                exact put_else (by have := HX.out; omega) (by rw [HR.out]; exact hin.out) (by rw [HKX.out]; exact HNO.out hlt) (by rw [HKX.out]; exact hq2.out rfl hlt)
              · rw [← HR.out]
                exact put_end (by have := HX.out; omega) (by rw [HR.out]; exact hin.out)
            have HRES := Lib.hid hres; clear hres
            have hxd := hxY.drop k hk
            have hzd := drop_none (cap := cap) (k := k) hz
            have i4 : (k : Int) ≤ n := by omega
            have i5 : (n : Int) ≤ cap := by omega
            clear hq1 hq2 hin HNO
            go_wp2_with (at_builtin; refine appendE_all rfl _ _ rfl g0 w.heap.size _ (es.take k ++ [x]) (es.drop k) _ _ _ rfl rfl hxd hzd hownY hsB' (by omega) ?_; intro vC wD hownC hbC)
            all_goals
              go_ret
              exact ⟨_, rfl, by first | (rw [HRES.out]; exact hownC.mono hwg) | (rw [HR.out.trans HRES.out]; exact hownC.mono hwg), hBY.trans (hbC.mono hwc)⟩
          · have hq := hq1.out rfl
            have hres : res = es.take k ++ [x] ++ es.drop (k + 1) := by
              rw [← HR.out]
              exact put_same (by have := HX.out; omega) (by rw [HR.out]; exact hin.out) (by rw [HKX.out]; exact hq.2)
            have HRES := Lib.hid hres; clear hres
            have hkn := hq.1
            have hxd := hxY.drop (k + 1) hkn
            have hzd := drop_none (cap := cap) (k := k + 1) hz
            have i4 : (k : Int) + 1 ≤ n := by omega
            have i5 : (n : Int) ≤ cap := by omega
            have i6 : (0 : Int) ≤ (k : Int) + 1 := by omega
            clear hq1 hq2 hin HNO hq
            go_wp2_with (at_builtin; refine appendE_all rfl _ _ rfl g0 w.heap.size _ (es.take k ++ [x]) (es.drop (k + 1)) _ _ _ rfl rfl hxd hzd hownY hsB' (by omega) ?_; intro vC wD hownC hbC)
            all_goals
              go_ret
              exact ⟨_, rfl, by first | (rw [HRES.out]; exact hownC.mono hwg) | (rw [HR.out.trans HRES.out]; exact hownC.mono hwg), hBY.trans (hbC.mono hwc)⟩
      · have hq := hq1.out rfl
        have hnext := Lib.hid (put_step (es := es) (e := x) (k := k) (by have := HX.out; omega) (by rw [HR.out]; exact hin.out) (by rw [HKX.out]; exact hq.2))
        rw [HR.out] at hnext
        have hkn := hq.1
        clear hq hq1 hq2 hin
        go_wp2
        go_roundw
        case rel => exact ⟨k + 1, by omega, by go_num, hnext, hbx, hbk⟩
        case measure => simp [intOf]; omega
def amount : List Ent → Int → Int → Int
  | [], _, _ => 0
  | e :: r, o, s => if e.o = o ∧ e.s = s then e.a else amount r o s
theorem dropE {es : List Ent} {k : Nat} (h : k < es.length) : es.drop k = E es k :: es.drop (k + 1) := by
  rw [List.drop_eq_getElem_cons h, E_get h]
theorem amount_hit {es : List Ent} {k : Nat} {o s : Int} (h : k < es.length) (ho : (E es k).o = o) (hs : (E es k).s = s) : amount (es.drop k) o s = (E es k).a := by
  rw [dropE h, amount, if_pos ⟨ho, hs⟩]
theorem amount_miss {es : List Ent} {k : Nat} {o s : Int} (h : k < es.length) (hn : ¬ ((E es k).o = o ∧ (E es k).s = s)) : amount (es.drop k) o s = amount (es.drop (k + 1)) o s := by
  rw [dropE h, amount, if_neg hn]
set_option maxHeartbeats 1000000 in
theorem l4Amount_any (B : Nat) (ao : Option Addr) (n cap : Nat) (es : List Ent) (o s : Int) (w : World) (hx : Ents B w ao n cap es) :
    Calls Tryz.prog 92 #[.slice ao n cap, .int .i64 o, .int .i64 s] w fun e w' => e = .returned (.int .i64 (amount es o s)) ∧ Drew w w' := by
  have hx0 := hx.hlen; have hx1 := hx.hcap; have hx2 := hx.hmax
  unfold maxLen at hx2
  have HX := Lib.hid hx0; clear hx0
  generalize hb : amount es o s = v
  have HB := Lib.hid hb; clear hb
  go_enter Tryz.func92, Tryz.ntmps92
  go_wp2
  go_loopw [7] (fun si wr => ∃ i : Nat, i ≤ n ∧ si = .int .i64 i ∧ Hid (amount (es.drop i) o s = v) ∧ Drew w wr) (fun si _ => n - (intOf si).toNat)
  case atStart => exact ⟨0, Nat.zero_le _, rfl, Lib.hid HB.out, Drew.refl _⟩
  case round =>
    obtain ⟨i, hi, rfl, hr, nq, rfl⟩ := hrel
    by_cases hlt : i < n
    · obtain ⟨b, off, rfl, hbB, hc⟩ := hx.at i hlt
      obtain ⟨c0, c1, c2, -⟩ := hc i hlt
      have hhit : (E es i).o = o → (E es i).s = s → (E es i).a = v := fun h1 h2 => by rw [← hr.out, amount_hit (by have := HX.out; omega) h1 h2]
      have hmiss : ¬ ((E es i).o = o ∧ (E es i).s = s) → amount (es.drop (i + 1)) o s = v := fun h => by rw [← hr.out, amount_miss (by have := HX.out; omega) h]
      clear hc
      generalize (E es i).o = xo at c0 hhit hmiss
      generalize (E es i).s = xs at c1 hhit hmiss
      generalize (E es i).a = xa at c2 hhit
      have HH := Lib.hid hhit; have HM := Lib.hid hmiss; clear hhit hmiss
      have c0' : (w.drewN nq).cell? ⟨b, off + i * 4, none⟩ = some (.int .i64 xo) := c0
      have c1' : (w.drewN nq).cell? ⟨b, off + i * 4 + 1, none⟩ = some (.int .i64 xs) := c1
      have c2' : (w.drewN nq).cell? ⟨b, off + i * 4 + 2, none⟩ = some (.int .i64 xa) := c2
      have i1 : (0 : Int) ≤ i := by omega
      have i2 : (i : Int) < n := by omega
      by_cases ho : xo = o
      · have ho' : (xo == o) = true := by simpa using ho
        by_cases hs : xs = s
        · have hs' : (xs == s) = true := by simpa using hs
          have hv := Lib.hid (HH.out ho hs)
          clear ho hs HM HH
          go_wp2
          go_ret
          exact ⟨ret_int hv.out, Drew.one _ _⟩
        · have hs' : (xs == s) = false := by simpa using hs
          have hv := Lib.hid (HM.out (fun h => hs h.2))
          clear ho hs HM HH
          go_wp2
          go_roundw
          case rel => exact ⟨i + 1, by omega, by go_num, hv, Drew.one _ _⟩
          case measure => simp [intOf]; omega
      · have ho' : (xo == o) = false := by simpa using ho
        have hv := Lib.hid (HM.out (fun h => ho h.1))
        clear ho HM HH
        go_wp2
        go_roundw
        case rel => exact ⟨i + 1, by omega, by go_num, hv, Drew.one _ _⟩
        case measure => simp [intOf]; omega
    · have ei : i = n := by omega
      subst ei
      have hv : v = 0 := by rw [← hr.out, List.drop_of_length_le (by have := HX.out; omega)]; rfl
      subst hv
      go_wp2
      go_ret
      exact ⟨rfl, Drew.one _ _⟩
end Go.Proofs.YtoniahfdjhhalaaGreat
