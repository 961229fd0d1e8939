/- FnJoins: for every slice of bytes the call returns true, and the slice reads afterwards as before; no condition. -/
import Derived.Test.YtoniahfdjhhalaaGreatP1
import Derived.Test.YtoniahfdjhhalaaGreatP39
import Derived.Test.YtoniahfdjhhalaaGreatP40
import Derived.Test.YtoniahfdjhhalaaGreatP44
import Derived.Test.YtoniahfdjhhalaaGreatP47
import Derived.Test.YtoniahfdjhhalaaGreatP48
import Derived.ProofKit

namespace Go.Proofs.YtoniahfdjhhalaaGreat
open Go.RowKit
theorem takeB_eq_step {xs ys : List Ent} {k n : Nat} (hx : xs.length = n) (hy : ys.length = n) (hk : k < n) (h : xs.take k = ys.take k) (he : E xs k = E ys k) : xs.take (k + 1) = ys.take (k + 1) := by
  rw [List.take_succ_eq_append_getElem (by omega), List.take_succ_eq_append_getElem (by omega), h, ← E_get (by omega), ← E_get (by omega), he]
theorem ent_neq {x y : Ent} (h : x ≠ y) : x.o ≠ y.o ∨ x.s ≠ y.s ∨ x.a ≠ y.a ∨ x.d ≠ y.d := by
  obtain ⟨a, b, c, d⟩ := x
  obtain ⟨a', b', c', d'⟩ := y
  simp at h ⊢
  omega
set_option maxHeartbeats 1000000 in
set_option maxRecDepth 100000 in
theorem likeBook_any (B C : Nat) (ao bo : Option Addr) (n cap m dap : Nat) (xs ys : List Ent) (w : World) (hx : Ents B w ao n cap xs) (hy : Ents C w bo m dap ys) :
    Calls Tryz.prog 9 #[.slice ao n cap, .slice bo m dap] w fun e w' => e = .returned (.bool (decide (xs = ys))) ∧ Drew w w' := by
  have hxl := hx.hlen
  have hyl := hy.hlen
  have hx1 := hx.hcap; have hx2 := hx.hmax; have hy1 := hy.hcap; have hy2 := hy.hmax
  unfold maxLen at hx2 hy2
  have HX := Lib.hid hxl; have HY := Lib.hid hyl
  generalize hq : decide (xs = ys) = q
  have HQ := Lib.hid hq; clear hq
  by_cases hnm : n = m
  · subst hnm
    clear hxl hyl
    go_enter Tryz.func9, Tryz.ntmps9
    go_wp2
    go_loopw [5] (fun i wr => ∃ k : Nat, k ≤ n ∧ i = .int .i64 k ∧ Hid (xs.take k = ys.take k) ∧ Drew w wr) (fun i _ => n - (intOf i).toNat)
    case atStart => exact ⟨0, Nat.zero_le _, rfl, rfl, Drew.refl _⟩
    case round =>
      obtain ⟨k, hk, rfl, ht, nq, rfl⟩ := hrel
      by_cases hlt : k < n
      · obtain ⟨b, off, rfl, hbB, hc⟩ := hx.at k hlt
        obtain ⟨b', off', rfl, hbC, hc'⟩ := hy.at k hlt
        have hstep : E xs k = E ys k → xs.take (k + 1) = ys.take (k + 1) := fun h => takeB_eq_step HX.out HY.out hlt ht.out h
        have hne : E xs k ≠ E ys k → q = false := fun h => by rw [← HQ.out]; exact decide_eq_false (fun e => h (by rw [e]))
        have v1 := hc k hlt
        have v2 := hc' k hlt
        generalize E xs k = x at hstep hne v1
        generalize E ys k = y at hstep hne v2
        obtain ⟨c0, c1, c2, c3⟩ : Ent4 (w.drewN nq) b (off + k * 4) x := ⟨v1.h0, v1.h1, v1.h2, v1.h3⟩
        obtain ⟨d0, d1, d2, d3⟩ : Ent4 (w.drewN nq) b' (off' + k * 4) y := ⟨v2.h0, v2.h1, v2.h2, v2.h3⟩
        have HS := Lib.hid hstep; have HN := Lib.hid hne
        clear hstep hne hc hc' v1 v2
        have i1 : (0 : Int) ≤ k := by omega
        have i2 : (k : Int) < n := by omega
        by_cases he : x = y
        · have hd := Lib.hid (HS.out he)
          subst he
          clear HN HS
          go_wp2
          go_region_held3 (fun w' => w'.cell? ⟨b, off + k * 4, none⟩ = some (.int .i64 x.o) ∧ w'.cell? ⟨b, off + k * 4 + 1, none⟩ = some (.int .i64 x.s) ∧ w'.cell? ⟨b, off + k * 4 + 2, none⟩ = some (.int .i64 x.a) ∧ w'.cell? ⟨b, off + k * 4 + 3, none⟩ = some (.int .i64 x.d) ∧ w'.cell? ⟨b', off' + k * 4, none⟩ = some (.int .i64 x.o) ∧ w'.cell? ⟨b', off' + k * 4 + 1, none⟩ = some (.int .i64 x.s) ∧ w'.cell? ⟨b', off' + k * 4 + 2, none⟩ = some (.int .i64 x.a) ∧ w'.cell? ⟨b', off' + k * 4 + 3, none⟩ = some (.int .i64 x.d))
            (exact ⟨c0, c1, c2, c3, d0, d1, d2, d3⟩) (fail)
          go_wp2
          go_roundw
          case rel => exact ⟨k + 1, by omega, by go_num, hd, by first | exact Drew.two _ _ _ | exact Drew.one _ _⟩
          case measure => simp [intOf]; omega
        · have hd := Lib.hid (HN.out he)
          by_cases e0 : x.o = y.o
          rotate_left
          ·
            clear he HN HS
            go_wp2
            go_region_held3 (fun w' => w'.cell? ⟨b, off + k * 4, none⟩ = some (.int .i64 x.o) ∧ w'.cell? ⟨b, off + k * 4 + 1, none⟩ = some (.int .i64 x.s) ∧ w'.cell? ⟨b, off + k * 4 + 2, none⟩ = some (.int .i64 x.a) ∧ w'.cell? ⟨b, off + k * 4 + 3, none⟩ = some (.int .i64 x.d) ∧ w'.cell? ⟨b', off' + k * 4, none⟩ = some (.int .i64 y.o) ∧ w'.cell? ⟨b', off' + k * 4 + 1, none⟩ = some (.int .i64 y.s) ∧ w'.cell? ⟨b', off' + k * 4 + 2, none⟩ = some (.int .i64 y.a) ∧ w'.cell? ⟨b', off' + k * 4 + 3, none⟩ = some (.int .i64 y.d))
              (exact ⟨c0, c1, c2, c3, d0, d1, d2, d3⟩) (fail)
            go_wp2
            go_ret
            exact ⟨ret_bool hd.out.symm, by first | exact Drew.two _ _ _ | exact Drew.one _ _⟩
          by_cases e1 : x.s = y.s
          rotate_left
          ·
            clear he HN HS
            go_wp2
            go_region_held3 (fun w' => w'.cell? ⟨b, off + k * 4, none⟩ = some (.int .i64 x.o) ∧ w'.cell? ⟨b, off + k * 4 + 1, none⟩ = some (.int .i64 x.s) ∧ w'.cell? ⟨b, off + k * 4 + 2, none⟩ = some (.int .i64 x.a) ∧ w'.cell? ⟨b, off + k * 4 + 3, none⟩ = some (.int .i64 x.d) ∧ w'.cell? ⟨b', off' + k * 4, none⟩ = some (.int .i64 y.o) ∧ w'.cell? ⟨b', off' + k * 4 + 1, none⟩ = some (.int .i64 y.s) ∧ w'.cell? ⟨b', off' + k * 4 + 2, none⟩ = some (.int .i64 y.a) ∧ w'.cell? ⟨b', off' + k * 4 + 3, none⟩ = some (.int .i64 y.d))
              (exact ⟨c0, c1, c2, c3, d0, d1, d2, d3⟩) (fail)
            go_wp2
            go_ret
            exact ⟨ret_bool hd.out.symm, by first | exact Drew.two _ _ _ | exact Drew.one _ _⟩
          by_cases e2 : x.a = y.a
          rotate_left
          ·
            clear he HN HS
            go_wp2
            go_region_held3 (fun w' => w'.cell? ⟨b, off + k * 4, none⟩ = some (.int .i64 x.o) ∧ w'.cell? ⟨b, off + k * 4 + 1, none⟩ = some (.int .i64 x.s) ∧ w'.cell? ⟨b, off + k * 4 + 2, none⟩ = some (.int .i64 x.a) ∧ w'.cell? ⟨b, off + k * 4 + 3, none⟩ = some (.int .i64 x.d) ∧ w'.cell? ⟨b', off' + k * 4, none⟩ = some (.int .i64 y.o) ∧ w'.cell? ⟨b', off' + k * 4 + 1, none⟩ = some (.int .i64 y.s) ∧ w'.cell? ⟨b', off' + k * 4 + 2, none⟩ = some (.int .i64 y.a) ∧ w'.cell? ⟨b', off' + k * 4 + 3, none⟩ = some (.int .i64 y.d))
              (exact ⟨c0, c1, c2, c3, d0, d1, d2, d3⟩) (fail)
            go_wp2
            go_ret
            exact ⟨ret_bool hd.out.symm, by first | exact Drew.two _ _ _ | exact Drew.one _ _⟩
          have e3 : ¬ x.d = y.d := by rcases ent_neq he with h | h | h | h <;> simp_all
          clear he HN HS
          go_wp2
          go_region_held3 (fun w' => w'.cell? ⟨b, off + k * 4, none⟩ = some (.int .i64 x.o) ∧ w'.cell? ⟨b, off + k * 4 + 1, none⟩ = some (.int .i64 x.s) ∧ w'.cell? ⟨b, off + k * 4 + 2, none⟩ = some (.int .i64 x.a) ∧ w'.cell? ⟨b, off + k * 4 + 3, none⟩ = some (.int .i64 x.d) ∧ w'.cell? ⟨b', off' + k * 4, none⟩ = some (.int .i64 y.o) ∧ w'.cell? ⟨b', off' + k * 4 + 1, none⟩ = some (.int .i64 y.s) ∧ w'.cell? ⟨b', off' + k * 4 + 2, none⟩ = some (.int .i64 y.a) ∧ w'.cell? ⟨b', off' + k * 4 + 3, none⟩ = some (.int .i64 y.d))
            (exact ⟨c0, c1, c2, c3, d0, d1, d2, d3⟩) (fail)
          go_wp2
          go_ret
          exact ⟨ret_bool hd.out.symm, by first | exact Drew.two _ _ _ | exact Drew.one _ _⟩
      · have ek : k = n := by omega
        subst ek
        have h1 := ht.out
        rw [List.take_of_length_le (by have := HX.out; omega), List.take_of_length_le (by have := HY.out; omega)] at h1
        have hd := Lib.hid (HQ.out.symm.trans (decide_eq_true h1))
        clear h1
        go_wp2
        go_ret
        exact ⟨ret_bool hd.out.symm, by first | exact Drew.two _ _ _ | exact Drew.one _ _⟩
  · have hne : xs ≠ ys := fun h => hnm (by rw [← hxl, ← hyl, h])
    have hd := Lib.hid (HQ.out.symm.trans (decide_eq_false hne)); clear hne
    have hb : ((n : Int) != (m : Int)) = true := by rw [bne_iff_ne]; omega
    clear hxl hyl
    go_enter Tryz.func9, Tryz.ntmps9
    go_wp2
    go_ret
    exact ⟨ret_bool hd.out.symm, Drew.refl _⟩
set_option maxHeartbeats 400000 in
theorem big_any (ao : Option Addr) (n cap : Nat) (w : World) :
    Calls Tryz.prog 4 #[.slice ao n cap] w fun e w' => e = .returned (.bool (decide (4096 < n))) ∧ w' = w := by
  go_enter Tryz.func4, Tryz.ntmps4
  go_wp2
  go_ret
  exact ⟨ret_bool (by simp; omega), rfl⟩
structure Three (p q r o t f : List Ent) : Prop where
  pq : joinR p q = some o
  qp : joinR q p = some o
  ot : joinR o r = some t
  qr : joinR q r = some f
  pf : joinR p f = some t
  pp : joinR p p = some p
  wp : within p o = true
  wq : within q o = true
  wr : within r t = true
  all : AllE p ∧ AllE q ∧ AllE r ∧ AllE o ∧ AllE t ∧ AllE f
  len : p.length ≤ 20 ∧ q.length ≤ 20 ∧ r.length ≤ 20 ∧ o.length ≤ 20 ∧ t.length ≤ 20 ∧ f.length ≤ 20
theorem three_of {log p q r : List Ent} (hL : LogOk log) (hp : bookOk p = true) (hq : bookOk q = true) (hr : bookOk r = true) (op : Of log p) (oq : Of log q) (or' : Of log r) : ∃ o t f, Three p q r o t f := by
  obtain ⟨h1, h2, h3, b1, b2, b3, w1, w2, w3⟩ := joins_log hL hp hq hr op oq or'
  refine ⟨joinE p q, joinE (joinE p q) r, joinE q r, joinR_yes hp hq b1, ?_, joinR_yes b1 hr b3, joinR_yes hq hr b2, ?_, ?_, w1, w2, w3, ⟨book_wf hp, book_wf hq, book_wf hr, book_wf b1, book_wf b3, book_wf b2⟩, ⟨book_len hp, book_len hq, book_len hr, book_len b1, book_len b3, book_len b2⟩⟩
  · rw [h1]; rw [h1] at b1; exact joinR_yes hq hp b1
  · rw [h2]; rw [h2] at b3; exact joinR_yes hp b2 b3
  · rw [joinR_yes hp hp (by rw [h3]; exact hp), h3]
theorem maybe_some {r : Option (List Ent)} {x : List Ent} {w w' : World} {e : Ending} (h : MaybeEs r w e w') (hr : r = some x) (hx : AllE x) : ∃ a c, e = .returned (.tuple #[.slice a x.length c, .bool true]) ∧ Ents w'.heap.size w' a x.length c x ∧ Below w.heap.size w w' := by
  subst hr
  obtain ⟨v, rfl, ho, hb⟩ := h
  obtain ⟨a, c, rfl, hi, -⟩ := OwnE.ents ho hx
  exact ⟨a, c, rfl, hi, hb⟩
set_option maxHeartbeats 8000000 in
set_option maxRecDepth 100000 in
theorem fnJoins_any (ao : Option Addr) (n cap : Nat) (bs : List Int) (w : World) (hb : Bytes w.heap.size w ao n cap bs) :
    Calls Tryz.prog 3 #[.slice ao n cap] w (Yes w) := by
  by_cases hbig : 4096 < n
  · go_enter Tryz.func3, Tryz.ntmps3
    go_wp2_with fail
    refine (big_any _ _ _ _).mono ?_
    rintro e w1 ⟨rfl, rfl⟩
    rw [decide_eq_true hbig]
    go_wp2_with fail
    go_ret
    exact ⟨rfl, Below.refl _ _⟩
  · go_enter Tryz.func3, Tryz.ntmps3
    go_wp2_with fail
    refine (big_any _ _ _ _).mono ?_
    rintro e w1 ⟨rfl, rfl⟩
    rw [decide_eq_false hbig]
    go_wp2_with fail
    refine (drawJoined_any _ _ _ _ bs _ hb (Nat.le_refl _) (by omega)).mono ?_
    rintro e w2 ⟨v2, es, u2, fs, rfl, h1, hes, hel, h2, hfs, hfl, hb2⟩
    obtain ⟨a1, c1, rfl, hx1, -⟩ := h1.ents hes
    obtain ⟨a2, c2, rfl, hx2, -⟩ := h2.ents hfs
    have hs2 := hb2.size
    have hbb2 := hb.below hb2 (Nat.le_refl _) (Nat.le_refl _)
    clear h1 h2 hb
    have hJI := implJoined_any _ _ _ _ _ _ _ _ _ w2 hx1 hx2 (Nat.le_refl _) (by omega) (by omega)
    have hJS := fun w' (h : Below w2.heap.size w2 w') => specJoined_any _ _ _ _ _ _ _ _ _ w' (hx1.below h (Nat.le_refl _) (Nat.le_refl _)) (hx2.below h (Nat.le_refl _) (Nat.le_refl _)) h.size
    have hjw : AllE ((joinR es fs).getD []) ∧ ((joinR es fs).getD []).length ≤ 20 := joinR_getD
    generalize joinR es fs = r0 at hJI hJS hjw
    obtain ⟨hjw, hjl⟩ := hjw
    have HJS := Lib.hid hJS; clear hJS hx1 hx2
    go_wp2_with fail
    refine hJI.mono ?_
    rintro e w3 ⟨v3, rfl, hown3, hb3⟩
    obtain ⟨a3, c3, rfl, hx3, -⟩ := OwnE.ents hown3 hjw
    have hs3 := hb3.size
    clear hJI hown3
    go_wp2_with fail
    refine (HJS.out _ hb3).mono ?_
    rintro e w4 ⟨v4, rfl, hown4, hb4⟩
    obtain ⟨a4, c4, rfl, hx4, -⟩ := OwnE.ents hown4 hjw
    have hs4 := hb4.size
    have hx34 := hx3.below hb4 (Nat.le_refl _) (Nat.le_refl _)
    have hb24 := hb3.trans (hb4.mono hs3)
    have hbb4 := hbb2.below hb24 hs2 (Nat.le_refl _)
    have hb14 := hb2.trans (hb24.mono hs2)
    clear HJS hown4 hx3 hbb2 hb3 hb4 hb24
    generalize r0.getD [] = xs at hx34 hx4 hjw hjl
    generalize r0.isSome = is0
    have hne0 : (is0 != is0) = false := by cases is0 <;> rfl
    go_wp2_with fail
    refine (drawWithin_any _ _ _ _ bs _ hbb4 hb14.size (by omega)).mono ?_
    rintro e w5 ⟨v5, us, u5, vs, rfl, h1, hus, hul, h2, hvs, hvl, hb5⟩
    obtain ⟨a5, c5, rfl, hx5, -⟩ := h1.ents hus
    obtain ⟨a6, c6, rfl, hx6, -⟩ := h2.ents hvs
    have hs5 := hb5.size
    have hbb5 := hbb4.below hb5 hb14.size (Nat.le_refl _)
    have hb15 := hb14.trans (hb5.mono hb14.size)
    have hy3 := hx34.below hb5 (by omega) (Nat.le_refl _)
    have hy4 := hx4.below hb5 (by omega) (Nat.le_refl _)
    clear h1 h2 hbb4 hx34 hx4 hb14
    go_wp2_with fail
    refine (likeBook_any _ _ _ _ _ _ _ _ _ _ _ hy3 hy4).mono ?_
    rintro e w6 ⟨rfl, hd6⟩
    rw [decide_eq_true rfl]
    have hb6 := hd6.below w5.heap.size
    have hs6 := hb6.size
    have hx56 := hx5.below hb6 (Nat.le_refl _) (Nat.le_refl _)
    have hx66 := hx6.below hb6 (Nat.le_refl _) (Nat.le_refl _)
    have hWI := implWithin_any _ _ _ _ _ _ _ _ _ w6 hx56 hx66 hs6 (by omega) (by omega)
    have hWS := fun w' (h : Below w6.heap.size w6 w') => specWithin_any _ _ _ _ _ _ _ _ _ w' (hx56.below h hs6 (Nat.le_refl _)) (hx66.below h hs6 (Nat.le_refl _)) (by have := h.size; omega)
    generalize within us vs = wv at hWI hWS
    have hnew : (wv != wv) = false := by cases wv <;> rfl
    have HWS := Lib.hid hWS; clear hWS hy3 hy4 hx5 hx6 hx56 hx66 hd6
    go_wp2_with fail
    refine hWI.mono ?_
    rintro e w7 ⟨rfl, hb7⟩
    have hb67 := hb7
    have hs7 := hb7.size
    clear hWI
    go_wp2_with fail
    refine (HWS.out _ hb7).mono ?_
    rintro e w8 ⟨rfl, hb8⟩
    have hb58 := (hb6.trans (hb7.mono hs6)).trans (hb8.mono (by omega))
    have hbb8 := hbb5.below hb58 hb15.size (Nat.le_refl _)
    have hb18 := hb15.trans (hb58.mono hb15.size)
    have hs18 := hb18.size
    clear HWS hb7 hb8 hb67 hb6 hb58 hbb5 hb15 hb2 hjw hus hvs
    go_upto_region 9 with fail
    go_wp2_with fail
    refine (roll_any w1.heap.size _ _ _ bs 3 _ hbb8 hs18 (by omega)).mono ?_
    rintro e w9 ⟨he9, hd9, hb9⟩
    subst he9
    obtain ⟨g, hg0⟩ : ∃ g, w8.heap.size = g := ⟨_, rfl⟩
    rw [hg0] at hd9 ⊢
    have hgw : w1.heap.size ≤ g := by omega
    have hb19 := hb18.trans (hb9.mono hs18)
    have hs19 := hb19.size
    clear hbb8 hb18 hb9 hs2 hs3 hs4 hs5 hs6 hs7 hg0
    go_wp2_with fail
    refine (grown_any _ g 60 _ hd9 (by decide) (by decide)).mono ?_
    rintro e wA ⟨nds, fl, log, v, rfl, ⟨nv, fv, rfl, q1, q2⟩, hgood, hlog, hmany, hkA, -⟩
    have hb1A := hb19.trans (hkA.below hgw hs19)
    have hsA := hb1A.size
    obtain ⟨gd, cd, rfl, hgd, -⟩ := q1.ptr (by omega)
    obtain ⟨af, cf, rfl⟩ := q2.slice
    obtain ⟨W, hW⟩ : ∃ x, x = wA.alloc (.cells #[.slice (some ⟨gd, 0, none⟩) nds.length cd, .slice af fl.length cf] 33) := ⟨_, rfl⟩
    obtain ⟨gn, hgn0⟩ : ∃ x, x = wA.heap.size := ⟨_, rfl⟩
    have hN : Blk W gn 33 #[.slice (some ⟨gd, 0, none⟩) nds.length cd, .slice af fl.length cf] := by rw [hW, hgn0]; exact Blk.new _ _ _
    have hbW : Below wA.heap.size wA W := by rw [hW]; exact (Below.refl _ _).alloc (Nat.le_refl _) _
    have hb1W := hb1A.trans (hbW.mono hsA)
    have hq := q1.below hbW (Nat.le_refl _)
    have hn4 := hgood.four
    obtain ⟨m, hm⟩ : ∃ m : Nat, nds.length = m + 1 := ⟨nds.length - 1, by omega⟩
    obtain ⟨bp, hcp, hop⟩ := hq.bookAt (j := 0) (by omega)
    obtain ⟨bq, hcq, hoq⟩ := hq.bookAt (j := 1) (by omega)
    obtain ⟨br, hcr, hor⟩ := hq.bookAt (j := m) (by omega)
    have hcp : W.cell? ⟨gd, 1, none⟩ = some bp := hcp
    have hcq : W.cell? ⟨gd, 4, none⟩ = some bq := hcq
    obtain ⟨o, t, f, h3⟩ := three_of hlog.isLog (hgood.bookJ (j := 0) (by omega)).2.2 (hgood.bookJ (j := 1) (by omega)).2.2 (hgood.bookJ (j := m) (by omega)).2.2 (hlog.books 0 (by omega)) (hlog.books 1 (by omega)) (hlog.books m (by omega))
    generalize (ND nds 0).book = p at hop h3
    generalize (ND nds 1).book = q at hoq h3
    generalize (ND nds m).book = r at hor h3
    obtain ⟨ap, kp, rfl, hxp, -⟩ := hop.ents h3.all.1
    obtain ⟨aq, kq, rfl, hxq, -⟩ := hoq.ents h3.all.2.1
    obtain ⟨ar, kr, rfl, hxr, -⟩ := hor.ents h3.all.2.2.1
    rw [hm] at hN hW
    clear hgood hlog hop hoq hor hq q1 q2 hd9 hkA hbW hb1A hb19
    have hm3 : m ≤ 3 ∧ 1 ≤ m := by omega
    clear hmany
    have hwr : IntKind.i64.wrap (((m + 1 : Nat) : Int) - 1) = (m : Int) := by rw [IntKind.wrap_i64]; omega
    have j0 : (0 : Int) < ((m + 1 : Nat) : Int) := by omega
    have j1 : (1 : Int) < ((m + 1 : Nat) : Int) := by omega
    have j2 : (m : Int) < ((m + 1 : Nat) : Int) := by omega
    have j3 : 0 < m + 1 := by omega
    have j4 : 1 < m + 1 := by omega
    have j5 : m < m + 1 := by omega
    have d0 := hN.cell 0
    go_upto_region 10 with fail
    rw [← hW, ← hgn0]
    clear hW hgn0 hm
    go_upto_region 13 with fail
    clear d0 hcp hcq hcr hwr j0 j1 j2 j3 j4 j5 hN
    have KB : ∀ w', Below W.heap.size W w' → Ents W.heap.size w' ap p.length kp p ∧ Ents W.heap.size w' aq q.length kq q ∧ Ents W.heap.size w' ar r.length kr r := fun w' h => ⟨hxp.below h (Nat.le_refl _) (Nat.le_refl _), hxq.below h (Nat.le_refl _) (Nat.le_refl _), hxr.below h (Nat.le_refl _) (Nat.le_refl _)⟩
    have HB := Lib.hid KB; clear KB hxp hxq hxr
    have H3 := Lib.hid h3; clear h3
    have hsW := hb1W.size
    have hl := H3.out.len
    obtain ⟨ap3, aq3, ar3, ao3, at3, af3⟩ := H3.out.all
    obtain ⟨x1, x2, x3⟩ := HB.out W (Below.refl _ _)
    go_wp2_with fail
    refine (implJoined_any _ _ _ _ _ _ _ _ _ W x1 x2 (Nat.le_refl _) (by omega) (by omega)).mono fun e w2 he => ?_
    obtain ⟨a1, c1, rfl, hy1, hb2⟩ := maybe_some he H3.out.pq ao3
    clear he x1 x2 x3
    have hs2 := hb2.size
    obtain ⟨x1, x2, x3⟩ := HB.out w2 hb2
    go_wp2_with fail
    refine (implJoined_any _ _ _ _ _ _ _ _ _ w2 x2 x1 hs2 (by omega) (by omega)).mono fun e w3 he => ?_
    obtain ⟨a2, c2, rfl, hy2, hb3⟩ := maybe_some he H3.out.qp ao3
    clear he x1 x2 x3
    have hb13 := hb2.trans (hb3.mono hs2)
    have hs3 := hb13.size
    have hs23 := hb3.size
    replace hy1 := hy1.below hb3 (Nat.le_refl _) hs23
    obtain ⟨x1, x2, x3⟩ := HB.out w3 hb13
    go_wp2_with fail
    refine (implJoined_any _ _ _ _ _ _ _ _ _ w3 hy1 (x3.below (Below.refl w3.heap.size w3) hs3 hs3) (Nat.le_refl _) (by omega) (by omega)).mono fun e w4 he => ?_
    obtain ⟨a3, c3, rfl, hy3, hb4⟩ := maybe_some he H3.out.ot at3
    clear he x1 x2 x3
    have hb14 := hb13.trans (hb4.mono hs3)
    have hs4 := hb14.size
    have hs34 := hb4.size
    replace hy1 := hy1.below hb4 (Nat.le_refl _) hs34
    replace hy2 := hy2.below hb4 (Nat.le_refl _) hs34
    obtain ⟨x1, x2, x3⟩ := HB.out w4 hb14
    go_wp2_with fail
    refine (implJoined_any _ _ _ _ _ _ _ _ _ w4 x2 x3 hs4 (by omega) (by omega)).mono fun e w5 he => ?_
    obtain ⟨a4, c4, rfl, hy4, hb5⟩ := maybe_some he H3.out.qr af3
    clear he x1 x2 x3
    have hb15 := hb14.trans (hb5.mono hs4)
    have hs5 := hb15.size
    have hs45 := hb5.size
    replace hy1 := hy1.below hb5 (Nat.le_refl _) hs45
    replace hy2 := hy2.below hb5 (Nat.le_refl _) hs45
    replace hy3 := hy3.below hb5 (Nat.le_refl _) hs45
    obtain ⟨x1, x2, x3⟩ := HB.out w5 hb15
    go_wp2_with fail
    refine (implJoined_any _ _ _ _ _ _ _ _ _ w5 (x1.below (Below.refl w5.heap.size w5) hs5 hs5) hy4 (Nat.le_refl _) (by omega) (by omega)).mono fun e w6 he => ?_
    obtain ⟨a5, c5, rfl, hy5, hb6⟩ := maybe_some he H3.out.pf at3
    clear he x1 x2 x3
    have hb16 := hb15.trans (hb6.mono hs5)
    have hs6 := hb16.size
    have hs56 := hb6.size
    replace hy1 := hy1.below hb6 (Nat.le_refl _) hs56
    replace hy2 := hy2.below hb6 (Nat.le_refl _) hs56
    replace hy3 := hy3.below hb6 (Nat.le_refl _) hs56
    obtain ⟨x1, x2, x3⟩ := HB.out w6 hb16
    go_wp2_with fail
    refine (implJoined_any _ _ _ _ _ _ _ _ _ w6 x1 x1 hs6 (by omega) (by omega)).mono fun e w7 he => ?_
    obtain ⟨a6, c6, rfl, hy6, hb7⟩ := maybe_some he H3.out.pp ap3
    clear he x1 x2 x3 hy4
    have hb17 := hb16.trans (hb7.mono hs6)
    have hs7 := hb17.size
    have hs67 := hb7.size
    replace hy1 := hy1.below hb7 (Nat.le_refl _) hs67
    replace hy2 := hy2.below hb7 (Nat.le_refl _) hs67
    replace hy3 := hy3.below hb7 (Nat.le_refl _) hs67
    replace hy5 := hy5.below hb7 (Nat.le_refl _) hs67
    go_wp2_with fail
    refine (likeBook_any _ _ _ _ _ _ _ _ _ _ _ hy1 hy2).mono ?_
    rintro e w8 ⟨rfl, hd8⟩
    rw [decide_eq_true rfl]
    have hb8 := hd8.below w7.heap.size
    have hs8 := hb8.size
    replace hy1 := hy1.below hb8 (Nat.le_refl _) hs8
    replace hy3 := hy3.below hb8 (Nat.le_refl _) hs8
    replace hy5 := hy5.below hb8 (Nat.le_refl _) hs8
    replace hy6 := hy6.below hb8 (Nat.le_refl _) hs8
    clear hy2 hd8
    go_wp2_with fail
    refine (likeBook_any _ _ _ _ _ _ _ _ _ _ _ hy3 hy5).mono ?_
    rintro e w9 ⟨rfl, hd9⟩
    rw [decide_eq_true rfl]
    have hb9 := hd9.below w8.heap.size
    have hs9 := hb9.size
    replace hy1 := hy1.below hb9 (Nat.le_refl _) hs9
    replace hy3 := hy3.below hb9 (Nat.le_refl _) hs9
    replace hy6 := hy6.below hb9 (Nat.le_refl _) hs9
    have hb19 := (hb17.trans (hb8.mono hs7)).trans (hb9.mono (by omega))
    have hs19 := hb19.size
    clear hy5 hd9
    obtain ⟨x1, x2, x3⟩ := HB.out w9 hb19
    go_wp2_with fail
    refine (likeBook_any _ _ _ _ _ _ _ _ _ _ _ hy6 x1).mono ?_
    rintro e wB ⟨rfl, hdB⟩
    rw [decide_eq_true rfl]
    have hbB := hdB.below w9.heap.size
    have hsB := hbB.size
    replace hy1 := hy1.below hbB (Nat.le_refl _) hsB
    replace hy3 := hy3.below hbB (Nat.le_refl _) hsB
    have hb1B := hb19.trans (hbB.mono hs19)
    have hs1B := hb1B.size
    clear hy6 hdB x1 x2 x3
    obtain ⟨x1, x2, x3⟩ := HB.out wB hb1B
    have hc := implWithin_any _ _ _ _ _ _ _ _ _ wB (x1.below (Below.refl wB.heap.size wB) hs1B hs1B) hy1 (Nat.le_refl _) (by omega) (by omega)
    rw [H3.out.wp] at hc
    go_wp2_with fail
    refine hc.mono ?_
    rintro e wC ⟨rfl, hbC⟩
    have hsC := hbC.size
    have hb1C := hb1B.trans (hbC.mono hs1B)
    have hs1C := hb1C.size
    replace hy1 := hy1.below hbC (Nat.le_refl _) hsC
    replace hy3 := hy3.below hbC (Nat.le_refl _) hsC
    clear hc x1 x2 x3
    obtain ⟨x1, x2, x3⟩ := HB.out wC hb1C
    have hc := implWithin_any _ _ _ _ _ _ _ _ _ wC (x2.below (Below.refl wC.heap.size wC) hs1C hs1C) hy1 (Nat.le_refl _) (by omega) (by omega)
    rw [H3.out.wq] at hc
    go_wp2_with fail
    refine hc.mono ?_
    rintro e wD ⟨rfl, hbD⟩
    have hsD := hbD.size
    have hb1D := hb1C.trans (hbD.mono hs1C)
    have hs1D := hb1D.size
    replace hy3 := hy3.below hbD (Nat.le_refl _) hsD
    clear hc x1 x2 x3 hy1
    obtain ⟨x1, x2, x3⟩ := HB.out wD hb1D
    have hc := implWithin_any _ _ _ _ _ _ _ _ _ wD (x3.below (Below.refl wD.heap.size wD) hs1D hs1D) hy3 (Nat.le_refl _) (by omega) (by omega)
    rw [H3.out.wr] at hc
    go_wp2_with fail
    refine hc.mono ?_
    rintro e wE ⟨rfl, hbE⟩
    have hb1E := hb1D.trans (hbE.mono hs1D)
    go_wp2_with fail
    go_ret
    exact ⟨rfl, hb1W.trans (hb1E.mono hsW)⟩
end Go.Proofs.YtoniahfdjhhalaaGreat

namespace Go.Proofs.YtoniahfdjhhalaaGreat
open Go.ChangeShapes Go.WideShapes Go.ChangeAt Go.RowKit
theorem Tryz.own : ownKnob Tryz.prog.godebug = none := by kernel_rfl
theorem Tryz.laidOut : laidOutB Tryz.prog = true := by kernel_rfl

theorem Tryz.cells8 : Tryz.prog.cellsOf 5 = 1 := by kernel_rfl
theorem u8_of_wf {n : Int} (h : (Lit.int .u8 n).wf = true) : 0 ≤ n ∧ n ≤ 255 := by
  have h1 : IntKind.u8.min = 0 := rfl
  have h2 : IntKind.u8.max = 255 := rfl
  simp only [Lit.wf, Bool.and_eq_true, decide_eq_true_eq] at h
  omega
set_option maxRecDepth 100000 in
theorem open_bytes {H : Type} {enc : TypeId × Value → H} {W : World} {v : Value} {d : DataW H} {p : List MemPlace}
    (hv : Value.okWide Tryz.prog W .any 0 22 v) (h : DataW.Trod enc Tryz.prog W 0 (fun _ => true) true 22 v d p) (hlt : ∀ x ∈ p, x.block < W.heap.size) :
    ∃ ao n cap xs, v = .slice ao n cap ∧ Bytes W.heap.size W ao n cap xs := by
  obtain ⟨a0, len, cap, rfl⟩ := okWide_slice Tryz.underlying22 hv
  obtain ⟨fuel, hf⟩ := h
  rcases open_ints Tryz.underlying22 Tryz.underlying5 Tryz.cells8 hf with ⟨hcs, hx⟩ | ⟨a, len', cap', zs, hcs, _, hl, hm, hz, hx, hcell, hwz⟩
  · simp [Value.cells] at hcs
    obtain ⟨rfl, rfl, rfl⟩ := hcs
    exact ⟨none, 0, 0, [], rfl, rfl, Nat.le_refl _, by unfold maxLen; omega, fun j hj => by omega, fun x hx => by cases hx⟩
  · simp [Value.cells] at hcs
    obtain ⟨rfl, rfl, rfl⟩ := hcs
    simp only [Prod.mk.injEq] at hx
    obtain ⟨rfl, rfl⟩ := hx
    simp only [if_true] at hz
    refine ⟨some a, len, cap, zs.take len, rfl, by rw [List.length_take]; omega, hl, hm, fun j hj => ?_, fun x hx => u8_of_wf (hwz x (List.mem_of_mem_take hx))⟩
    obtain ⟨b, off, spot⟩ := a
    have hspot : spot = none := by simpa [Addr.add] using World.cell?_spot (hcell 0 (by omega))
    subst hspot
    have hbW : b < W.heap.size := hlt (.cell b off) (MemPlace.mem_row.2 ⟨0, by omega, by simp⟩)
    refine ⟨b, off, rfl, hbW, ?_⟩
    have := hcell j (by omega)
    rw [add_plain] at this
    rw [this]
    simp [List.getD, hj]
set_option maxRecDepth 100000 in
theorem fnJoins_lifted (os : Os) (started : os.Started) (H : Type) (enc : TypeId × Value → H) :
    ReturnsInHanded {} Tryz.checked os 3 .any (Rows.fnJoinsSpec.pre6 enc Tryz.prog Tryz.f3 Rows.fnJoinsRow.domain false) (Rows.fnJoinsSpec.post enc Tryz.prog Tryz.f3 false true false false) := by
  refine returnsInHanded_of_change (C := Tryz.checked) Tryz.own started (by kernel_rfl) Tryz.func3
    (ChangeSpec.witness6 (enc := enc) (C := Tryz.checked) false ⟨#[], #[.slice none 0 0], []⟩ 8 (by kernel_rfl) (by kernel_rfl) (by kernel_rfl) (by kernel_rfl)) ?_
  intro W base args ds gs before hval0 hW hcnd _
  have hval : ∀ (j : Nat) t v, Tryz.f3.params[j]? = some t → args[j]? = some v → Value.okWide Tryz.prog W .any base t v := hval0
  have hW' := hW
  obtain ⟨p, q, hA0, hV, rfl, hfz, hnd⟩ := hW
  have hA : DataW.TrodAll enc Tryz.prog W 0 (fun _ => true) true Tryz.f3.params.toList args.toList ds p := hA0
  rw [Tryz.params3] at hA hval
  obtain ⟨v0, d0, rfl, rfl, h0⟩ := trodAll_one hA
  obtain ⟨rfl, rfl⟩ := trodVars_none hV
  clear hA0 hval0 hA
  simp only [List.append_nil] at hW' hfz
  have hlt : ∀ x ∈ p, x.block < W.heap.size := fun x hx => by simpa using hW'.lt x hx
  obtain ⟨ao, n, cap, xs, rfl, hx⟩ := open_bytes (by exact hval 0 _ v0 rfl rfl) h0 hlt
  refine (fnJoins_any ao n cap xs W hx).mono fun e W' ⟨he, hb⟩ => ?_
  subst he
  exact ⟨_, rfl, _, _, _, _, _, [], hW', trodAll_mk1 (shut_bool Tryz.underlying4 _), trodAll_mk1 (Below.trod Tryz.laidOut (by kernel_rfl) (of_decide_eq_true (by kernel_rfl)) h0 hb hlt), rfl, hb.frame _, fun h => by cases h⟩
theorem fnJoins_holds : Rows.FnJoinsSaid :=
  OpenClaim.holds_of_wide 3 Tryz.f3 rfl rfl rfl rfl rfl rfl rfl ⟨rfl, rfl, rfl, rfl, rfl⟩ rfl rfl rfl rfl rfl (by kernel_rfl) Tryz.func3 (by kernel_rfl)
    (of_decide_eq_true (by kernel_rfl)) (by unfold Func.isWrapper; first | (rw [if_pos (by decide +kernel)]; kernel_rfl) | (rw [if_neg (by decide +kernel)]; exact ⟨rfl, rfl⟩))
    (fun os started H enc _ => fnJoins_lifted os started H enc)
end Go.Proofs.YtoniahfdjhhalaaGreat
