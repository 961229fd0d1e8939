/-
  impl.allOf: how much of one kind there is in a book; impl.MadeIn, impl.SpentIn.
-/
import Derived.Test.YtedmcambijcmnaaMathHeld
import Derived.Test.YtedmcambijcmnaaImplBookOk
namespace Go.Proofs.Ytedmcambijcmnaa
open Go.RowKit

def kindStep (k acc : Int) (e : Ent) : Int := if kindOf e.o e.s = k then acc + e.a else acc
def kindTo (es : List Ent) (k : Int) : Int := es.foldl (kindStep k) 0
theorem kindTo_snoc (es : List Ent) (e : Ent) (k : Int) : kindTo (es ++ [e]) k = kindStep k (kindTo es k) e := by simp [kindTo, List.foldl_append]
theorem kindTo_take {es : List Ent} {i : Nat} (h : i < es.length) (k : Int) : kindTo (es.take (i + 1)) k = kindStep k (kindTo (es.take i) k) (E es i) := by
  rw [List.take_succ_eq_append_getElem h, ← E_get h, kindTo_snoc]
def ksum : List Ent → Int → Int
  | [], _ => 0
  | e :: r, k => (if kindOf e.o e.s = k then e.a else 0) + ksum r k
theorem kindTo_ksum (es : List Ent) (k : Int) : kindTo es k = ksum es k := by
  have : ∀ acc, es.foldl (kindStep k) acc = acc + ksum es k := by
    induction es with
    | nil => intro acc; simp [ksum]
    | cons e r ih =>
      intro acc
      rw [List.foldl_cons, ih, ksum]
      unfold kindStep
      split <;> omega
  unfold kindTo
  rw [this]
  omega
theorem kind_made {e : Ent} (h : e.ok = true) : kindOf e.o e.s = 0 ↔ e.s = e.o := by
  have hh := Ent.ok_all h
  unfold kindOf
  split
  · omega
  · split <;> omega
theorem kind_spent (e : Ent) : kindOf e.o e.s = 2 ↔ e.s = 4 := by
  unfold kindOf
  split
  · omega
  · split <;> omega
theorem ksum_made {es : List Ent} (hall : ∀ x ∈ es, x.ok = true) (hp : es.Pairwise (fun a b => a.key < b.key)) : ksum es 0 = madeTo es 4 ∧ ksum es 2 = spentTo es 4 := by
  induction es with
  | nil => exact ⟨rfl, rfl⟩
  | cons x r ih =>
    have hx := hall x (List.mem_cons_self ..)
    have hr := fun y hy => hall y (List.mem_cons_of_mem _ hy)
    rw [List.pairwise_cons] at hp
    have hn : ∀ y ∈ r, ¬ (y.o = x.o ∧ y.s = x.s) := fun y hy h => by
      have h1 := hp.1 y hy
      have h2 := Ent.key_ok hx; have h3 := Ent.key_ok (hr y hy)
      omega
    obtain ⟨h1, h2⟩ := ih hr hp.2
    rw [made_cons hx hn, spent_cons hx hn, ksum, ksum, h1, h2]
    simp only [kind_made hx, kind_spent x]
    exact ⟨trivial, trivial⟩
theorem kindTo_made {es : List Ent} (h : bookOk es = true) : madeIn es = kindTo es 0 := by
  rw [madeIn_yes h, kindTo_ksum, (ksum_made (book_all6 h) (book_sorted h)).1]
theorem kindTo_spent {es : List Ent} (h : bookOk es = true) : spentIn es = kindTo es 2 := by
  rw [spentIn_yes h, kindTo_ksum, (ksum_made (book_all6 h) (book_sorted h)).2]

set_option maxHeartbeats 2000000 in
set_option maxRecDepth 100000 in
theorem allOf_any (B : Nat) (ao : Option Addr) (n cap : Nat) (es : List Ent) (k : Int) (w : World) (hx : Ents B w ao n cap es) (hB : B ≤ w.heap.size) :
    Calls Try.prog 29 #[.slice ao n cap, .int .i64 k] w (Says (.int .i64 (if bookOk es = true then kindTo es k else -1)) w) := by
  have h1 := implBookOk_any B ao n cap es w hx hB
  have hr : bookOk es = true → Right es es.length ∧ es.length ≤ 20 := fun h => ⟨book_right h, book_len h⟩
  have hx0 := hx.hlen; have hx1 := hx.hcap; have hx2 := hx.hmax
  unfold maxLen at hx2
  rw [hx0] at hr
  generalize bookOk es = b1 at h1 hr
  have HX := Lib.hid hx0; have HR := Lib.hid hr; clear hx0 hr
  rcases b1 with _ | _
  · go_enter Try.func29, Try.ntmps29
    go_wp2_with fail
    refine h1.mono ?_
    rintro e w1 ⟨rfl, hb1⟩
    clear HR
    go_wp2_with fail
    go_ret
    exact ⟨rfl, hb1⟩
  · rw [if_pos rfl]
    obtain ⟨hr, h20⟩ := HR.out rfl
    have HRR := Lib.hid hr; clear hr HR
    obtain ⟨res, hres⟩ : ∃ res, res = kindTo es k := ⟨_, rfl⟩
    rw [← hres]
    have HV := Lib.hid hres; clear hres
    go_enter Try.func29, Try.ntmps29
    go_wp2_with fail
    refine h1.mono ?_
    rintro e w1 ⟨rfl, hb1⟩
    have hs1 := hb1.size
    go_wp2
    go_loopw [5, 13] (fun sn si wr => ∃ (i : Nat) (m : Int), i ≤ n ∧ si = .int .i64 i ∧ sn = .int .i64 m ∧ Hid (kindTo (es.take i) k = m) ∧ Small m i ∧ Below w.heap.size w wr) (fun _ si _ => n - (intOf si).toNat)
    case atStart => exact ⟨0, 0, Nat.zero_le _, rfl, rfl, Lib.hid rfl, ⟨by omega, by omega⟩, hb1⟩
    case round =>
      obtain ⟨i, m, hi, rfl, rfl, hm, hsm, hbel⟩ := hrel
      have hxr := hx.below hbel hB hB
      by_cases hlt : i < n
      · obtain ⟨b, off, rfl, hbB, hc⟩ := hxr.at i hlt
        obtain ⟨c0, c1, c2, c3⟩ := hc i hlt
        have hgood := Ent.ok_all (HRR.out i hlt).1
        have hstep := kindTo_take (es := es) (i := i) (by have := HX.out; omega) k
        rw [hm.out] at hstep
        clear hc
        generalize hxe : E es i = x at c0 c1 c2 c3 hgood hstep
        clear hxe
        unfold Small at hsm
        obtain ⟨hsm1, hsm2⟩ := hsm
        have hsz := hbel.size
        obtain ⟨W, hW⟩ : ∃ W, W = wr.alloc (.cells #[.int .i64 x.o, .int .i64 x.s, .int .i64 x.a, .int .i64 x.d] 50) := ⟨_, rfl⟩
        have hk0 : Blk W wr.heap.size 50 #[.int .i64 x.o, .int .i64 x.s, .int .i64 x.a, .int .i64 x.d] := by rw [hW]; exact Blk.new _ _ _
        have hWb : Below w.heap.size w W := by rw [hW]; exact hbel.alloc hsz _
        have hkd := kindOf_any x.o x.s x.a x.d W
        have i1 : (0 : Int) ≤ i := by omega
        have i2 : (i : Int) < n := by omega
        have i3 : (i : Int) ≤ cap := by omega
        have a1 := hgood.2.2.2.2.1; have a2 := hgood.2.2.2.2.2.1
        clear hgood
        unfold kindStep at hstep
        have e0 := hk0.cell 0; have e1 := hk0.cell 1; have e2 := hk0.cell 2; have e3 := hk0.cell 3
        go_wp2_with fail
        rw [← hW]
        have hkl := hk0.lt
        clear hW
        go_wp2_with fail
        refine hkd.mono ?_
        rintro e w2 ⟨rfl, hb2⟩
        have hk2 := hk0.below hb2 hkl
        have f2 := hk2.cell 2
        have hb3 := Lib.hid (hWb.trans (hb2.mono hWb.size))
        clear hkd hk0 e0 e1 e2 e3 hb2
        generalize kindOf x.o x.s = kk at hstep ⊢
        by_cases hs : kk = k
        · have hs' : (kk == k) = true := by simpa using hs
          rw [if_pos hs] at hstep
          have HS := Lib.hid hstep; clear hstep hs
          have e1 : IntKind.i64.wrap (m + x.a) = m + x.a := by rw [IntKind.wrap_i64]; omega
          go_wp2
          go_roundw
          case rel => exact ⟨i + 1, m + x.a, by omega, by go_num, by go_num, HS, ⟨by push_cast; omega, by push_cast; omega⟩, hb3.out⟩
          case measure => simp [intOf]; omega
        · have hs' : (kk == k) = false := by simpa using hs
          rw [if_neg hs] at hstep
          have HS := Lib.hid hstep; clear hstep hs
          go_wp2
          go_roundw
          case rel => exact ⟨i + 1, m, by omega, by go_num, by go_num, HS, ⟨by push_cast; omega, by push_cast; omega⟩, hb3.out⟩
          case measure => simp [intOf]; omega
      · have ei : i = n := by omega
        subst ei
        have hv : res = m := by rw [HV.out, ← hm.out, List.take_of_length_le (by have := HX.out; omega)]
        have HVV := Lib.hid hv; clear hv HV
        go_wp2
        go_ret
        exact ⟨ret_int HVV.out.symm, hbel⟩

set_option maxHeartbeats 1000000 in
theorem implMadeIn_any (B : Nat) (ao : Option Addr) (n cap : Nat) (es : List Ent) (w : World) (hx : Ents B w ao n cap es) (hB : B ≤ w.heap.size) :
    Calls Try.prog 13 #[.slice ao n cap] w (Says (.int .i64 (madeIn es)) w) := by
  have e : madeIn es = if bookOk es = true then kindTo es 0 else -1 := by
    split
    · rename_i h; exact kindTo_made h
    · rename_i h; exact madeIn_no (by simpa using h)
  have h1 := allOf_any B ao n cap es 0 w hx hB
  rw [← e] at h1
  generalize madeIn es = v at h1 ⊢
  clear e
  go_enter Try.func13, Try.ntmps13
  go_wp2_with fail
  refine h1.mono ?_
  rintro e w1 ⟨rfl, hb1⟩
  go_wp2_with fail
  go_ret
  exact ⟨rfl, hb1⟩

set_option maxHeartbeats 1000000 in
theorem implSpentIn_any (B : Nat) (ao : Option Addr) (n cap : Nat) (es : List Ent) (w : World) (hx : Ents B w ao n cap es) (hB : B ≤ w.heap.size) :
    Calls Try.prog 15 #[.slice ao n cap] w (Says (.int .i64 (spentIn es)) w) := by
  have e : spentIn es = if bookOk es = true then kindTo es 2 else -1 := by
    split
    · rename_i h; exact kindTo_spent h
    · rename_i h; exact spentIn_no (by simpa using h)
  have h1 := allOf_any B ao n cap es 2 w hx hB
  rw [← e] at h1
  generalize spentIn es = v at h1 ⊢
  clear e
  go_enter Try.func15, Try.ntmps15
  go_wp2_with fail
  refine h1.mono ?_
  rintro e w1 ⟨rfl, hb1⟩
  go_wp2_with fail
  go_ret
  exact ⟨rfl, hb1⟩

end Go.Proofs.Ytedmcambijcmnaa
