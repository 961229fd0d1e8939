/-
  impl.VecOf: the program's own.
-/
import Derived.Test.YtbpoojibbakpnaaVecOf
import Derived.Test.YtbpoojibbakpnaaImplBookOk
import Derived.Test.YtbpoojibbakpnaaVecIn
import Derived.BigRegion
namespace Go.Proofs.Ytbpoojibbakpnaa
open Go.RowKit

def vecC (es : List Ent) : Array Value := #[.int .i64 (mx es 0), .int .i64 (mx es 1), .int .i64 (mx es 2), .int .i64 (mx es 3)]
theorem vecC_at (es : List Ent) {j : Nat} (h : j < 4) : (vecC es)[j]? = some (.int .i64 (mx es j)) := by
  have h : j = 0 ∨ j = 1 ∨ j = 2 ∨ j = 3 := by omega
  rcases h with rfl | rfl | rfl | rfl <;> rfl
theorem vecC_snoc (es : List Ent) (e : Ent) {j : Nat} (hj : j < 4) (ho : e.o = j) : (vecC es).setIfInBounds j (.int .i64 (max (mx es j) e.d)) = vecC (es ++ [e]) := by
  have h : j = 0 ∨ j = 1 ∨ j = 2 ∨ j = 3 := by omega
  rcases h with rfl | rfl | rfl | rfl <;> simp [vecC, mx_snoc, mxF, ho]

set_option maxHeartbeats 2000000 in
set_option maxRecDepth 100000 in
theorem implVecOf_any (B : Nat) (ao : Option Addr) (n cap : Nat) (es : List Ent) (w : World) (hx : Ents B w ao n cap es) (hB : B ≤ w.heap.size) :
    Calls Try.prog 18 #[.slice ao n cap] w (NewInts (vecOf es) w) := by
  have hx0 := hx.hlen; have hx1 := hx.hcap; have hx2 := hx.hmax
  unfold maxLen at hx2
  have HX := Lib.hid hx0; clear hx0
  have h1 := implBookOk_any B ao n cap es w hx hB
  obtain ⟨res, hres⟩ : ∃ res, res = vecOf es := ⟨_, rfl⟩
  rw [← hres]
  have HRES := Lib.hid hres; clear hres
  generalize hbk : bookOk es = b at h1
  have HBK := Lib.hid hbk; clear hbk
  go_enter Try.func18, Try.ntmps18
  go_wp2_with fail
  refine h1.mono ?_
  rintro e w1 ⟨rfl, hb1⟩
  have hs1 := hb1.size
  clear h1
  rcases b with _ | _
  · go_wp2_with fail
    go_ret
    exact ⟨_, rfl, by rw [HRES.out, vecOf_no HBK.out]; exact own_nil _ _, hb1⟩
  · have hright := book_right HBK.out
    rw [HX.out] at hright
    have HR := Lib.hid hright; clear hright
    have hres : res = vec es := by rw [HRES.out, vecOf_yes HBK.out]
    have h64 : AllI64 res := by rw [HRES.out]; exact vecOf_i64 es
    have HRV := Lib.hid hres; have H64 := Lib.hid h64; clear hres h64
    have hk0 : Blk (w1.alloc (.cells #[.int .i64 0, .int .i64 0, .int .i64 0, .int .i64 0] 47)) w1.heap.size 47 (vecC (es.take 0)) := Blk.new _ _ _
    have hb2 := hb1.alloc hs1 (.cells #[.int .i64 0, .int .i64 0, .int .i64 0, .int .i64 0] 47)
    go_wp2_with fail
    generalize w1.alloc (.cells #[.int .i64 0, .int .i64 0, .int .i64 0, .int .i64 0] 47) = w2 at hk0 hb2 ⊢
    generalize w1.heap.size = g at hk0 hs1 ⊢
    go_loopw [5, 11] (fun _ si wr => ∃ i : Nat, i ≤ n ∧ si = .int .i64 i ∧ Blk wr g 47 (vecC (es.take i)) ∧ Below w.heap.size w wr) (fun _ si _ => n - (intOf si).toNat)
    case atStart => exact ⟨0, Nat.zero_le _, rfl, hk0, hb2⟩
    case round =>
      obtain ⟨i, hi, rfl, hblk, hbel⟩ := hrel
      have hszr := hbel.size
      have hglt := hblk.lt
      by_cases hlt : i < n
      · obtain ⟨b, off, rfl, hbB, hc⟩ := (hx.below hbel hB (Nat.le_refl _)).at i hlt
        obtain ⟨c0, c1, c2, c3⟩ := hc i hlt
        have hgood := Ent.ok_all (HR.out i hlt).1
        have hsn : ∀ j : Nat, j < 4 → (E es i).o = j → (vecC (es.take i)).setIfInBounds j (.int .i64 (max (mx (es.take i) j) (E es i).d)) = vecC (es.take (i + 1)) := fun j hj ho => by
          have hl := HX.out
          rw [List.take_succ_eq_append_getElem (by omega), ← E_get (by omega)]
          exact vecC_snoc _ _ hj ho
        clear hc
        obtain ⟨j, hj⟩ : ∃ j : Nat, (E es i).o = j := ⟨(E es i).o.toNat, by omega⟩
        rw [hj] at c0 hgood
        have hj4 : j < 4 := by omega
        have hsn2 := hsn j hj4 hj
        generalize (E es i).d = d at c3 hsn2
        generalize (E es i).s = s at c1
        generalize (E es i).a = a at c2
        clear hsn hgood hj
        have hbE := hbel.alloc hszr (.cells #[.int .i64 j, .int .i64 s, .int .i64 a, .int .i64 d] 58)
        have hkE : Blk (wr.alloc (.cells #[.int .i64 j, .int .i64 s, .int .i64 a, .int .i64 d] 58)) wr.heap.size 58 #[.int .i64 j, .int .i64 s, .int .i64 a, .int .i64 d] := Blk.new _ _ _
        have hkV := hblk.alloc (.cells #[.int .i64 j, .int .i64 s, .int .i64 a, .int .i64 d] 58)
        have i1 : (0 : Int) ≤ i := by omega
        have i2 : (i : Int) < n := by omega
        have j1 : (0 : Int) ≤ j := by omega
        have j2 : (j : Int) < 4 := by omega
        go_wp2_with fail
        generalize wr.alloc (.cells #[.int .i64 j, .int .i64 s, .int .i64 a, .int .i64 d] 58) = wE at hbE hkE hkV ⊢
        have hset := hkV.set_ j (.int .i64 (max (mx (es.take i) j) d))
        have q0 : wE.cell? ⟨g, j, none⟩ = some (.int .i64 (mx (es.take i) j)) := by rw [hkV.cell, vecC_at _ hj4]
        have f0 := hkV.frozen j
        have hbS := (hbE.setCell (p := ⟨g, j, none⟩) hs1 (.int .i64 (max (mx (es.take i) j) d))).drew
        have e0 := hkE.cell 0; have e3 := hkE.cell 3
        simp at e0 e3
        rw [hsn2] at hset
        generalize mx (es.take i) j = m at q0 hset hbS
        have e : max m d = if m < d then d else m := by split <;> omega
        rw [e] at hset hbS
        have HSET := Lib.hid hset; have HBS := Lib.hid hbS
        have hne : g ≠ wr.heap.size := by omega
        clear hset hbS hsn2 e hkE hkV hblk c0 c1 c2 c3
        go_region
        go_wp2
        go_roundw
        case rel => exact ⟨i + 1, by omega, by go_num, HSET.out, HBS.out⟩
        case measure => simp [intOf]; omega
      · have ei : i = n := by omega
        subst ei
        rw [List.take_of_length_le (by have := HX.out; omega)] at hblk
        have hres : res = [mx es 0, mx es 1, mx es 2, mx es 3] := HRV.out
        have h64 := H64.out
        rw [hres] at h64
        unfold vecC at hblk
        have hL := fun wA => vecList_any (mx es 0) (mx es 1) (mx es 2) (mx es 3) wA h64
        clear h64
        generalize mx es 0 = x0 at hblk hL hres
        generalize mx es 1 = x1 at hblk hL hres
        generalize mx es 2 = x2 at hblk hL hres
        generalize mx es 3 = x3 at hblk hL hres
        subst hres
        have p0 := hblk.cell 0; have p1 := hblk.cell 1; have p2 := hblk.cell 2; have p3 := hblk.cell 3
        simp at p0 p1 p2 p3
        clear hblk
        go_wp2_with fail
        refine (hL _).mono ?_
        rintro e w4 ⟨v, rfl, hown, hb4⟩
        go_wp2_with fail
        go_ret
        exact ⟨_, rfl, hown.mono hszr, hbel.trans (hb4.mono hszr)⟩

end Go.Proofs.Ytbpoojibbakpnaa
