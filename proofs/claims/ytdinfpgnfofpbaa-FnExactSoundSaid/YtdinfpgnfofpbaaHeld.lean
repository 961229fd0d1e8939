/-
  Rights (chapter 6): spec.l6Held, HeldBy, MadeIn, SpentIn.
-/
import Derived.Test.YtdinfpgnfofpbaaSpecBookOk
namespace Go.Proofs.Ytdinfpgnfofpbaa
open Go.RowKit

def heldStep (node acc : Int) (e : Ent) : Int := if e.s = node then acc + e.a else if e.o = node then acc - e.a else acc
def held (es : List Ent) (node : Int) : Int := es.foldl (heldStep node) 0
theorem held_snoc (es : List Ent) (e : Ent) (node : Int) : held (es ++ [e]) node = heldStep node (held es node) e := by simp [held, List.foldl_append]
theorem held_take {es : List Ent} {k : Nat} (h : k < es.length) (node : Int) : held (es.take (k + 1)) node = heldStep node (held (es.take k) node) (E es k) := by
  rw [List.take_succ_eq_append_getElem h, ← E_get h, held_snoc]

/-- Within a round the sum stays small. -/
def Small (acc : Int) (k : Nat) : Prop := -(1000000 * (k : Int)) ≤ acc ∧ acc ≤ 1000000 * (k : Int)
theorem small_step {node acc : Int} {e : Ent} {k : Nat} (h : Small acc k) (he : 1 ≤ e.a ∧ e.a ≤ 1000000) : Small (heldStep node acc e) (k + 1) := by
  unfold Small heldStep at *
  split
  · push_cast; omega
  · split <;> (push_cast; omega)

set_option maxHeartbeats 2000000 in
set_option maxRecDepth 100000 in
theorem l6Held_any (B : Nat) (ao : Option Addr) (n cap : Nat) (es : List Ent) (node : Int) (w : World) (hx : Ents B w ao n cap es) (hB : B ≤ w.heap.size) (hok : bookOk es = true) :
    Calls Try.prog 10 #[.slice ao n cap, .int .i64 node] w (Says (.int .i64 (held es node)) w) := by
  have hx0 := hx.hlen; have hx1 := hx.hcap; have hx2 := hx.hmax
  unfold maxLen at hx2
  have hr := book_right hok
  have h20 := book_len hok
  rw [hx0] at hr h20
  have HX := Lib.hid hx0; have HR := Lib.hid hr; clear hx0 hr
  go_enter Try.func10, Try.ntmps10
  go_wp2
  go_loopw [5, 6] (fun sn si wr => ∃ (i : Nat) (m : Int), i ≤ n ∧ si = .int .i64 i ∧ sn = .int .i64 m ∧ Hid (held (es.take i) node = m) ∧ Small m i ∧ Below w.heap.size w wr) (fun _ si _ => n - (intOf si).toNat)
  case atStart => exact ⟨0, 0, Nat.zero_le _, rfl, rfl, Lib.hid rfl, ⟨by omega, by omega⟩, Below.refl _ _⟩
  case round =>
    obtain ⟨i, m, hi, rfl, rfl, hm, hsm, hbel⟩ := hrel
    have hxr := hx.below hbel hB hB
    by_cases hlt : i < n
    · obtain ⟨b, off, rfl, hbB, hc⟩ := hxr.at i hlt
      obtain ⟨c0, c1, c2, c3⟩ := hc i hlt
      have hgood := Ent.ok_all (HR.out i hlt).1
      have hstep := held_take (es := es) (k := i) (by have := HX.out; omega) node
      rw [hm.out] at hstep
      have hsm' := small_step (node := node) hsm ⟨hgood.2.2.2.2.1, hgood.2.2.2.2.2.1⟩
      clear hc
      generalize hxe : E es i = x at c0 c1 c2 c3 hgood hstep hsm'
      clear hxe
      unfold Small at hsm hsm'
      obtain ⟨hsm1, hsm2⟩ := hsm
      have hsz := hbel.size
      have hb1 := Lib.hid (hbel.alloc hsz (.cells #[.int .i64 x.o, .int .i64 x.s, .int .i64 x.a, .int .i64 x.d] 31))
      have i1 : (0 : Int) ≤ i := by omega
      have i2 : (i : Int) < n := by omega
      have a1 := hgood.2.2.2.2.1; have a2 := hgood.2.2.2.2.2.1
      clear hgood
      unfold heldStep at hstep hsm'
      by_cases hs : x.s = node
      · have hs' : (x.s == node) = true := by simpa using hs
        rw [if_pos hs] at hstep hsm'
        have HS := Lib.hid hstep; have HM := Lib.hid hsm'; clear hstep hsm' hs
        have e1 : IntKind.i64.wrap (m + x.a) = m + x.a := by rw [IntKind.wrap_i64]; omega
        by_cases ho : x.o = node
        · have ho' : (x.o == node) = true := by simpa using ho
          have ho2 : (x.o != node) = false := by simpa using ho
          clear ho
          go_wp2
          go_roundw
          case rel => exact ⟨i + 1, m + x.a, by omega, by go_num, by go_num, HS, HM.out, hb1.out⟩
          case measure => simp [intOf]; omega
        · have ho' : (x.o == node) = false := by simpa using ho
          have ho2 : (x.o != node) = true := by simpa using ho
          clear ho
          go_wp2
          go_roundw
          case rel => exact ⟨i + 1, m + x.a, by omega, by go_num, by go_num, HS, HM.out, hb1.out⟩
          case measure => simp [intOf]; omega
      · have hs' : (x.s == node) = false := by simpa using hs
        rw [if_neg hs] at hstep hsm'
        clear hs
        by_cases ho : x.o = node
        · have ho' : (x.o == node) = true := by simpa using ho
          have ho2 : (x.o != node) = false := by simpa using ho
          rw [if_pos ho] at hstep hsm'
          have HS := Lib.hid hstep; have HM := Lib.hid hsm'; clear hstep hsm' ho
          have e1 : IntKind.i64.wrap (m - x.a) = m - x.a := by rw [IntKind.wrap_i64]; omega
          go_wp2
          go_roundw
          case rel => exact ⟨i + 1, m - x.a, by omega, by go_num, by go_num, HS, HM.out, hb1.out⟩
          case measure => simp [intOf]; omega
        · have ho' : (x.o == node) = false := by simpa using ho
          have ho2 : (x.o != node) = true := by simpa using ho
          rw [if_neg ho] at hstep hsm'
          have HS := Lib.hid hstep; have HM := Lib.hid hsm'; clear hstep hsm' ho
          go_wp2
          go_roundw
          case rel => exact ⟨i + 1, m, by omega, by go_num, by go_num, HS, HM.out, hb1.out⟩
          case measure => simp [intOf]; omega
    · have ei : i = n := by omega
      subst ei
      have hv : held es node = m := by rw [← hm.out, List.take_of_length_le (by have := HX.out; omega)]
      have HV := Lib.hid hv; clear hv
      go_wp2
      go_ret
      exact ⟨ret_int HV.out.symm, hbel⟩

def heldBy (es : List Ent) (node : Int) : Int := if bookOk es = true ∧ 0 ≤ node ∧ node ≤ 3 then held es node else 0
theorem heldBy_no {es : List Ent} {node : Int} (h : bookOk es = false ∨ inB node 0 3 = false) : heldBy es node = 0 := by
  rw [heldBy, if_neg]
  rintro ⟨h1, h2, h3⟩
  simp [inB] at h
  rcases h with h | h
  · rw [h1] at h; cases h
  · omega
theorem heldBy_yes {es : List Ent} {node : Int} (h1 : bookOk es = true) (h2 : inB node 0 3 = true) : heldBy es node = held es node := by
  simp [inB] at h2
  rw [heldBy, if_pos ⟨h1, h2.1, h2.2⟩]

end Go.Proofs.Ytdinfpgnfofpbaa
