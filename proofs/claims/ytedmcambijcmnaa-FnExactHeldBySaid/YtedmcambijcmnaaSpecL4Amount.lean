/-
  spec.l4Amount.
-/
import Derived.Test.YtedmcambijcmnaaSpecBookOk
namespace Go.Proofs.Ytedmcambijcmnaa
open Go.RowKit

def amount : List Ent → Int → Int → Int
  | [], _, _ => 0
  | e :: r, o, s => if e.o = o ∧ e.s = s then e.a else amount r o s
theorem dropE {es : List Ent} {k : Nat} (h : k < es.length) : es.drop k = E es k :: es.drop (k + 1) := by
  rw [List.drop_eq_getElem_cons h, E_get h]
theorem amount_hit {es : List Ent} {k : Nat} {o s : Int} (h : k < es.length) (ho : (E es k).o = o) (hs : (E es k).s = s) : amount (es.drop k) o s = (E es k).a := by
  rw [dropE h, amount, if_pos ⟨ho, hs⟩]
theorem amount_miss {es : List Ent} {k : Nat} {o s : Int} (h : k < es.length) (hn : ¬ ((E es k).o = o ∧ (E es k).s = s)) : amount (es.drop k) o s = amount (es.drop (k + 1)) o s := by
  rw [dropE h, amount, if_neg hn]

set_option maxHeartbeats 1000000 in
theorem l4Amount_any (B : Nat) (ao : Option Addr) (n cap : Nat) (es : List Ent) (o s : Int) (w : World) (hx : Ents B w ao n cap es) :
    Calls Try.prog 30 #[.slice ao n cap, .int .i64 o, .int .i64 s] w fun e w' => e = .returned (.int .i64 (amount es o s)) ∧ Drew w w' := by
  have hx0 := hx.hlen; have hx1 := hx.hcap; have hx2 := hx.hmax
  unfold maxLen at hx2
  have HX := Lib.hid hx0; clear hx0
  generalize hb : amount es o s = v
  have HB := Lib.hid hb; clear hb
  go_enter Try.func30, Try.ntmps30
  go_wp2
  go_loopw [7] (fun si wr => ∃ i : Nat, i ≤ n ∧ si = .int .i64 i ∧ Hid (amount (es.drop i) o s = v) ∧ Drew w wr) (fun si _ => n - (intOf si).toNat)
  case atStart => exact ⟨0, Nat.zero_le _, rfl, Lib.hid HB.out, Drew.refl _⟩
  case round =>
    obtain ⟨i, hi, rfl, hr, nq, rfl⟩ := hrel
    by_cases hlt : i < n
    · obtain ⟨b, off, rfl, hbB, hc⟩ := hx.at i hlt
      obtain ⟨c0, c1, c2, -⟩ := hc i hlt
      have hhit : (E es i).o = o → (E es i).s = s → (E es i).a = v := fun h1 h2 => by rw [← hr.out, amount_hit (by have := HX.out; omega) h1 h2]
      have hmiss : ¬ ((E es i).o = o ∧ (E es i).s = s) → amount (es.drop (i + 1)) o s = v := fun h => by rw [← hr.out, amount_miss (by have := HX.out; omega) h]
      clear hc
      generalize (E es i).o = xo at c0 hhit hmiss
      generalize (E es i).s = xs at c1 hhit hmiss
      generalize (E es i).a = xa at c2 hhit
      have HH := Lib.hid hhit; have HM := Lib.hid hmiss; clear hhit hmiss
      have c0' : (w.drewN nq).cell? ⟨b, off + i * 4, none⟩ = some (.int .i64 xo) := c0
      have c1' : (w.drewN nq).cell? ⟨b, off + i * 4 + 1, none⟩ = some (.int .i64 xs) := c1
      have c2' : (w.drewN nq).cell? ⟨b, off + i * 4 + 2, none⟩ = some (.int .i64 xa) := c2
      have i1 : (0 : Int) ≤ i := by omega
      have i2 : (i : Int) < n := by omega
      by_cases ho : xo = o
      · have ho' : (xo == o) = true := by simpa using ho
        by_cases hs : xs = s
        · have hs' : (xs == s) = true := by simpa using hs
          have hv := Lib.hid (HH.out ho hs)
          clear ho hs HM HH
          go_wp2
          go_ret
          exact ⟨ret_int hv.out, Drew.one _ _⟩
        · have hs' : (xs == s) = false := by simpa using hs
          have hv := Lib.hid (HM.out (fun h => hs h.2))
          clear ho hs HM HH
          go_wp2
          go_roundw
          case rel => exact ⟨i + 1, by omega, by go_num, hv, Drew.one _ _⟩
          case measure => simp [intOf]; omega
      · have ho' : (xo == o) = false := by simpa using ho
        have hv := Lib.hid (HM.out (fun h => ho h.1))
        clear ho HM HH
        go_wp2
        go_roundw
        case rel => exact ⟨i + 1, by omega, by go_num, hv, Drew.one _ _⟩
        case measure => simp [intOf]; omega
    · have ei : i = n := by omega
      subst ei
      have hv : v = 0 := by rw [← hr.out, List.drop_of_length_le (by have := HX.out; omega)]; rfl
      subst hv
      go_wp2
      go_ret
      exact ⟨rfl, Drew.one _ _⟩

end Go.Proofs.Ytedmcambijcmnaa
