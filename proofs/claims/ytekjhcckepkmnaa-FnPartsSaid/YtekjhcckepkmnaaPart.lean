/-
  spec.l10Part.
-/
import Derived.Test.YtekjhcckepkmnaaMaybe
import Derived.BigQuiet
namespace Go.Proofs.Ytekjhcckepkmnaa
open Go.RowKit

/-- The entries whose Dot is above what is known of their Owner. -/
def news (known : List Int) (e : Ent) : Bool := decide (known.getD e.o.toNat 0 < e.d)
def partE (es : List Ent) (known : List Int) : List Ent := es.filter (news known)
theorem part_yes {es : List Ent} {known : List Int} {k : Nat} (h : k < es.length) (hn : news known (E es k) = true) : partE (es.take (k + 1)) known = partE (es.take k) known ++ [E es k] := by
  unfold partE
  rw [takeE h, List.filter_append]
  simp [hn]
theorem part_no {es : List Ent} {known : List Int} {k : Nat} (h : k < es.length) (hn : news known (E es k) = false) : partE (es.take (k + 1)) known = partE (es.take k) known := by
  unfold partE
  rw [takeE h, List.filter_append]
  simp [hn]
theorem part_len (es : List Ent) (known : List Int) : (partE es known).length ≤ es.length := List.length_filter_le _ _
theorem part_wf {es : List Ent} (known : List Int) (h : AllE es) : AllE (partE es known) := fun e he => h e (List.mem_filter.1 he).1

set_option maxHeartbeats 2000000 in
set_option maxRecDepth 100000 in
theorem l10Part_any (B : Nat) (ao : Option Addr) (n cap : Nat) (es : List Ent) (bo : Option Addr) (m dap : Nat) (ks : List Int) (w : World) (hx : Ents B w ao n cap es) (hy : Ints B w bo m dap ks) (hB : B ≤ w.heap.size) (hok : bookOk es = true) (hm : m = 4) :
    Calls Try.prog 29 #[.slice ao n cap, .slice bo m dap] w (NewEs (partE es ks) w) := by
  have hx0 := hx.hlen; have hx1 := hx.hcap; have hx2 := hx.hmax
  have hy1 := hy.hcap; have hy2 := hy.hmax
  unfold maxLen at hx2 hy2
  subst hm
  have hl20 : n ≤ 20 := by have := book_len hok; omega
  have HX := Lib.hid hx0; clear hx0
  have hr := book_right hok
  have HR := Lib.hid hr; clear hr
  have hb0 : Below w.heap.size w (w.alloc (.cells #[] 33)) := (Below.refl _ _).alloc (Nat.le_refl _) _
  have ho0 := ownE_empty w
  go_enter Try.func29, Try.ntmps29
  go_wp2
  go_loopw [5, 6] (fun s5 s6 wr => ∃ k : Nat, k ≤ n ∧ s6 = .int .i64 k ∧ OwnE w.heap.size wr s5 (partE (es.take k) ks) ∧ Below w.heap.size w wr) (fun _ s6 _ => n - (intOf s6).toNat)
  case atStart => exact ⟨0, by omega, rfl, ho0, hb0⟩
  case round =>
    obtain ⟨k, hk, rfl, hown, hbel⟩ := hrel
    have hsz := hbel.size
    by_cases hlt : k < n
    · have hkl : k < es.length := by have := HX.out; omega
      have hxr := hx.below hbel hB (Nat.le_refl B)
      have hyr := hy.below hbel hB (Nat.le_refl B)
      obtain ⟨b, off, rfl, hbB, hc⟩ := hxr.at k hlt
      have g1 := hc k hlt
      clear hc
      have hgood := Ent.ok_all (HR.out k hkl).1
      have hyes := part_yes (known := ks) hkl
      have hno := part_no (known := ks) hkl
      have hql : (partE (es.take k) ks).length ≤ 1099511627776 := by have := part_len (es.take k) ks; rw [List.length_take] at this; omega
      generalize E es k = x at g1 hgood hyes hno
      obtain ⟨j, hj⟩ : ∃ j : Nat, x.o = j := ⟨x.o.toNat, by omega⟩
      have hj4 : j < 4 := by omega
      have hnw : news ks x = decide (ks.getD j 0 < x.d) := by unfold news; rw [hj, Int.toNat_natCast]
      obtain ⟨b2, off2, rfl, hb2B, hcy⟩ := hyr.at j hj4
      have q0 := hcy j hj4
      rw [hnw] at hyes hno
      obtain ⟨c0, c1, c2, c3⟩ := g1
      have c0' := c0
      rw [hj] at c0
      generalize ks.getD j 0 = z at q0 hyes hno
      have HJ := Lib.hid hj
      clear hcy hnw hgood hj
      have i1 : (0 : Int) ≤ k := by omega
      have i2 : (k : Int) < n := by omega
      have j1 : (0 : Int) ≤ j := by omega
      have j2 : (j : Int) < 4 := by omega
      by_cases hz : z < x.d
      · have d1 : decide (z < x.d) = true := decide_eq_true hz
        have hnext := Lib.hid (hyes d1)
        clear hyes hno
        go_wp2_with fail
        go_quiet (fail)
        have c0q := c0'
        clear c0
        go_wp2_with (at_builtin; refine appendE_one x rfl _ _ rfl w.heap.size _ _ rfl rfl (hown.below (below_drewN (Below.refl _ _) _) (Nat.le_refl _)) hsz hql ?_; intro v' w' hown' hb')
        go_roundw
        case rel => exact ⟨k + 1, by omega, by go_num, by rw [hnext.out]; exact hown', (below_drewN hbel _).trans hb'⟩
        case measure => simp [intOf]; omega
      · have d1 : decide (z < x.d) = false := decide_eq_false hz
        have hnext := Lib.hid (hno d1)
        clear hyes hno
        go_wp2_with fail
        go_quiet (fail)
        go_wp2_with fail
        go_roundw
        case rel => exact ⟨k + 1, by omega, by go_num, by rw [hnext.out]; exact hown.below (below_drewN (Below.refl _ _) _) (Nat.le_refl _), below_drewN hbel _⟩
        case measure => simp [intOf]; omega
    · have ek : k = n := by omega
      subst ek
      rw [List.take_of_length_le (by have := HX.out; omega)] at hown
      go_wp2
      go_ret
      exact ⟨_, rfl, hown, hbel⟩

end Go.Proofs.Ytekjhcckepkmnaa
