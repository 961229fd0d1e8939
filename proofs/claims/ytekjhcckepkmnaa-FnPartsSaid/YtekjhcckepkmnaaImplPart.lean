/-
  impl.PartFor: the closure that asks what is new, picked, PartFor.
-/
import Derived.Test.YtekjhcckepkmnaaPart
import Derived.Test.YtekjhcckepkmnaaVecFrom
import Derived.Test.YtekjhcckepkmnaaImplBookOk
import Derived.Deep.DeepCutAuto
namespace Go.Proofs.Ytekjhcckepkmnaa
open Go.RowKit

set_option maxHeartbeats 1000000 in
set_option maxRecDepth 100000 in
theorem isNew_any (g : Nat) (x : Ent) (a b c d : Int) (w : World) (hk : Blk w g 51 #[.int .i64 a, .int .i64 b, .int .i64 c, .int .i64 d]) (h0 : 0 ≤ x.o) (h4 : x.o < 4) :
    Calls Try.prog 27 #[.agg #[.int .i64 x.o, .int .i64 x.s, .int .i64 x.a, .int .i64 x.d], .pointer (some ⟨g, 0, none⟩)] w (Says (.bool (news [a, b, c, d] x)) w) := by
  have hlt := hk.lt
  obtain ⟨j, hj⟩ : ∃ j : Nat, x.o = j := ⟨x.o.toNat, by omega⟩
  have hj4 : j < 4 := by omega
  have hn : news [a, b, c, d] x = decide (([a, b, c, d] : List Int).getD j 0 < x.d) := by unfold news; rw [hj, Int.toNat_natCast]
  rw [hn]
  have q : ∀ W, Blk W g 51 #[.int .i64 a, .int .i64 b, .int .i64 c, .int .i64 d] → W.cell? ⟨g, j, none⟩ = some (.int .i64 (([a, b, c, d] : List Int).getD j 0)) := by
    intro W h
    rw [h.cell j]
    have h : j = 0 ∨ j = 1 ∨ j = 2 ∨ j = 3 := by omega
    rcases h with rfl | rfl | rfl | rfl <;> rfl
  generalize ([a, b, c, d] : List Int).getD j 0 = z at q hn ⊢
  clear hn
  have i1 : (0 : Int) ≤ j := by omega
  have i2 : (j : Int) < 4 := by omega
  rw [hj]
  have q' := q _ (hk.alloc (.cells #[.int .i64 (j : Int), .int .i64 x.s, .int .i64 x.a, .int .i64 x.d] 33))
  have hb0 : Below w.heap.size w (w.alloc (.cells #[.int .i64 (j : Int), .int .i64 x.s, .int .i64 x.a, .int .i64 x.d] 33)) := (Below.refl _ _).alloc (Nat.le_refl _) _
  clear hj h0 h4 hk q
  go_enter Try.func27, Try.ntmps27
  go_wp2_with fail
  go_quiet (fail)
  go_wp2_with fail
  go_ret
  exact ⟨rfl, below_drewN hb0 _⟩

set_option maxHeartbeats 2000000 in
set_option maxRecDepth 100000 in
theorem picked_any (B g : Nat) (ao : Option Addr) (n cap : Nat) (es : List Ent) (a b c d : Int) (w : World) (hx : Ents B w ao n cap es) (hB : B ≤ w.heap.size) (hok : bookOk es = true)
    (hk : Blk w g 51 #[.int .i64 a, .int .i64 b, .int .i64 c, .int .i64 d]) :
    Calls Try.prog 28 #[.slice ao n cap, .func (.func 27) #[] #[.pointer (some ⟨g, 0, none⟩)]] w (NewEs (partE es [a, b, c, d]) w) := by
  have hx0 := hx.hlen; have hx1 := hx.hcap; have hx2 := hx.hmax
  unfold maxLen at hx2
  have hl20 : n ≤ 20 := by have := book_len hok; omega
  have hr := book_right hok
  have hkl := hk.lt
  have HX := Lib.hid hx0; have HR := Lib.hid hr; clear hx0 hr
  go_enter Try.func28, Try.ntmps28
  go_wp2
  go_loopw [5, 10] (fun s5 s10 wr => ∃ k : Nat, k ≤ n ∧ s10 = .int .i64 k ∧ OwnE w.heap.size wr s5 (partE (es.take k) [a, b, c, d]) ∧ Below w.heap.size w wr) (fun _ s10 _ => n - (intOf s10).toNat)
  case atStart => exact ⟨0, by omega, rfl, ownE_nil _ _, Below.refl _ _⟩
  case round =>
    obtain ⟨k, hk2, rfl, hown, hbel⟩ := hrel
    have hsz := hbel.size
    by_cases hlt : k < n
    · have hkl2 : k < es.length := by have := HX.out; omega
      have hxr := hx.below hbel hB (Nat.le_refl B)
      obtain ⟨b1, off, rfl, hbB, hc⟩ := hxr.at k hlt
      obtain ⟨c0, c1, c2, c3⟩ := hc k hlt
      clear hc
      have hgood := Ent.ok_all (HR.out k hkl2).1
      have hyes := part_yes (known := [a, b, c, d]) hkl2
      have hno := part_no (known := [a, b, c, d]) hkl2
      have hql : (partE (es.take k) [a, b, c, d]).length ≤ 1099511627776 := by have := part_len (es.take k) [a, b, c, d]; rw [List.length_take] at this; omega
      generalize E es k = x at c0 c1 c2 c3 hgood hyes hno
      obtain ⟨W, hW⟩ : ∃ W, W = wr.alloc (.cells #[.int .i64 x.o, .int .i64 x.s, .int .i64 x.a, .int .i64 x.d] 33) := ⟨_, rfl⟩
      have hWb : Below wr.heap.size wr W := by rw [hW]; exact (Below.refl _ _).alloc (Nat.le_refl _) _
      have hk0 : Blk W wr.heap.size 33 #[.int .i64 x.o, .int .i64 x.s, .int .i64 x.a, .int .i64 x.d] := by rw [hW]; exact Blk.new _ _ _
      have hkW : Blk W g 51 #[.int .i64 a, .int .i64 b, .int .i64 c, .int .i64 d] := (hk.below hbel hkl).below hWb (by omega)
      have hN := isNew_any g x a b c d W hkW (by omega) (by omega)
      have hgo := hgood
      clear hgood
      generalize news [a, b, c, d] x = nw at hN hyes hno
      have i1 : (0 : Int) ≤ k := by omega
      have i2 : (k : Int) < n := by omega
      have i3 : (k : Int) ≤ cap := by omega
      have e0 := hk0.cell 0; have e1 := hk0.cell 1; have e2 := hk0.cell 2; have e3 := hk0.cell 3
      have HGO := Lib.hid hgo; clear hgo
      go_wp2_with fail
      rw [← hW]
      have hkl0 := hk0.lt
      clear hW
      go_wp2_with fail
      refine hN.mono ?_
      rintro e w2 ⟨rfl, hb2⟩
      have hb3 := (hbel.trans (hWb.mono hsz)).trans (hb2.mono (by have := hWb.size; omega))
      have hb4 : Below wr.heap.size wr w2 := hWb.trans (hb2.mono hWb.size)
      have hk3 := hk0.below hb2 hkl0
      have hown2 := hown.below hb4 (Nat.le_refl _)
      have hs3 := hb3.size
      clear e0 e1 e2 e3 hk0 hN hkW
      have e0 := hk3.cell 0; have e1 := hk3.cell 1; have e2 := hk3.cell 2; have e3 := hk3.cell 3
      rcases nw with _ | _
      · have hnext := Lib.hid (hno rfl)
        clear hyes hno
        go_wp2_with fail
        go_roundw
        case rel => exact ⟨k + 1, by omega, by go_num, by rw [hnext.out]; exact hown2, hb3⟩
        case measure => simp [intOf]; omega
      · have hnext := Lib.hid (hyes rfl)
        clear hyes hno
        go_wp2_with (at_builtin; refine appendE_one x rfl _ _ rfl w.heap.size _ _ rfl rfl hown2 hs3 hql ?_; intro v' w' hown' hb')
        go_roundw
        case rel => exact ⟨k + 1, by omega, by go_num, by rw [hnext.out]; exact hown', hb3.trans hb'⟩
        case measure => simp [intOf]; omega
    · have ek : k = n := by omega
      subst ek
      rw [List.take_of_length_le (by have := HX.out; omega)] at hown
      go_wp2
      go_ret
      exact ⟨_, rfl, hown, hbel⟩

/-- What PartFor answers. -/
def partFor (es : List Ent) (known : List Int) : List Ent := if bookOk es = true ∧ vecOk known = true then partE es known else []
theorem partFor_yes {es : List Ent} {known : List Int} (h1 : bookOk es = true) (h2 : vecOk known = true) : partFor es known = partE es known := if_pos ⟨h1, h2⟩
theorem partFor_no1 {es : List Ent} {known : List Int} (h : bookOk es = false) : partFor es known = [] := if_neg (fun ⟨h1, _⟩ => by rw [h] at h1; cases h1)
theorem partFor_no2 {es : List Ent} {known : List Int} (h : vecOk known = false) : partFor es known = [] := if_neg (fun ⟨_, h1⟩ => by rw [h] at h1; cases h1)
theorem partFor_len (es : List Ent) (known : List Int) : (partFor es known).length ≤ es.length := by
  unfold partFor
  split
  · exact part_len _ _
  · simp
theorem partFor_wf {es : List Ent} (known : List Int) (h : AllE es) : AllE (partFor es known) := by
  unfold partFor
  split
  · exact part_wf _ h
  · intro e he; cases he

set_option maxHeartbeats 1000000 in
set_option maxRecDepth 100000 in
theorem implPartFor_any (B C : Nat) (ao bo : Option Addr) (n cap m dap : Nat) (es : List Ent) (ks : List Int) (w : World) (hx : Ents B w ao n cap es) (hy : Ints C w bo m dap ks) (hB : B ≤ w.heap.size) (hC : C ≤ w.heap.size) :
    Calls Try.prog 7 #[.slice ao n cap, .slice bo m dap] w (NewEs (partFor es ks) w) := by
  have hmf : ∀ (fn : Fn) (first cap : Array Value) (w : World), (Instr.makeFunc fn first cap).run Try.prog w = .ok (.func fn first cap) w := fun _ _ _ _ => rfl
  have h1 := vectorFrom_any C bo m dap ks w hy hC
  have hyes := @partFor_yes es ks
  have hno1 := @partFor_no1 es ks
  have hno2 := @partFor_no2 es ks
  generalize partFor es ks = res at hyes hno1 hno2 ⊢
  unfold FromR at h1
  generalize hv1 : vecOk ks = v1 at h1 hyes hno2
  have HV1 := Lib.hid hv1; clear hv1
  go_enter Try.func7, Try.ntmps7
  go_wp2_with fail
  refine h1.mono ?_
  rintro e w1 ⟨a, b, c, d, rfl, hl1, hb1⟩
  have HL1 := Lib.hid hl1; clear hl1 h1
  have hbA := hb1.alloc hb1.size (.cells #[.int .i64 a, .int .i64 b, .int .i64 c, .int .i64 d] 51)
  have hkA : Blk (w1.alloc (.cells #[.int .i64 a, .int .i64 b, .int .i64 c, .int .i64 d] 51)) w1.heap.size 51 #[.int .i64 a, .int .i64 b, .int .i64 c, .int .i64 d] := Blk.new _ _ _
  have hs1 := hb1.size
  rcases v1 with _ | _
  · have hn := Lib.hid (hno2 (by first | rfl | trivial))
    clear hyes hno1 hno2 hkA
    go_wp2_with fail
    go_ret
    exact ⟨_, rfl, by rw [hn.out]; exact ownE_nil _ _, hbA⟩
  · go_upto_region 2 with fail
    generalize w1.alloc (.cells #[.int .i64 a, .int .i64 b, .int .i64 c, .int .i64 d] 51) = wA at hbA hkA ⊢
    have hsA := hbA.size
    have hlA := hkA.lt
    have h2 := implBookOk_any B ao n cap es wA (hx.below hbA hB (Nat.le_refl _)) (by omega)
    generalize hv2 : bookOk es = v2 at h2 hyes hno1
    have HV2 := Lib.hid hv2; clear hv2
    go_wp2_with fail
    refine h2.mono ?_
    rintro e w2 ⟨rfl, hb2⟩
    have hb3 := hbA.trans (hb2.mono hsA)
    have hs2 := hb2.size
    rcases v2 with _ | _
    · have hn := Lib.hid (hno1 (by first | rfl | trivial))
      clear hyes hno1 hno2 hkA
      go_wp2_with fail
      go_ret
      exact ⟨_, rfl, by rw [hn.out]; exact ownE_nil _ _, hb3⟩
    · have hn := hyes (by first | rfl | trivial) (by first | rfl | trivial)
      rw [HL1.out (by first | rfl | trivial)] at hn
      have HN := Lib.hid hn
      clear hyes hno1 hno2 hn
      have hkB := hkA.below hb2 hlA
      have hP := picked_any B w1.heap.size ao n cap es a b c d w2 (hx.below hb3 hB (Nat.le_refl _)) (by omega) HV2.out hkB
      go_wp2_with fail
      refine hP.mono ?_
      rintro e w3 ⟨v, rfl, hown, hb4⟩
      go_wp2_with fail
      go_ret
      exact ⟨_, rfl, by rw [HN.out]; exact hown.mono hb3.size, hb3.trans (hb4.mono hb3.size)⟩

end Go.Proofs.Ytekjhcckepkmnaa
