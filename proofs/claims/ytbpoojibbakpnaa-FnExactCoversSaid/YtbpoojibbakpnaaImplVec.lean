/-
  impl.VecOk, Later, Covers: the program's own.
-/
import Derived.Test.YtbpoojibbakpnaaVecIn
namespace Go.Proofs.Ytbpoojibbakpnaa
open Go.RowKit

set_option maxHeartbeats 1000000 in
set_option maxRecDepth 100000 in
theorem implVecOk_any (B : Nat) (ao : Option Addr) (n cap : Nat) (xs : List Int) (w : World) (hx : Ints B w ao n cap xs) (hB : B ≤ w.heap.size) :
    Calls Try.prog 20 #[.slice ao n cap] w (Says (.bool (vecOk xs)) w) := by
  have h1 := vectorFrom_any B ao n cap xs w hx hB
  unfold FromR at h1
  generalize vecOk xs = v at h1 ⊢
  go_enter Try.func20, Try.ntmps20
  go_wp2_with fail
  refine h1.mono ?_
  rintro e w1 ⟨a, b, c, d, rfl, -, hb1⟩
  go_wp2_with fail
  go_ret
  exact ⟨rfl, hb1.alloc hb1.size _⟩

theorem covers4 {a b c d p q r s : Int} (h1 : vecOk [a, b, c, d] = true) (h2 : vecOk [p, q, r, s] = true) : covers [a, b, c, d] [p, q, r, s] = decide (p ≤ a ∧ q ≤ b ∧ r ≤ c ∧ s ≤ d) := by
  rw [Bool.eq_iff_iff, covers_iff, decide_eq_true_iff]
  constructor
  · rintro ⟨-, -, h⟩
    exact ⟨h 0 (by omega), h 1 (by omega), h 2 (by omega), h 3 (by omega)⟩
  · rintro ⟨h0, h1', h2', h3⟩
    refine ⟨h1, h2, fun j hj => ?_⟩
    have h : j = 0 ∨ j = 1 ∨ j = 2 ∨ j = 3 := by omega
    rcases h with rfl | rfl | rfl | rfl
    · exact h0
    · exact h1'
    · exact h2'
    · exact h3
theorem later4 {a b c d p q r s : Int} (h1 : vecOk [a, b, c, d] = true) (h2 : vecOk [p, q, r, s] = true) : later [a, b, c, d] [p, q, r, s] = [max a p, max b q, max c r, max d s] := by rw [later_yes h1 h2]; rfl
theorem max4_i64 {a b c d p q r s : Int} (h1 : AllI64 [a, b, c, d]) (h2 : AllI64 [p, q, r, s]) : AllI64 [max a p, max b q, max c r, max d s] := by
  have m : ∀ x y : Int, I64 x → I64 y → I64 (max x y) := fun x y hx hy => by unfold I64 at *; omega
  intro x hx
  simp only [List.mem_cons, List.not_mem_nil, or_false] at hx
  rcases hx with rfl | rfl | rfl | rfl <;> exact m _ _ (h1 _ (by simp)) (h2 _ (by simp))

set_option maxHeartbeats 1000000 in
set_option maxRecDepth 100000 in
theorem implCovers_any (B C : Nat) (ao bo : Option Addr) (n cap m dap : Nat) (xs ys : List Int) (w : World) (hx : Ints B w ao n cap xs) (hy : Ints C w bo m dap ys) (hB : B ≤ w.heap.size) (hC : C ≤ w.heap.size) :
    Calls Try.prog 16 #[.slice ao n cap, .slice bo m dap] w (Says (.bool (covers xs ys)) w) := by
  obtain ⟨res, hres⟩ : ∃ res, res = covers xs ys := ⟨_, rfl⟩
  rw [← hres]
  have HRES := Lib.hid hres; clear hres
  have h1 := vectorFrom_any B ao n cap xs w hx hB
  unfold FromR at h1
  generalize hv1 : vecOk xs = v1 at h1
  have HV1 := Lib.hid hv1; clear hv1
  go_enter Try.func16, Try.ntmps16
  go_wp2_with fail
  refine h1.mono ?_
  rintro e w1 ⟨a, b, c, d, rfl, hl1, hb1⟩
  have HL1 := Lib.hid hl1; clear hl1 h1
  have hbA := hb1.alloc hb1.size (.cells #[.int .i64 a, .int .i64 b, .int .i64 c, .int .i64 d] 47)
  have hkA : Blk (w1.alloc (.cells #[.int .i64 a, .int .i64 b, .int .i64 c, .int .i64 d] 47)) w1.heap.size 47 #[.int .i64 a, .int .i64 b, .int .i64 c, .int .i64 d] := Blk.new _ _ _
  have hs1 := hb1.size
  go_wp2_with fail
  generalize w1.alloc (.cells #[.int .i64 a, .int .i64 b, .int .i64 c, .int .i64 d] 47) = wA at hbA hkA ⊢
  have hsA := hbA.size
  have hlA := hkA.lt
  have h2 := vectorFrom_any C bo m dap ys wA (hy.below hbA hC (Nat.le_refl _)) (by omega)
  unfold FromR at h2
  generalize hv2 : vecOk ys = v2 at h2
  have HV2 := Lib.hid hv2; clear hv2
  refine h2.mono ?_
  rintro e w2 ⟨p, q, r, s, rfl, hl2, hb2⟩
  have HL2 := Lib.hid hl2; clear hl2 h2
  have hbB := (hbA.trans (hb2.mono hsA)).alloc (by have := hb2.size; omega) (.cells #[.int .i64 p, .int .i64 q, .int .i64 r, .int .i64 s] 47)
  have hkB := (hkA.below hb2 hlA).alloc (.cells #[.int .i64 p, .int .i64 q, .int .i64 r, .int .i64 s] 47)
  have hkN : Blk (w2.alloc (.cells #[.int .i64 p, .int .i64 q, .int .i64 r, .int .i64 s] 47)) w2.heap.size 47 #[.int .i64 p, .int .i64 q, .int .i64 r, .int .i64 s] := Blk.new _ _ _
  clear hkA
  rcases v1 with _ | _
  · have hc := covers_no (ys := ys) (.inl HV1.out)
    rw [← HRES.out] at hc
    have HC := Lib.hid hc
    clear hc hkB hkN
    go_wp2_with fail
    go_ret
    exact ⟨ret_bool HC.out.symm, hbB⟩
  · rcases v2 with _ | _
    · have hc := covers_no (xs := xs) (.inr HV2.out)
      rw [← HRES.out] at hc
      have HC := Lib.hid hc
      clear hc hkB hkN
      go_wp2_with fail
      go_ret
      exact ⟨ret_bool HC.out.symm, hbB⟩
    · have hc : covers xs ys = decide (p ≤ a ∧ q ≤ b ∧ r ≤ c ∧ s ≤ d) := by
        have e1 := HL1.out rfl
        have e2 := HL2.out rfl
        have g1 := HV1.out
        have g2 := HV2.out
        rw [e1] at g1
        rw [e2] at g2
        rw [e1, e2]
        exact covers4 g1 g2
      rw [← HRES.out] at hc
      have hC4 := fun wA => vecCovers_any a b c d p q r s wA
      rw [← hc] at hC4
      clear hc
      have p0 := hkB.cell 0; have p1 := hkB.cell 1; have p2 := hkB.cell 2; have p3 := hkB.cell 3
      have q0 := hkN.cell 0; have q1 := hkN.cell 1; have q2 := hkN.cell 2; have q3 := hkN.cell 3
      simp at p0 p1 p2 p3
      have hsB := hbB.size
      clear hkB hkN q0 q1 q2 q3
      go_wp2_with fail
      refine (hC4 _).mono ?_
      rintro e w3 ⟨rfl, hb3⟩
      go_wp2_with fail
      go_ret
      exact ⟨rfl, hbB.trans (hb3.mono hsB)⟩

set_option maxHeartbeats 1000000 in
set_option maxRecDepth 100000 in
theorem implLater_any (B C : Nat) (ao bo : Option Addr) (n cap m dap : Nat) (xs ys : List Int) (w : World) (hx : Ints B w ao n cap xs) (hy : Ints C w bo m dap ys) (hB : B ≤ w.heap.size) (hC : C ≤ w.heap.size) :
    Calls Try.prog 10 #[.slice ao n cap, .slice bo m dap] w (NewInts (later xs ys) w) := by
  obtain ⟨res, hres⟩ : ∃ res, res = later xs ys := ⟨_, rfl⟩
  rw [← hres]
  have HRES := Lib.hid hres; clear hres
  have h1 := vectorFrom_any B ao n cap xs w hx hB
  unfold FromR at h1
  generalize hv1 : vecOk xs = v1 at h1
  have HV1 := Lib.hid hv1; clear hv1
  go_enter Try.func10, Try.ntmps10
  go_wp2_with fail
  refine h1.mono ?_
  rintro e w1 ⟨a, b, c, d, rfl, hl1, hb1⟩
  have HL1 := Lib.hid hl1; clear hl1 h1
  have hbA := hb1.alloc hb1.size (.cells #[.int .i64 a, .int .i64 b, .int .i64 c, .int .i64 d] 47)
  have hkA : Blk (w1.alloc (.cells #[.int .i64 a, .int .i64 b, .int .i64 c, .int .i64 d] 47)) w1.heap.size 47 #[.int .i64 a, .int .i64 b, .int .i64 c, .int .i64 d] := Blk.new _ _ _
  have hs1 := hb1.size
  go_wp2_with fail
  generalize w1.alloc (.cells #[.int .i64 a, .int .i64 b, .int .i64 c, .int .i64 d] 47) = wA at hbA hkA ⊢
  have hsA := hbA.size
  have hlA := hkA.lt
  have h2 := vectorFrom_any C bo m dap ys wA (hy.below hbA hC (Nat.le_refl _)) (by omega)
  unfold FromR at h2
  generalize hv2 : vecOk ys = v2 at h2
  have HV2 := Lib.hid hv2; clear hv2
  refine h2.mono ?_
  rintro e w2 ⟨p, q, r, s, rfl, hl2, hb2⟩
  have HL2 := Lib.hid hl2; clear hl2 h2
  have hbB := (hbA.trans (hb2.mono hsA)).alloc (by have := hb2.size; omega) (.cells #[.int .i64 p, .int .i64 q, .int .i64 r, .int .i64 s] 47)
  have hkB := (hkA.below hb2 hlA).alloc (.cells #[.int .i64 p, .int .i64 q, .int .i64 r, .int .i64 s] 47)
  clear hkA
  rcases v1 with _ | _
  · have hc := later_no (ys := ys) (.inl HV1.out)
    rw [← HRES.out] at hc
    have HC := Lib.hid hc
    clear hc hkB
    go_wp2_with fail
    go_ret
    exact ⟨_, rfl, by rw [HC.out]; exact own_nil _ _, hbB⟩
  · rcases v2 with _ | _
    · have hc := later_no (xs := xs) (.inr HV2.out)
      rw [← HRES.out] at hc
      have HC := Lib.hid hc
      clear hc hkB
      go_wp2_with fail
      go_ret
      exact ⟨_, rfl, by rw [HC.out]; exact own_nil _ _, hbB⟩
    · have hc : later xs ys = [max a p, max b q, max c r, max d s] := by
        have e1 := HL1.out rfl
        have e2 := HL2.out rfl
        have g1 := HV1.out
        have g2 := HV2.out
        rw [e1] at g1
        rw [e2] at g2
        rw [e1, e2]
        exact later4 g1 g2
      have h64 : AllI64 [max a p, max b q, max c r, max d s] := max4_i64 (by have := hx.wf; rwa [HL1.out rfl] at this) (by have := hy.wf; rwa [HL2.out rfl] at this)
      rw [← HRES.out] at hc
      have hL4 := fun wA => vecLater_any a b c d p q r s wA
      have hLL := fun wA => vecList_any (max a p) (max b q) (max c r) (max d s) wA h64
      clear h64
      generalize max a p = xa at hL4 hLL hc
      generalize max b q = xb at hL4 hLL hc
      generalize max c r = xc at hL4 hLL hc
      generalize max d s = xd at hL4 hLL hc
      subst hc
      have p0 := hkB.cell 0; have p1 := hkB.cell 1; have p2 := hkB.cell 2; have p3 := hkB.cell 3
      simp at p0 p1 p2 p3
      have hsB := hbB.size
      clear hkB
      go_wp2_with fail
      refine (hL4 _).mono ?_
      rintro e w3 ⟨rfl, hb3⟩
      have hbC := hbB.trans (hb3.mono hsB)
      have hsC := hbC.size
      go_wp2_with fail
      refine (hLL _).mono ?_
      rintro e w4 ⟨v, rfl, hown, hb4⟩
      go_wp2_with fail
      go_ret
      exact ⟨_, rfl, hown.mono hsC, hbC.trans (hb4.mono hsC)⟩

end Go.Proofs.Ytbpoojibbakpnaa
