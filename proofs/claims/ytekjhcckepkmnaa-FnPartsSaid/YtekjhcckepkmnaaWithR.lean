/-
  spec.With.
-/
import Derived.Test.YtekjhcckepkmnaaSpecWith
namespace Go.Proofs.Ytekjhcckepkmnaa
open Go.RowKit

def withR (es : List Ent) (x : Ent) : Option (List Ent) := if bookOk es = true ∧ x.ok = true ∧ bookOk (putE es x) = true then some (putE es x) else none
theorem withR_no {es : List Ent} {x : Ent} (h : bookOk es = false ∨ x.ok = false ∨ bookOk (putE es x) = false) : withR es x = none := by
  rw [withR, if_neg]
  rintro ⟨h1, h2, h3⟩
  rcases h with h | h | h
  · rw [h1] at h; cases h
  · rw [h2] at h; cases h
  · rw [h3] at h; cases h
theorem withR_yes {es : List Ent} {x : Ent} (h1 : bookOk es = true) (h2 : x.ok = true) (h3 : bookOk (putE es x) = true) : withR es x = some (putE es x) := by
  rw [withR, if_pos ⟨h1, h2, h3⟩]
set_option maxHeartbeats 1000000 in
set_option maxRecDepth 100000 in
theorem specWith_any (B : Nat) (ao : Option Addr) (n cap : Nat) (es : List Ent) (x : Ent) (w : World) (hx : Ents B w ao n cap es) (hz : ao = none → cap = 0) (hB : B ≤ w.heap.size) (hxw : x.wf) :
    Calls Try.prog 50 #[.slice ao n cap, .agg #[.int .i64 x.o, .int .i64 x.s, .int .i64 x.a, .int .i64 x.d]] w (MaybeEs (withR es x) w) := by
  have hbx : Below w.heap.size w (w.alloc (.cells #[.int .i64 x.o, .int .i64 x.s, .int .i64 x.a, .int .i64 x.d] 33)) := (Below.refl _ _).alloc (Nat.le_refl _) _
  have hblk : Blk (w.alloc (.cells #[.int .i64 x.o, .int .i64 x.s, .int .i64 x.a, .int .i64 x.d] 33)) w.heap.size 33 #[.int .i64 x.o, .int .i64 x.s, .int .i64 x.a, .int .i64 x.d] := Blk.new _ _ _
  have hlt0 := hblk.lt
  have hx0 := hx.below hbx hB hB
  have hsz0 := hbx.size
  have h1 := specBookOk_any w.heap.size ao n cap es _ hx0 hsz0
  have h2 := fun w => specEntryOk_any x.o x.s x.a x.d w
  have hkE : entryOk x.o x.s x.a x.d = x.ok := rfl
  rw [hkE] at h2
  have hno : bookOk es = false ∨ x.ok = false ∨ bookOk (putE es x) = false → withR es x = none := withR_no
  have hyes : bookOk es = true → x.ok = true → bookOk (putE es x) = true → withR es x = some (putE es x) := withR_yes
  have hlen : bookOk es = true → n ≤ 20 := fun h => by have := book_len h; have := hx.hlen; omega
  have hpw := put_wf hx.wf hxw
  have hpl := put_len es x
  clear hkE
  generalize withR es x = r at hno hyes
  generalize bookOk es = b1 at h1 hno hyes hlen
  generalize x.ok = b2 at h2 hno hyes
  have HN := Lib.hid hno; have HY := Lib.hid hyes; have HL := Lib.hid hlen; clear hno hyes hlen
  generalize hwb : w.alloc (.cells #[.int .i64 x.o, .int .i64 x.s, .int .i64 x.a, .int .i64 x.d] 33) = wb at hbx hblk hlt0 hx0 hsz0 h1
  go_enter Try.func50, Try.ntmps50
  go_wp2_with fail
  refine h1.mono ?_
  rintro e w1 ⟨rfl, hb1⟩
  have hB1 := hbx.trans (hb1.mono hsz0)
  rcases b1 with _ | _
  · go_wp2_with fail
    go_ret2
    exact maybe_none (HN.out (.inl (by first | rfl | trivial))) hB1
  · have hn20 : n ≤ 20 := HL.out (by first | rfl | trivial)
    have hblk1 := hblk.below hb1 hlt0
    have p0 := hblk1.cell 0; have p1 := hblk1.cell 1; have p2 := hblk1.cell 2; have p3 := hblk1.cell 3
    go_wp2_with fail
    refine (h2 _).mono ?_
    rintro e w2 ⟨rfl, hb2⟩
    have hB2 := hB1.trans (hb2.mono hB1.size)
    rcases b2 with _ | _
    · go_wp2_with fail
      go_ret2
      exact maybe_none (HN.out (.inr (.inl (by first | rfl | trivial)))) hB2
    · have hblk2 := hblk1.below hb2 hblk1.lt
      clear p0 p1 p2 p3
      have p0 := hblk2.cell 0; have p1 := hblk2.cell 1; have p2 := hblk2.cell 2; have p3 := hblk2.cell 3
      have hx2 := hx.below hB2 hB hB
      have hs2 := hB2.size
      go_wp2_with fail
      refine (l4With_any w.heap.size ao n cap es x _ hx2 hz hs2 (by omega)).mono ?_
      rintro e w3 ⟨v3, rfl, hown3, hb3⟩
      have hB3 := hB2.trans (hb3.mono hs2)
      have hown3k := hown3
      obtain ⟨a3, c3, rfl, hi3, -⟩ := hown3.ents hpw
      have h3 := specBookOk_any _ _ _ _ _ _ hi3 (Nat.le_refl _)
      clear p0 p1 p2 p3 hown3 hx2 hblk2 hblk1 hblk
      have hno3 : bookOk (putE es x) = false → r = none := fun h => HN.out (.inr (.inr h))
      have hyes3 : bookOk (putE es x) = true → r = some (putE es x) := fun h => HY.out (by first | rfl | trivial) (by first | rfl | trivial) h
      clear HN HY HL
      generalize bookOk (putE es x) = b3 at h3 hno3 hyes3
      have HN3 := Lib.hid hno3; have HY3 := Lib.hid hyes3; clear hno3 hyes3
      go_wp2_with fail
      refine h3.mono ?_
      rintro e w4 ⟨rfl, hb4⟩
      have hB4 := hB3.trans (hb4.mono hB3.size)
      rcases b3 with _ | _
      · go_wp2_with fail
        go_ret2
        exact maybe_none (HN3.out (by first | rfl | trivial)) hB4
      · have hr : r = some (putE es x) := HY3.out (by first | rfl | trivial)
        have HR := Lib.hid hr; clear hr
        go_wp2_with fail
        go_ret2
        rw [HR.out]
        exact ⟨_, rfl, (hown3k.below hb4 (Nat.le_refl _)).mono hs2, hB4⟩

end Go.Proofs.Ytekjhcckepkmnaa
