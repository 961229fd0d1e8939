/-
  impl.With.
-/
import Derived.Test.YtekkjfhmabefoaaKeyedWith
import Derived.Test.YtekkjfhmabefoaaWithR
namespace Go.Proofs.Ytekkjfhmabefoaa
open Go.RowKit

theorem maybe_nil {o : Option (List Ent)} {w w1 : World} (h : o = none) (hb : Below w.heap.size w w1) : MaybeEs o w (.returned (.tuple #[.slice none 0 0, .bool false])) w1 := by
  subst h
  exact ⟨_, rfl, ownE_nil _ _, hb⟩

set_option maxHeartbeats 1000000 in
set_option maxRecDepth 100000 in
theorem implWith_any (B : Nat) (ao : Option Addr) (n cap : Nat) (es : List Ent) (x : Ent) (w : World) (hx : Ents B w ao n cap es) (hz : ao = none → cap = 0) (hB : B ≤ w.heap.size) (hxw : x.wf) :
    Calls Try.prog 9 #[.slice ao n cap, .agg #[.int .i64 x.o, .int .i64 x.s, .int .i64 x.a, .int .i64 x.d]] w (MaybeEs (withR es x) w) := by
  have hbx : Below w.heap.size w (w.alloc (.cells #[.int .i64 x.o, .int .i64 x.s, .int .i64 x.a, .int .i64 x.d] 26)) := (Below.refl _ _).alloc (Nat.le_refl _) _
  have hblk : Blk (w.alloc (.cells #[.int .i64 x.o, .int .i64 x.s, .int .i64 x.a, .int .i64 x.d] 26)) w.heap.size 26 #[.int .i64 x.o, .int .i64 x.s, .int .i64 x.a, .int .i64 x.d] := Blk.new _ _ _
  have hlt0 := hblk.lt
  have h2 := fun w => implEntryOk_any x.o x.s x.a x.d w
  have hkE : entryOk x.o x.s x.a x.d = x.ok := rfl
  rw [hkE] at h2
  have hno : bookOk es = false ∨ x.ok = false ∨ bookOk (putE es x) = false → withR es x = none := withR_no
  have hyes : bookOk es = true → x.ok = true → bookOk (putE es x) = true → withR es x = some (putE es x) := withR_yes
  have hpw := put_wf hx.wf hxw
  clear hkE
  generalize withR es x = r at hno hyes
  generalize x.ok = b2 at h2 hno hyes
  have HN := Lib.hid hno; have HY := Lib.hid hyes; clear hno hyes
  generalize hwb : w.alloc (.cells #[.int .i64 x.o, .int .i64 x.s, .int .i64 x.a, .int .i64 x.d] 26) = wb at hbx hblk hlt0
  have hsz0 := hbx.size
  have p0 := hblk.cell 0; have p1 := hblk.cell 1; have p2 := hblk.cell 2; have p3 := hblk.cell 3
  go_enter Try.func9, Try.ntmps9
  go_wp2_with fail
  refine (h2 _).mono ?_
  rintro e w1 ⟨rfl, hb1⟩
  have hB1 := hbx.trans (hb1.mono hsz0)
  have hs1 := hB1.size
  have hblk1 := hblk.below hb1 hlt0
  clear p0 p1 p2 p3
  rcases b2 with _ | _
  · have hr := Lib.hid (HN.out (.inr (.inl (by first | rfl | trivial))))
    clear HN HY
    go_wp2_with fail
    go_ret2
    exact maybe_nil hr.out hB1
  · have h1 := implBookOk_any B ao n cap es w1 (hx.below hB1 hB (Nat.le_refl B)) (by omega)
    generalize hbe : bookOk es = b1 at h1 HN HY
    have HB := Lib.hid hbe; clear hbe
    go_wp2_with fail
    refine h1.mono ?_
    rintro e w2 ⟨rfl, hb2⟩
    have hB2 := hB1.trans (hb2.mono hs1)
    have hs2 := hB2.size
    have hblk2 := hblk1.below hb2 hblk1.lt
    rcases b1 with _ | _
    · have hr := Lib.hid (HN.out (.inl (by first | rfl | trivial)))
      clear HN HY
      go_wp2_with fail
      go_ret2
      exact maybe_nil hr.out hB2
    · have hlt2 := hblk2.lt
      have HDD : ∀ w', Below w2.heap.size w2 w' → Blk w' w.heap.size 26 #[.int .i64 x.o, .int .i64 x.s, .int .i64 x.a, .int .i64 x.d] := fun w' h => hblk2.below h hlt2
      have HD := Lib.hid HDD; clear HDD
      have hx2 := hx.below hB2 hB (Nat.le_refl B)
      have hkw := fun wA (h : Below w2.heap.size w2 wA) => keyedWith_any B ao n cap es x wA (hx2.below h (by omega) (Nat.le_refl B)) hz (by have := h.size; omega) HB.out hxw
      have HW := Lib.hid hkw; clear hkw
      have p0 := hblk2.cell 0; have p1 := hblk2.cell 1; have p2 := hblk2.cell 2; have p3 := hblk2.cell 3
      generalize putE es x = pe at HN HY HW hpw
      go_wp2_with fail
      go_region_held3 (fun w' => w'.cell? ⟨w.heap.size, 0, none⟩ = some (.int .i64 x.o) ∧ w'.cell? ⟨w.heap.size, 1, none⟩ = some (.int .i64 x.s) ∧ w'.cell? ⟨w.heap.size, 2, none⟩ = some (.int .i64 x.a) ∧ w'.cell? ⟨w.heap.size, 3, none⟩ = some (.int .i64 x.d))
        (first | exact ⟨(HD.out _ HBB).cell 0, (HD.out _ HBB).cell 1, (HD.out _ HBB).cell 2, (HD.out _ HBB).cell 3⟩ | exact ⟨(HD.out _ HBA).cell 0, (HD.out _ HBA).cell 1, (HD.out _ HBA).cell 2, (HD.out _ HBA).cell 3⟩ | exact ⟨p0, p1, p2, p3⟩)
        (first
          | (go_at_call 28; refine (entriesByKey_any _ _ _ _).mono ?_; rintro e wA ⟨rfl, hbA⟩; have HBA := (Below.refl w2.heap.size w2).drew.trans hbA)
          | (go_at_call 29; refine (HW.out _ HBA).mono ?_; rintro e wC ⟨v, rfl, hown, hbC⟩; have HBB := HBA.trans (hbC.mono HBA.size); have hownS := hown))
      have hB3 := hB2.trans (HBB.mono hs2)
      obtain ⟨a3, c3, rfl, hi3, -⟩ := hown.ents hpw
      have h3 := implBookOk_any _ _ _ _ _ _ hi3 (Nat.le_refl _)
      generalize hbp : bookOk pe = b3 at h3 HN HY
      have HP := Lib.hid hbp; clear hbp
      have hsA := HBA.size
      clear p0 p1 p2 p3
      go_wp2_with fail
      refine h3.mono ?_
      rintro e w4 ⟨rfl, hb4⟩
      have hB4 := hB3.trans (hb4.mono hB3.size)
      rcases b3 with _ | _
      · have hr := Lib.hid (HN.out (.inr (.inr (by first | rfl | trivial))))
        clear HN HY
        go_wp2_with fail
        go_ret2
        exact maybe_nil hr.out hB4
      · have hr := Lib.hid (HY.out (by first | rfl | trivial) (by first | rfl | trivial) (by first | rfl | trivial))
        clear HN HY
        go_wp2_with fail
        go_ret2
        rw [hr.out]
        exact ⟨_, rfl, (hownS.below hb4 (Nat.le_refl _)).mono (by omega), hB4⟩

end Go.Proofs.Ytekkjfhmabefoaa
