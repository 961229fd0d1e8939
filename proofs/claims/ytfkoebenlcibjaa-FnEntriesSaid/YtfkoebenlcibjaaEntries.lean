/- FnEntries, the walk. -/
import Derived.Test.YtfkoebenlcibjaaDraw3
import Derived.Test.YtfkoebenlcibjaaKeyOf
import Derived.Test.YtfkoebenlcibjaaBig
import Derived.Deep.RegionHeld3
import Derived.Deep.RegionWith
namespace Go.Proofs.Ytfkoebenlcibjaa
open Go.RowKit

set_option maxHeartbeats 2000000 in
set_option maxRecDepth 100000 in
theorem fnEntries_any (ao : Option Addr) (n cap : Nat) (bs : List Int) (w : World) (hb : Bytes w.heap.size w ao n cap bs) :
    Calls Try.prog 3 #[.slice ao n cap] w (Yes w) := by
  by_cases hbig : 4096 < n
  · go_enter Try.func3, Try.ntmps3
    go_wp2_with fail
    refine (big_any _ _ _ _).mono ?_
    rintro e w1 ⟨rfl, rfl⟩
    rw [decide_eq_true hbig]
    go_wp2_with fail
    go_ret
    exact ⟨rfl, Below.refl _ _⟩
  · go_enter Try.func3, Try.ntmps3
    go_wp2_with fail
    refine (big_any _ _ _ _).mono ?_
    rintro e w1 ⟨rfl, rfl⟩
    rw [decide_eq_false hbig]
    go_wp2_with fail
    refine (drawEntryOk_any _ _ _ _ bs _ hb (Nat.le_refl _) (by omega)).mono ?_
    rintro e w2 ⟨o, s, a, d, rfl, -, -, -, -, hb2⟩
    have hE2 := Blk.new w2 25 #[.int .i64 o, .int .i64 s, .int .i64 a, .int .i64 d]
    have hsE : (w2.alloc (.cells #[.int .i64 o, .int .i64 s, .int .i64 a, .int .i64 d] 25)).heap.size = w2.heap.size + 1 := by simp
    have hs2 := hb2.size
    have hbE := hb2.alloc hs2 (.cells #[.int .i64 o, .int .i64 s, .int .i64 a, .int .i64 d] 25)
    have hbb := hb.below hbE (Nat.le_refl _) (Nat.le_refl _)
    go_wp2_with fail
    generalize w2.alloc (.cells #[.int .i64 o, .int .i64 s, .int .i64 a, .int .i64 d] 25) = wE at hE2 hsE hbE hbb ⊢
    refine (drawKeyOf_any _ _ _ _ bs _ hbb (by omega) (by omega)).mono ?_
    rintro e w3 ⟨p, q, x, y, rfl, -, -, -, -, hb3⟩
    have hE3 := hE2.below hb3 (by omega)
    have hF3 := Blk.new w3 25 #[.int .i64 p, .int .i64 q, .int .i64 x, .int .i64 y]
    have hs3 := hb3.size
    have hEF := hE3.alloc (.cells #[.int .i64 p, .int .i64 q, .int .i64 x, .int .i64 y] 25)
    have hsF : (w3.alloc (.cells #[.int .i64 p, .int .i64 q, .int .i64 x, .int .i64 y] 25)).heap.size = w3.heap.size + 1 := by simp
    have hbF := (hbE.trans (hb3.mono (by omega))).alloc (by omega) (.cells #[.int .i64 p, .int .i64 q, .int .i64 x, .int .i64 y] 25)
    have hy : (entryOk p q x y = true ∧ keyOf p q x y = 5 * p + q ∧ 0 ≤ p ∧ p ≤ 3 ∧ 0 ≤ q ∧ q ≤ 4) ∨ keyOf p q x y = -1 := by
      rcases h : entryOk p q x y with _ | _
      · exact .inr (keyOf_no h)
      · exact .inl ⟨rfl, keyOf_ok h⟩
    have hK1 := fun w => implKeyOf_any p q x y w
    have hK2 := fun w => specKeyOf_any p q x y w
    have hI := fun w => implEntryOk_any o s a d w
    have hS := fun w => specEntryOk_any o s a d w
    generalize entryOk o s a d = b at hI hS
    generalize keyOf p q x y = k at hy hK1 hK2
    have c0 := hF3.cell 0; have c1 := hF3.cell 1; have c2 := hF3.cell 2; have c3 := hF3.cell 3
    have HY := Lib.hid hy; clear hy
    clear hb hb2 hb3 hbb hE2 hE3 hbE
    go_wp2_with fail
    generalize w3.alloc (.cells #[.int .i64 p, .int .i64 q, .int .i64 x, .int .i64 y] 25) = wF at hF3 hsF hbF hEF c0 c1 c2 c3 ⊢
    refine (hK1 _).mono ?_
    rintro e w4 ⟨rfl, hb4⟩
    have hE4 := hEF.below hb4 (by omega)
    have hF4 := hF3.below hb4 (by omega)
    have hs4 := hb4.size
    have hB4 := hbF.trans (hb4.mono hbF.size)
    clear c0 c1 c2 c3 hEF hF3 hbF hb4
    have g1 : w2.heap.size < w4.heap.size := by omega
    have g2 : w3.heap.size < w4.heap.size := by omega
    have g0 : w1.heap.size ≤ w4.heap.size := hB4.size
    generalize w2.heap.size = ge at hE4 g1
    generalize w3.heap.size = gf at hF4 g2
    clear hs2 hsE hs3 hsF hs4
    have HC : ∀ w', Below w4.heap.size w4 w' → (w'.cell? ⟨ge, 0, none⟩ = some (.int .i64 o) ∧ w'.cell? ⟨ge, 1, none⟩ = some (.int .i64 s) ∧ w'.cell? ⟨ge, 2, none⟩ = some (.int .i64 a) ∧ w'.cell? ⟨ge, 3, none⟩ = some (.int .i64 d) ∧ w'.cell? ⟨gf, 0, none⟩ = some (.int .i64 p) ∧ w'.cell? ⟨gf, 1, none⟩ = some (.int .i64 q) ∧ w'.cell? ⟨gf, 2, none⟩ = some (.int .i64 x) ∧ w'.cell? ⟨gf, 3, none⟩ = some (.int .i64 y)) := fun w' h => by
      have hE := hE4.below h g1
      have hF := hF4.below h g2
      exact ⟨hE.cell 0, hE.cell 1, hE.cell 2, hE.cell 3, hF.cell 0, hF.cell 1, hF.cell 2, hF.cell 3⟩
    have HW := Lib.hid HC; clear HC
    obtain ⟨c0, c1, c2, c3, c4, c5, c6, c7⟩ := HW.out w4 (Below.refl _ _)
    have HB0 : ∀ w', Below w4.heap.size w4 w' → Below w4.heap.size w4 w'.drew := fun w' h => h.drew
    go_wp2_with fail
    go_region_held3 (fun w' => w'.cell? ⟨ge, 0, none⟩ = some (.int .i64 o) ∧ w'.cell? ⟨ge, 1, none⟩ = some (.int .i64 s) ∧ w'.cell? ⟨ge, 2, none⟩ = some (.int .i64 a) ∧ w'.cell? ⟨ge, 3, none⟩ = some (.int .i64 d) ∧ w'.cell? ⟨gf, 0, none⟩ = some (.int .i64 p) ∧ w'.cell? ⟨gf, 1, none⟩ = some (.int .i64 q) ∧ w'.cell? ⟨gf, 2, none⟩ = some (.int .i64 x) ∧ w'.cell? ⟨gf, 3, none⟩ = some (.int .i64 y))
      (first | exact HW.out _ HBC | exact HW.out _ HBB | exact HW.out _ HBA | exact HW.out _ (Below.refl _ _).drew)
      (first
        | (go_at_call 10; refine (hI _).mono ?_; rintro e wA ⟨rfl, hbA⟩; have HBA := (Below.refl w4.heap.size w4).drew.trans hbA)
        | (go_at_call 11; refine (hS _).mono ?_; rintro e wB ⟨rfl, hbB⟩; have HBB := HBA.trans (hbB.mono HBA.size))
        | (go_at_call 12; refine (hK2 _).mono ?_; rintro e wC ⟨rfl, hbC⟩; have HBC := HBB.trans (hbC.mono HBB.size)))
    have hBC := hB4.trans (HBC.mono g0)
    obtain ⟨-, -, -, -, d4, d5, -, -⟩ := HW.out wC HBC
    clear c0 c1 c2 c3 c4 c5 c6 c7 hI hS hK1 hK2 HW hbA hbB hbC HBA HBB HBC HB0
    rcases HY.out with ⟨-, rfl, hp0, hp1, hq0, hq1⟩ | rfl
    · clear HY
      have hk0 : ¬ 5 * p + q < 0 := by omega
      have hk1 : (5 * p + q).tdiv 5 = p := by rw [Int.tdiv_eq_ediv_of_nonneg (by omega)]; omega
      have hk2 : (5 * p + q).tmod 5 = q := by rw [Int.tmod_eq_emod_of_nonneg (by omega)]; omega
      go_wp2
      go_ret
      exact ⟨rfl, hBC⟩
    · clear HY
      go_wp2
      go_ret
      exact ⟨rfl, hBC⟩

end Go.Proofs.Ytfkoebenlcibjaa
