import Derived.Test.YtmlabdoncdadmaaDraw1
namespace Go.Proofs.Ytmlabdoncdadmaa
open Go.RowKit

/-- A new slice of numbers, and a number. -/
def ReadDrawn (w : World) (e : Ending) (w' : World) : Prop := ∃ v xs p, e = .returned (.tuple #[v, .int .i64 p]) ∧ Own w.heap.size w' v xs ∧ AllI64 xs ∧ xs.length ≤ 1000010000 ∧ I64 p ∧ Below w.heap.size w w'

set_option maxHeartbeats 400000 in
set_option maxRecDepth 100000 in
theorem drawReadVar_any (B : Nat) (ao : Option Addr) (n cap : Nat) (bs : List Int) (w : World) (hb : Bytes B w ao n cap bs) (hB : B ≤ w.heap.size) (hn : n ≤ 1099511627776) :
    Calls Try.prog 9 #[.slice ao n cap] w (ReadDrawn w) := by
  go_enter Try.func9, Try.ntmps9
  go_wp2_with fail
  refine (l1New_any B _ _ _ bs _ hb hB hn).mono ?_
  rintro e w1 ⟨rfl, hd1, hb1⟩
  go_wp2_with fail
  refine (l1DrawAny_any _ _ _ hd1).mono ?_
  rintro e w2 ⟨v2, xs, rfl, hown2, hall, hlen, hk2, hd2⟩
  have hg1 := hd1.hg
  go_wp2_with fail
  refine (l1Once_any _ _ _ _ hd2 ⟨by decide, by decide⟩).mono ?_
  rintro e w3 ⟨b3, rfl, ho3, hd3⟩
  have hown3 := hown2.keeps ho3.keeps hg1
  have hk3 := hk2.trans ho3.keeps
  have hb3 : Below w.heap.size w w3 := hb1.trans (hk3.below (Nat.le_refl _) hb1.size)
  have hs3 := hb3.size
  have hs13 := hk3.size
  rcases b3 with _ | _
  · obtain ⟨a3, c3, rfl, hi3⟩ := hown3.ints hall
    go_wp2_with fail
    refine (l1From_any _ _ _ _ _ hd3 (by decide) (by omega) (by omega) (by omega)).mono ?_
    rintro e w4 ⟨r, rfl, hr0, hr1, ho4, hd4⟩
    go_wp2_with fail
    go_ret2
    exact ⟨_, xs, r, rfl, (hown3.keeps ho4.keeps hg1).mono hb1.size, hall, by omega, by unfold I64; omega, hb3.trans (ho4.keeps.below (Nat.le_refl _) hs3)⟩
  · go_wp2_with fail
    refine (drawVarOf_any B _ _ _ bs _ (hb.below hb3 hB (Nat.le_refl _)) (by omega) hn).mono ?_
    rintro e w4 ⟨r, rfl, hr, hb4⟩
    have hs4 := hb4.size
    have hown4 := hown3.below hb4 (Nat.le_refl _)
    have hd4 := hd3.below hb4
    go_wp2_with fail
    refine (specVarOf_any _ _).mono ?_
    rintro e w5 ⟨v5, rfl, hown5, hb5⟩
    have hs5 := hb5.size
    have hownb := hown4.below hb5 (Nat.le_refl _)
    have hd5 := hd4.below hb5
    obtain ⟨a5, c5, rfl, hi5, hz5⟩ := hownb.ints' hall
    have hlv := varOf_len r
    have hwfv := bytes_i64 (varOf_bytes r)
    have HB3 := Lib.hid hb3; have HB4 := Lib.hid hb4; have HB5 := Lib.hid hb5; have HO := Lib.hid hownb
    clear hb3 hb4 hb5 hownb hown2 hown3 hown4
    go_wp2_with (at_builtin; refine append_all rfl _ _ rfl w4.heap.size _ _ (varOf r) xs _ _ _ rfl rfl hi5 hz5 hown5 hs5 (by omega) ?_; intro v6 w6 hown6 hb6)
    have hall6 : AllI64 (varOf r ++ xs) := fun x hx => by
      rcases List.mem_append.1 hx with h | h
      · exact hwfv x h
      · exact hall x h
    have hlen6 : (varOf r ++ xs).length ≤ 1000004002 := by simp; omega
    have hd6 := hd5.below' hb6 (by omega)
    have hbel6 : Below w.heap.size w w6 := ((HB3.out.trans (HB4.out.mono hs3)).trans (HB5.out.mono (by omega))).trans (hb6.mono (by omega))
    have hs6 := hbel6.size
    generalize varOf r ++ xs = zs at hown6 hall6 hlen6
    obtain ⟨a6, c6, rfl, hi6⟩ := hown6.ints hall6
    refine (l1Once_any _ _ _ _ hd6 ⟨by decide, by decide⟩).mono ?_
    rintro e w7 ⟨b7, rfl, ho7, hd7⟩
    have hown7 := hown6.keeps ho7.keeps (by omega)
    have hb7 := hbel6.trans (ho7.keeps.below (Nat.le_refl _) hs6)
    rcases b7 with _ | _
    · go_wp2_with fail
      refine (l1From_any _ _ _ _ _ hd7 (by decide) (by omega) (by omega) (by omega)).mono ?_
      rintro e w8 ⟨q, rfl, hr0, hr1, ho8, hd8⟩
      go_wp2_with fail
      go_ret2
      exact ⟨_, zs, q, rfl, (hown7.keeps ho8.keeps (by omega)).mono (by omega), hall6, by omega, by unfold I64; omega, hb7.trans (ho8.keeps.below (Nat.le_refl _) hb7.size)⟩
    · go_wp2_with fail
      go_ret2
      exact ⟨_, zs, 0, rfl, hown7.mono (by omega), hall6, by omega, by unfold I64; omega, hb7⟩

end Go.Proofs.Ytmlabdoncdadmaa
