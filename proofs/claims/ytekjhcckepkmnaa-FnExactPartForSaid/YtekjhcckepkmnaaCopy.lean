import Derived.Test.YtekjhcckepkmnaaBase
namespace Go.Proofs.Ytekjhcckepkmnaa
open Go.RowKit

theorem copy_step (xs : List Int) (k : Nat) (hk : k < xs.length) : (xs.take k ++ List.replicate (xs.length - k) 0).set k (xs.getD k 0) = xs.take (k + 1) ++ List.replicate (xs.length - (k + 1)) 0 := by
  have e : xs.length - k = (xs.length - (k + 1)) + 1 := by omega
  rw [e, List.replicate_succ, List.set_append_right _ _ (by simp; omega)]
  have e2 : k - (xs.take k).length = 0 := by simp; omega
  rw [e2, List.take_succ_eq_append_getElem hk, List.append_assoc]
  simp [List.getD, hk]

theorem copy_old (xs : List Int) (k : Nat) (hk : k < xs.length) : ((xs.take k ++ List.replicate (xs.length - k) 0).map (Value.int .i64))[k]? = some (.int .i64 0) := by
  rw [List.getElem?_map, List.getElem?_append_right (by simp; omega), List.getElem?_replicate]
  simp [show k - min k xs.length < xs.length - k by omega]

set_option maxHeartbeats 400000 in
theorem toInt64S_any (B : Nat) (ao : Option Addr) (n cap : Nat) (xs : List Int) (w : World) (hx : Ints B w ao n cap xs) (hB : B ≤ w.heap.size) (hn : n ≤ 17592186044416) :
    Calls Try.prog 16 #[.slice ao n cap] w fun e w' => ∃ v, e = .returned v ∧ Own w.heap.size w' v xs ∧ Below w.heap.size w w' := by
  obtain ⟨i0, hi, hz0, hz1, hz2⟩ := info_parts info64
  go_enter Try.func16, Try.ntmps16
  go_wp2_with (at_make; refine wpList_make_full _ rfl _ _ 25 rfl w.heap.size 2 i0 (.int .i64 0) 1 Try.underlying25 hi hz0 hz1 _ _ _ _ n rfl rfl (by omega) (by omega) ?b2 ?b3 (Nat.le_refl _) ?_)
  case b2 => rw [hz2]; omega
  case b3 => unfold maxLen; omega
  intro w0 hown0 hgrow0
  go_wp2
  have hml : xs.length = n := hx.hlen
  have e0 : (madeCells #[Value.int IntKind.i64 0] n).toList = ((xs.take 0 ++ List.replicate (xs.length - 0) 0).map (Value.int .i64)) := by rw [toList_madeCells_one]; simp [hml]
  rw [e0] at hown0
  clear e0
  have HL := Lib.hid hml
  clear hml
  go_loopw [4] (fun i wr => ∃ k : Nat, k ≤ n ∧ i = .int .i64 k ∧ wr.ownsRow w.heap.size 2 1 (.slice (some ⟨w.heap.size, 0, none⟩) n n) n ((xs.take k ++ List.replicate (xs.length - k) 0).map (Value.int .i64)) ∧ Below w.heap.size w wr) (fun i _ => n - (intOf i).toNat)
  case atStart => exact ⟨0, Nat.zero_le _, rfl, hown0, (Below.refl _ _).grown hgrow0 (Nat.le_refl _) (fun k h => by cases h)⟩
  case round =>
    obtain ⟨k, hk, rfl, hown, hbel⟩ := hrel
    by_cases hlt : k < n
    · obtain ⟨b, off, rfl, hbB, hc⟩ := hx.at k hlt
      have g : wr.cell? ⟨b, off + k, none⟩ = some (.int .i64 (xs.getD k 0)) := (hbel.cell (by show b < w.heap.size; omega)).trans (hc k hlt)
      have g2 : wr.cell? ⟨w.heap.size, k, none⟩ = some (.int .i64 0) := (hown.cellAt k (by omega)).trans (copy_old xs k (by rw [HL.out]; exact hlt))
      have f2 := hown.frozenAt k
      have hst := (hown.stored k (.int .i64 (xs.getD k 0))).1
      rw [map_set, copy_step xs k (by rw [HL.out]; exact hlt)] at hst
      have HST' := Lib.hid hst; clear hst
      clear hown
      clear hc
      go_wp2
      go_roundw
      case rel => exact ⟨k + 1, by omega, by go_num, by simpa using HST'.out, hbel.setCell (Nat.le_refl _) _⟩
      case measure => simp [intOf]; omega
    · go_wp2
      have ek : k = n := by omega
      subst ek
      go_ret
      have eh := HL.out
      refine ⟨_, rfl, ?_, hbel⟩
      unfold Own
      rw [eh]
      simpa [← eh] using hown

theorem toInt64S_fresh (B : Nat) (ao : Option Addr) (n cap : Nat) (xs : List Int) (w : World) (hx : Ints B w ao n cap xs) (hB : B ≤ w.heap.size) (hn : n ≤ 17592186044416) :
    Calls Try.prog 16 #[.slice ao n cap] w fun e w' => ∃ a1 c1, e = .returned (.slice a1 n c1) ∧ Own w.heap.size w' (.slice a1 n c1) xs ∧ Ints w'.heap.size w' a1 n c1 xs ∧ Below w.heap.size w w' :=
  (toInt64S_any B ao n cap xs w hx hB hn).mono fun e w' ⟨v, he, ho, hb⟩ => by
    obtain ⟨a1, c1, rfl, hi⟩ := ho.ints hx.wf
    have := hx.hlen
    subst this
    exact ⟨a1, c1, he, ho, hi, hb⟩

end Go.Proofs.Ytekjhcckepkmnaa
