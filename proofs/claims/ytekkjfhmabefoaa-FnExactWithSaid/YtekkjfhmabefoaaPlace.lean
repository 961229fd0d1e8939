/-
  cmp.Compare; impl.keyed's place (slices.BinarySearchFunc with a closure), at entries.
-/
import Derived.Test.YtekkjfhmabefoaaRise
import Derived.Laws.EntriesVeiled
namespace Go.Proofs.Ytekkjfhmabefoaa
open Go.RowKit

def cmpI (x y : Int) : Int := if x < y then -1 else if x > y then 1 else 0
theorem cmpI_neg {x y : Int} (h : cmpI x y < 0) : x < y := by
  unfold cmpI at h
  split at h
  · assumption
  · split at h <;> omega
theorem cmpI_nneg {x y : Int} (h : ¬ cmpI x y < 0) : y ≤ x := by
  unfold cmpI at h
  split at h
  · omega
  · omega
theorem cmpI_zero {x y : Int} : cmpI x y = 0 ↔ x = y := by
  unfold cmpI
  split
  · omega
  · split <;> omega

set_option maxHeartbeats 400000 in
theorem isNaN_any (x : Int) (w : World) :
    Calls Try.prog 59 #[.int .i64 x] w fun e w' => e = .returned (.bool false) ∧ w' = w := by
  go_enter Try.func59, Try.ntmps59
  go_wp2
  go_ret
  exact ⟨ret_bool (by simp), rfl⟩

set_option maxHeartbeats 400000 in
theorem compare_any (x y : Int) (w : World) :
    Calls Try.prog 54 #[.int .i64 x, .int .i64 y] w fun e w' => e = .returned (.int .i64 (cmpI x y)) ∧ w' = w := by
  go_enter Try.func54, Try.ntmps54
  go_wp2_with (go_at_call 59; refine (isNaN_any _ _).mono ?_; rintro e w' ⟨rfl, hw⟩; rw [hw])
  all_goals (go_ret; refine ⟨?_, rfl⟩; unfold cmpI; (repeat' split) <;> first | rfl | (exfalso; omega))

set_option maxHeartbeats 400000 in
theorem placeCmp_any (g : Nat) (sl : Value) (x : Ent) (key : Int) (w : World) (hk : Blk w g 53 #[sl, .func (.func 33) #[] #[]]) :
    Calls Try.prog 53 #[.agg #[.int .i64 x.o, .int .i64 x.s, .int .i64 x.a, .int .i64 x.d], .int .i64 key, .pointer (some ⟨g, 0, none⟩)] w (Says (.int .i64 (cmpI x.key key)) w) := by
  have hK := fun w => implKeyOf_any x.o x.s x.a x.d w
  have hkE : keyOf x.o x.s x.a x.d = x.key := rfl
  rw [hkE] at hK
  clear hkE
  have hC := fun w => compare_any x.key key w
  generalize x.key = kx at hK hC ⊢
  have hlt := hk.lt
  have f1 := (hk.alloc (.cells #[.int .i64 x.o, .int .i64 x.s, .int .i64 x.a, .int .i64 x.d] 26)).cell 1
  have hb0 : Below w.heap.size w (w.alloc (.cells #[.int .i64 x.o, .int .i64 x.s, .int .i64 x.a, .int .i64 x.d] 26)) := (Below.refl _ _).alloc (Nat.le_refl _) _
  clear hk
  go_enter Try.func53, Try.ntmps53
  go_wp2_with fail
  refine (hK _).mono ?_
  rintro e w1 ⟨rfl, hb1⟩
  have hb2 := hb0.trans (hb1.mono hb0.size)
  go_wp2_with fail
  refine (hC _).mono ?_
  rintro e w2 ⟨rfl, rfl⟩
  go_wp2_with fail
  go_ret
  exact ⟨rfl, hb2⟩

theorem rise_mono {es : List Ent} (h : Rise es es.length) : ∀ a b, a ≤ b → b < es.length → (E es a).key ≤ (E es b).key := by
  intro a b hab
  induction b with
  | zero => intro _; have : a = 0 := by omega
            subst this; exact Int.le_refl _
  | succ b ih =>
    intro hb
    by_cases e : a = b + 1
    · subst e; exact Int.le_refl _
    · have h1 := ih (by omega) (by omega)
      have h2 := h (b + 1) hb
      rw [lastKey_succ] at h2
      omega

/-- Where the entry of that key stands, or would stand; and whether one stands there. -/
def PlaceR (es : List Ent) (key : Int) (w : World) (e : Ending) (w' : World) : Prop :=
  ∃ p : Nat, e = .returned (.tuple #[.int .i64 p, .bool (decide (p < es.length ∧ (E es p).key = key))]) ∧ p ≤ es.length ∧ (∀ i, i < p → (E es i).key < key) ∧ (∀ i, p ≤ i → i < es.length → key ≤ (E es i).key) ∧ Below w.heap.size w w'

set_option maxHeartbeats 2000000 in
set_option maxRecDepth 100000 in
theorem searchE_any (B g : Nat) (sl : Value) (ao : Option Addr) (n cap : Nat) (es : List Ent) (key : Int) (w : World) (hx : Ents B w ao n cap es) (hB : B ≤ w.heap.size) (hn : n ≤ 1000000) (hR : Rise es es.length)
    (hk : Blk w g 53 #[sl, .func (.func 33) #[] #[]]) :
    Calls Try.prog 52 #[.slice ao n cap, .int .i64 key, .func (.func 53) #[] #[.pointer (some ⟨g, 0, none⟩)]] w (PlaceR es key w) := by
  have hx0 := hx.hlen; have hx1 := hx.hcap; have hx2 := hx.hmax
  unfold maxLen at hx2
  have HX := Lib.hid hx0; clear hx0
  have M := Lib.hid (rise_mono hR); clear hR
  have hkl := hk.lt
  go_enter Try.func52, Try.ntmps52
  go_wp2
  go_loopw [9, 10] (fun s9 s10 wr => ∃ lo hi : Nat, s9 = .int .i64 lo ∧ s10 = .int .i64 hi ∧ lo ≤ hi ∧ hi ≤ n ∧ Hid ((∀ i, i < lo → (E es i).key < key) ∧ (∀ i, hi ≤ i → i < n → key ≤ (E es i).key)) ∧ Below w.heap.size w wr) (fun s9 s10 _ => (intOf s10).toNat - (intOf s9).toNat)
  case atStart => exact ⟨0, n, rfl, rfl, Nat.zero_le _, Nat.le_refl _, Lib.hid ⟨fun t ht => absurd ht (Nat.not_lt_zero _), fun t h1 h2 => by omega⟩, Below.refl _ _⟩
  case round =>
    obtain ⟨lo, hi, rfl, rfl, hlh, hin, I, hbel⟩ := hrel
    have hkr := hk.below hbel hkl
    have hsz := hbel.size
    by_cases hlt : lo < hi
    · have hxr := hx.below hbel hB hB
      obtain ⟨b, off, rfl, hbB, hc⟩ := hxr.at ((lo + hi) / 2) (by omega)
      obtain ⟨c0, c1, c2, c3⟩ := hc ((lo + hi) / 2) (by omega)
      clear hc
      have hup : (E es ((lo + hi) / 2)).key < key → ∀ i, i < (lo + hi) / 2 + 1 → (E es i).key < key := fun h i hi' => by
        have := M.out i ((lo + hi) / 2) (by omega) (by have := HX.out; omega)
        omega
      have hdn : ¬ (E es ((lo + hi) / 2)).key < key → ∀ i, (lo + hi) / 2 ≤ i → i < n → key ≤ (E es i).key := fun h i hi' hin' => by
        have := M.out ((lo + hi) / 2) i hi' (by have := HX.out; omega)
        omega
      have hcmp := fun w' (h : Blk w' g 53 #[sl, .func (.func 33) #[] #[]]) => placeCmp_any g sl (E es ((lo + hi) / 2)) key w' h
      have hcmp1 := hcmp wr hkr
      have e1 : cmpI (E es ((lo + hi) / 2)).key key < 0 → (E es ((lo + hi) / 2)).key < key := cmpI_neg
      have e2 : ¬ cmpI (E es ((lo + hi) / 2)).key key < 0 → ¬ (E es ((lo + hi) / 2)).key < key := fun h => by have := cmpI_nneg h; omega
      clear hcmp
      generalize cmpI (E es ((lo + hi) / 2)).key key = r at hcmp1 e1 e2
      have HUP := Lib.hid (fun h => hup (e1 h)); have HDN := Lib.hid (fun h => hdn (e2 h)); clear hup hdn e1 e2
      generalize E es ((lo + hi) / 2) = x at c0 c1 c2 c3 hcmp1
      by_cases hr : r < 0
      · have hn2 := Lib.hid (HUP.out hr)
        clear HUP HDN
        go_wp2_with fail
        refine hcmp1.mono ?_
        rintro e w1 ⟨rfl, hb1⟩
        have hB1 := hbel.trans (hb1.mono hsz)
        go_wp2
        go_roundw
        case rel =>
          exact ⟨(lo + hi) / 2 + 1, hi, by rw [show ((lo : Int) + (hi : Int)) / 2 + 1 = (((lo + hi) / 2 + 1 : Nat) : Int) by omega], rfl, by omega, hin, Lib.hid ⟨hn2.out, I.out.2⟩, hB1⟩
        case measure => simp [intOf]; omega
      · have hn2 := Lib.hid (HDN.out hr)
        clear HUP HDN
        go_wp2_with fail
        refine hcmp1.mono ?_
        rintro e w1 ⟨rfl, hb1⟩
        have hB1 := hbel.trans (hb1.mono hsz)
        go_wp2
        go_roundw
        case rel =>
          exact ⟨lo, (lo + hi) / 2, rfl, by rw [show ((lo : Int) + (hi : Int)) / 2 = (((lo + hi) / 2 : Nat) : Int) by omega], by omega, by omega, Lib.hid ⟨I.out.1, hn2.out⟩, hB1⟩
        case measure => simp [intOf]; omega
    · obtain rfl : hi = lo := by omega
      have hI := I.out
      have HI := Lib.hid hI; clear hI I
      by_cases hlt2 : hi < n
      · have hxr := hx.below hbel hB hB
        obtain ⟨b, off, rfl, hbB, hc⟩ := hxr.at hi hlt2
        obtain ⟨c0, c1, c2, c3⟩ := hc hi hlt2
        clear hc
        have hcmp1 := placeCmp_any g sl (E es hi) key wr hkr
        have e1 : (cmpI (E es hi).key key == 0) = decide (hi < es.length ∧ (E es hi).key = key) := by
          have h1 : hi < es.length := by have := HX.out; omega
          rw [Bool.eq_iff_iff, beq_iff_eq, decide_eq_true_eq, cmpI_zero]
          simp [h1]
        have E1 := Lib.hid e1; clear e1
        generalize cmpI (E es hi).key key = r at hcmp1 E1
        generalize hxi : E es hi = x at c0 c1 c2 c3 hcmp1
        clear hxi
        go_wp2_with fail
        refine hcmp1.mono ?_
        rintro e w1 ⟨rfl, hb1⟩
        have hB1 := hbel.trans (hb1.mono hsz)
        go_wp2
        go_ret2
        exact ⟨hi, by rw [← E1.out]; rfl, by have := HX.out; omega, HI.out.1, fun i h1 h2 => HI.out.2 i h1 (by have := HX.out; omega), hB1⟩
      · go_wp2
        go_ret2
        exact ⟨hi, by rw [decide_eq_false (fun h => hlt2 (by have := HX.out; omega))]; rfl, by have := HX.out; omega, HI.out.1, fun i h1 h2 => HI.out.2 i h1 (by have := HX.out; omega), hbel⟩

set_option maxHeartbeats 1000000 in
theorem place_any (B : Nat) (ao : Option Addr) (n cap : Nat) (es : List Ent) (key : Int) (w : World) (hx : Ents B w ao n cap es) (hB : B ≤ w.heap.size) (hn : n ≤ 1000000) (hR : Rise es es.length) :
    Calls Try.prog 34 #[.agg #[.slice ao n cap, .func (.func 33) #[] #[]], .int .i64 key] w (PlaceR es key w) := by
  have hmf : ∀ (fn : Fn) (first cap : Array Value) (w : World), (Instr.makeFunc fn first cap).run Try.prog w = .ok (.func fn first cap) w := fun _ _ _ _ => rfl
  have hb0 : Below w.heap.size w (w.alloc (.cells #[.slice ao n cap, .func (.func 33) #[] #[]] 53)) := (Below.refl _ _).alloc (Nat.le_refl _) _
  have hk0 : Blk (w.alloc (.cells #[.slice ao n cap, .func (.func 33) #[] #[]] 53)) w.heap.size 53 #[.slice ao n cap, .func (.func 33) #[] #[]] := Blk.new _ _ _
  have hs := searchE_any B w.heap.size (.slice ao n cap) ao n cap es key _ (hx.below hb0 hB (Nat.le_refl _)) (by simp; omega) hn hR hk0
  go_enter Try.func34, Try.ntmps34
  go_wp2_with fail
  refine hs.mono ?_
  rintro e w1 ⟨p, rfl, hp, hlo, hhi, hb1⟩
  have hB1 := hb0.trans (hb1.mono (by simp))
  generalize hq : decide (p < es.length ∧ (E es p).key = key) = q
  go_wp2_with fail
  go_ret2
  exact ⟨p, by rw [hq]; rfl, hp, hlo, hhi, hB1⟩

end Go.Proofs.Ytekkjfhmabefoaa
