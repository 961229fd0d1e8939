/- Texts of this claim, put together: KeyedWith, Tried, ErrsIs, ErrsSet, ErrsAs, CodeOf, CloneE. -/
import Derived.Test.YtccaakgfhclebaaDoorPk2
import Derived.Test.YtccaakgfhclebaaDoorPk3
import Derived.Test.YtccaakgfhclebaaDoorPk7
import Derived.Test.YtccaakgfhclebaaDoorPk8
import Derived.Test.YtccaakgfhclebaaDoorPk9
import Derived.Deep.RegionHeld3
import Derived.BigRegion

/-
  impl.keyed's with, at entries.
-/
namespace Go.Proofs.YtccaakgfhclebaaDoor
open Go.RowKit

theorem put_low {es : List Ent} {x : Ent} {p : Nat} (hp : p ≤ es.length) (hlo : ∀ i, i < p → (E es i).key < x.key) : putE es x = es.take p ++ putE (es.drop p) x := by
  have hstep : ∀ k, k ≤ p → putE es x = es.take k ++ putE (es.drop k) x := by
    intro k
    induction k with
    | zero => intro _; rfl
    | succ k ih => intro hk; exact put_step (by omega) (ih (by omega)) (hlo k (by omega))
  exact hstep p (Nat.le_refl _)
theorem put_there {es : List Ent} {x : Ent} {p : Nat} (hlo : ∀ i, i < p → (E es i).key < x.key) (h : p < es.length ∧ (E es p).key = x.key) : putE es x = es.take p ++ [x] ++ es.drop (p + 1) :=
  put_same h.1 (put_low (by omega) hlo) h.2
theorem put_new {es : List Ent} {x : Ent} {p : Nat} (hp : p ≤ es.length) (hlo : ∀ i, i < p → (E es i).key < x.key) (hhi : ∀ i, p ≤ i → i < es.length → x.key ≤ (E es i).key) (h : ¬ (p < es.length ∧ (E es p).key = x.key)) :
    putE es x = es.take p ++ [x] ++ es.drop p := by
  by_cases hlt : p < es.length
  · have := hhi p (Nat.le_refl _) hlt
    exact put_else hlt (put_low hp hlo) (by omega) (fun e => h ⟨hlt, e⟩)
  · exact put_end (by omega) (put_low hp hlo)

set_option maxHeartbeats 2000000 in
set_option maxRecDepth 100000 in
theorem keyedWith_any (B : Nat) (ao : Option Addr) (n cap : Nat) (es : List Ent) (x : Ent) (w : World) (hx : Ents B w ao n cap es) (hz : ao = none → cap = 0) (hB : B ≤ w.heap.size) (hb : bookOk es = true) (hxw : x.wf) :
    Calls Tryd.prog 32 #[.agg #[.slice ao n cap, .func (.func 44) #[] #[]], .agg #[.int .i64 x.o, .int .i64 x.s, .int .i64 x.a, .int .i64 x.d]] w (NewEs (putE es x) w) := by
  have hx0 := hx.hlen; have hx1 := hx.hcap; have hx2 := hx.hmax
  unfold maxLen at hx2
  have hR := (parts_right (book_right hb)).1
  have hn20 : n ≤ 20 := by have := book_len hb; omega
  have hK := fun w => implKeyOf_any x.o x.s x.a x.d w
  have hkE : keyOf x.o x.s x.a x.d = x.key := rfl
  rw [hkE] at hK
  clear hkE
  have HX := Lib.hid hx0; clear hx0
  obtain ⟨W, hW⟩ : ∃ W, W = (w.alloc (.cells #[.slice ao n cap, .func (.func 44) #[] #[]] 63)).alloc (.cells #[.int .i64 x.o, .int .i64 x.s, .int .i64 x.a, .int .i64 x.d] 38) := ⟨_, rfl⟩
  have hb0 : Below w.heap.size w W := by rw [hW]; exact ((Below.refl _ _).alloc (Nat.le_refl _) _).alloc (by simp) _
  have hk0 : Blk W w.heap.size 63 #[.slice ao n cap, .func (.func 44) #[] #[]] := by rw [hW]; exact (Blk.new _ _ _).alloc _
  have he0 : Blk W (w.heap.size + 1) 38 #[.int .i64 x.o, .int .i64 x.s, .int .i64 x.a, .int .i64 x.d] := by
    rw [hW]
    have := Blk.new (w.alloc (.cells #[.slice ao n cap, .func (.func 44) #[] #[]] 63)) 38 #[.int .i64 x.o, .int .i64 x.s, .int .i64 x.a, .int .i64 x.d]
    simpa using this
  have hkl := hk0.lt
  have hel := he0.lt
  have HDD : ∀ w', Below W.heap.size W w' → Blk w' w.heap.size 63 #[.slice ao n cap, .func (.func 44) #[] #[]] := fun w' h => hk0.below h hkl
  have HEE : ∀ w', Below W.heap.size W w' → Blk w' (w.heap.size + 1) 38 #[.int .i64 x.o, .int .i64 x.s, .int .i64 x.a, .int .i64 x.d] := fun w' h => he0.below h hel
  have HD := Lib.hid HDD; have HE := Lib.hid HEE; clear HDD HEE
  have hs0 := hb0.size
  have hplace := fun wA (h : Below W.heap.size W wA) => place_any B ao n cap es x.key wA ((hx.below hb0 hB (Nat.le_refl B)).below h (by omega) (Nat.le_refl B)) (by have := h.size; omega) (by omega) hR
  have hthere := fun p (hlo : ∀ i, i < p → (E es i).key < x.key) (h : p < es.length ∧ (E es p).key = x.key) => put_there hlo h
  have hnew := fun p (hp : p ≤ es.length) (hlo : ∀ i, i < p → (E es i).key < x.key) (hhi : ∀ i, p ≤ i → i < es.length → x.key ≤ (E es i).key) (h : ¬ (p < es.length ∧ (E es p).key = x.key)) => put_new hp hlo hhi h
  generalize putE es x = res at hthere hnew ⊢
  generalize x.key = kx at hK hplace hthere hnew
  have HP := Lib.hid hplace; have HT := Lib.hid hthere; have HN := Lib.hid hnew; clear hplace hthere hnew hR
  have d0 := hk0.cell 0; have d1 := hk0.cell 1
  have p0 := he0.cell 0; have p1 := he0.cell 1; have p2 := he0.cell 2; have p3 := he0.cell 3
  go_enter Tryd.func32, Tryd.ntmps32
  go_upto_region 1 with fail
  rw [← hW]
  clear hW
  go_wp2_with fail
  go_region_held3 (fun w' => w'.cell? ⟨w.heap.size, 0, none⟩ = some (.slice ao n cap) ∧ w'.cell? ⟨w.heap.size, 1, none⟩ = some (.func (.func 44) #[] #[]) ∧ w'.cell? ⟨w.heap.size + 1, 0, none⟩ = some (.int .i64 x.o) ∧ w'.cell? ⟨w.heap.size + 1, 1, none⟩ = some (.int .i64 x.s) ∧ w'.cell? ⟨w.heap.size + 1, 2, none⟩ = some (.int .i64 x.a) ∧ w'.cell? ⟨w.heap.size + 1, 3, none⟩ = some (.int .i64 x.d))
    (first | exact ⟨(HD.out _ HBB).cell 0, (HD.out _ HBB).cell 1, (HE.out _ HBB).cell 0, (HE.out _ HBB).cell 1, (HE.out _ HBB).cell 2, (HE.out _ HBB).cell 3⟩ | exact ⟨(HD.out _ HBA).cell 0, (HD.out _ HBA).cell 1, (HE.out _ HBA).cell 0, (HE.out _ HBA).cell 1, (HE.out _ HBA).cell 2, (HE.out _ HBA).cell 3⟩ | exact ⟨d0, d1, p0, p1, p2, p3⟩)
    (first
      | (go_at_call 44; refine (hK _).mono ?_; rintro e wA ⟨rfl, hbA⟩; have HBA := (Below.refl W.heap.size W).drew.trans hbA)
      | (go_at_call 45; refine (HP.out _ HBA).mono ?_; rintro e wC ⟨p, rfl, hp, hlo, hhi, hbC⟩; have HBB := HBA.trans (hbC.mono HBA.size); generalize hq : decide (p < es.length ∧ (E es p).key = kx) = q; have HQ := Lib.hid hq; clear hq))
  have hBw := hb0.trans (HBB.mono hs0)
  have hkC := HD.out _ HBB
  have heC := HE.out _ HBB
  have hxC := hx.below hBw hB (Nat.le_refl B)
  have hpn : p ≤ n := by have := HX.out; omega
  have i1 : (0 : Int) ≤ p := by omega
  have i2 : (p : Int) ≤ n := by omega
  have i3 : (p : Int) ≤ cap := by omega
  have i4 : (n : Int) ≤ cap := by omega
  have j0 := hkC.cell 0; have j1 := hkC.cell 1
  have k0 := heC.cell 0; have k1 := heC.cell 1; have k2 := heC.cell 2; have k3 := heC.cell 3
  clear d0 d1 p0 p1 p2 p3
  have hsw := hBw.size
  have hkl2 := hkC.lt
  have hel2 := heC.lt
  have hlen := HX.out
  have HDD2 : ∀ w', Below wC.heap.size wC w' → Blk w' w.heap.size 63 #[.slice ao n cap, .func (.func 44) #[] #[]] := fun w' h => hkC.below h hkl2
  have HEE2 : ∀ w', Below wC.heap.size wC w' → Blk w' (w.heap.size + 1) 38 #[.int .i64 x.o, .int .i64 x.s, .int .i64 x.a, .int .i64 x.d] := fun w' h => heC.below h hel2
  have HD2 := Lib.hid HDD2; have HE2 := Lib.hid HEE2; clear HDD2 HEE2
  have HT1 := hxC.take p hpn
  have HL := Lib.hid hlen; clear hlen
  rcases q with _ | _
  · have hres := Lib.hid (HN.out p hp hlo hhi (of_decide_eq_false HQ.out))
    clear HT HN HQ hlo hhi HP
    by_cases hcp : cap = p
    · have hnp : n = p := by omega
      subst hcp
      subst hnp
      have HT3 : Ents B wC ao 0 0 (es.drop n) := by have := hxC.drop n hpn; simpa using this
      have hd : (es.take n).length + 1 + (es.drop n).length ≤ 1099511627776 := by have h1 := HL.out; rw [List.length_take, List.length_drop]; omega
      go_wp2_with fail
      go_region_held3 (fun w' => w'.cell? ⟨w.heap.size, 0, none⟩ = some (.slice ao n n) ∧ w'.cell? ⟨w.heap.size + 1, 0, none⟩ = some (.int .i64 x.o) ∧ w'.cell? ⟨w.heap.size + 1, 1, none⟩ = some (.int .i64 x.s) ∧ w'.cell? ⟨w.heap.size + 1, 2, none⟩ = some (.int .i64 x.a) ∧ w'.cell? ⟨w.heap.size + 1, 3, none⟩ = some (.int .i64 x.d))
        (first | exact ⟨(HD2.out _ HBC).cell 0, (HE2.out _ HBC).cell 0, (HE2.out _ HBC).cell 1, (HE2.out _ HBC).cell 2, (HE2.out _ HBC).cell 3⟩ | exact ⟨(HD2.out _ (((Below.refl wC.heap.size wC).alloc (Nat.le_refl _) _).alloc (by simp) _)).cell 0, (HE2.out _ (((Below.refl wC.heap.size wC).alloc (Nat.le_refl _) _).alloc (by simp) _)).cell 0, (HE2.out _ (((Below.refl wC.heap.size wC).alloc (Nat.le_refl _) _).alloc (by simp) _)).cell 1, (HE2.out _ (((Below.refl wC.heap.size wC).alloc (Nat.le_refl _) _).alloc (by simp) _)).cell 2, (HE2.out _ (((Below.refl wC.heap.size wC).alloc (Nat.le_refl _) _).alloc (by simp) _)).cell 3⟩ | exact ⟨(HD2.out _ ((Below.refl wC.heap.size wC).alloc (Nat.le_refl _) _)).cell 0, (HE2.out _ ((Below.refl wC.heap.size wC).alloc (Nat.le_refl _) _)).cell 0, (HE2.out _ ((Below.refl wC.heap.size wC).alloc (Nat.le_refl _) _)).cell 1, (HE2.out _ ((Below.refl wC.heap.size wC).alloc (Nat.le_refl _) _)).cell 2, (HE2.out _ ((Below.refl wC.heap.size wC).alloc (Nat.le_refl _) _)).cell 3⟩ | exact ⟨j0, k0, k1, k2, k3⟩)
        (first
          | (go_at_call 46; refine (concatX_any B _ _ _ _ _ _ _ (es.drop n) x wC (by omega) HT1 hz HT3 (fun _ => rfl) hxw hd).mono ?_; rintro e wE ⟨v, rfl, hown, hbE⟩; have HBC := hbE))
      go_wp2_with fail
      go_ret
      exact ⟨_, rfl, by rw [hres.out]; exact hown.mono hsw, hBw.trans (hbE.mono hsw)⟩
    · have HT3 : Ents B wC (ao.map (·.add (p * 4))) (n - p) (cap - p) (es.drop p) := by have := hxC.drop p hpn; rwa [if_neg hcp] at this
      have hz3 : (ao.map (·.add (p * 4))) = none → cap - p = 0 := fun h => by
        cases ao with
        | none => have := hz rfl; omega
        | some a => cases h
      have hd : (es.take p).length + 1 + (es.drop p).length ≤ 1099511627776 := by have h1 := HL.out; rw [List.length_take, List.length_drop]; omega
      go_wp2_with fail
      go_region_held3 (fun w' => w'.cell? ⟨w.heap.size, 0, none⟩ = some (.slice ao n cap) ∧ w'.cell? ⟨w.heap.size + 1, 0, none⟩ = some (.int .i64 x.o) ∧ w'.cell? ⟨w.heap.size + 1, 1, none⟩ = some (.int .i64 x.s) ∧ w'.cell? ⟨w.heap.size + 1, 2, none⟩ = some (.int .i64 x.a) ∧ w'.cell? ⟨w.heap.size + 1, 3, none⟩ = some (.int .i64 x.d))
        (first | exact ⟨(HD2.out _ HBC).cell 0, (HE2.out _ HBC).cell 0, (HE2.out _ HBC).cell 1, (HE2.out _ HBC).cell 2, (HE2.out _ HBC).cell 3⟩ | exact ⟨(HD2.out _ (((Below.refl wC.heap.size wC).alloc (Nat.le_refl _) _).alloc (by simp) _)).cell 0, (HE2.out _ (((Below.refl wC.heap.size wC).alloc (Nat.le_refl _) _).alloc (by simp) _)).cell 0, (HE2.out _ (((Below.refl wC.heap.size wC).alloc (Nat.le_refl _) _).alloc (by simp) _)).cell 1, (HE2.out _ (((Below.refl wC.heap.size wC).alloc (Nat.le_refl _) _).alloc (by simp) _)).cell 2, (HE2.out _ (((Below.refl wC.heap.size wC).alloc (Nat.le_refl _) _).alloc (by simp) _)).cell 3⟩ | exact ⟨(HD2.out _ ((Below.refl wC.heap.size wC).alloc (Nat.le_refl _) _)).cell 0, (HE2.out _ ((Below.refl wC.heap.size wC).alloc (Nat.le_refl _) _)).cell 0, (HE2.out _ ((Below.refl wC.heap.size wC).alloc (Nat.le_refl _) _)).cell 1, (HE2.out _ ((Below.refl wC.heap.size wC).alloc (Nat.le_refl _) _)).cell 2, (HE2.out _ ((Below.refl wC.heap.size wC).alloc (Nat.le_refl _) _)).cell 3⟩ | exact ⟨j0, k0, k1, k2, k3⟩)
        (first
          | (go_at_call 46; refine (concatX_any B _ _ _ _ _ _ _ (es.drop p) x wC (by omega) HT1 hz HT3 hz3 hxw hd).mono ?_; rintro e wE ⟨v, rfl, hown, hbE⟩; have HBC := hbE))
      go_wp2_with fail
      go_ret
      exact ⟨_, rfl, by rw [hres.out]; exact hown.mono hsw, hBw.trans (hbE.mono hsw)⟩
  · have hq := of_decide_eq_true HQ.out
    have hres := Lib.hid (HT.out p hlo hq)
    have hpn2 : p < n := by have := HX.out; omega
    clear HT HN HQ hlo hhi HP hq
    obtain ⟨b, off, rfl, hbB, hc⟩ := hxC.at p hpn2
    clear hc
    have i5 : (p : Int) < n := by omega
    have i6 : (1 : Int) ≤ ((n - p : Nat) : Int) := by omega
    have hcp : ¬ cap = p := by omega
    have hd : (es.take p).length + 1 + (es.drop (p + 1)).length ≤ 1099511627776 := by have h1 := HL.out; rw [List.length_take, List.length_drop]; omega
    have HT2 : Ents B wC (some ⟨b, off + p * 4, none⟩) (n - p) (cap - p) (es.drop p) := by
      have := hxC.drop p hpn
      rw [if_neg hcp] at this
      simp only [Option.map, Addr.add_lit] at this
      exact this
    have HT4 := HT2.drop 1 (by omega)
    rw [List.drop_drop] at HT4
    by_cases hc1 : cap - p = 1
    · have HT3 : Ents B wC (some ⟨b, off + p * 4, none⟩) (n - p - 1) 0 (es.drop (p + 1)) := by
        rw [if_pos hc1] at HT4
        rw [hc1] at HT4
        exact HT4
      clear HT4
      go_wp2_with fail
      go_region_held3 (fun w' => w'.cell? ⟨w.heap.size, 0, none⟩ = some (.slice (some ⟨b, off, none⟩) n cap) ∧ w'.cell? ⟨w.heap.size + 1, 0, none⟩ = some (.int .i64 x.o) ∧ w'.cell? ⟨w.heap.size + 1, 1, none⟩ = some (.int .i64 x.s) ∧ w'.cell? ⟨w.heap.size + 1, 2, none⟩ = some (.int .i64 x.a) ∧ w'.cell? ⟨w.heap.size + 1, 3, none⟩ = some (.int .i64 x.d))
        (first | exact ⟨(HD2.out _ HBC).cell 0, (HE2.out _ HBC).cell 0, (HE2.out _ HBC).cell 1, (HE2.out _ HBC).cell 2, (HE2.out _ HBC).cell 3⟩ | exact ⟨(HD2.out _ (((Below.refl wC.heap.size wC).alloc (Nat.le_refl _) _).alloc (by simp) _)).cell 0, (HE2.out _ (((Below.refl wC.heap.size wC).alloc (Nat.le_refl _) _).alloc (by simp) _)).cell 0, (HE2.out _ (((Below.refl wC.heap.size wC).alloc (Nat.le_refl _) _).alloc (by simp) _)).cell 1, (HE2.out _ (((Below.refl wC.heap.size wC).alloc (Nat.le_refl _) _).alloc (by simp) _)).cell 2, (HE2.out _ (((Below.refl wC.heap.size wC).alloc (Nat.le_refl _) _).alloc (by simp) _)).cell 3⟩ | exact ⟨(HD2.out _ ((Below.refl wC.heap.size wC).alloc (Nat.le_refl _) _)).cell 0, (HE2.out _ ((Below.refl wC.heap.size wC).alloc (Nat.le_refl _) _)).cell 0, (HE2.out _ ((Below.refl wC.heap.size wC).alloc (Nat.le_refl _) _)).cell 1, (HE2.out _ ((Below.refl wC.heap.size wC).alloc (Nat.le_refl _) _)).cell 2, (HE2.out _ ((Below.refl wC.heap.size wC).alloc (Nat.le_refl _) _)).cell 3⟩ | exact ⟨j0, k0, k1, k2, k3⟩)
        (first
          | (go_at_call 46; refine (concatX_any B _ _ _ _ _ _ _ (es.drop (p + 1)) x wC (by omega) HT1 hz HT3 (fun _ => rfl) hxw hd).mono ?_; rintro e wE ⟨v, rfl, hown, hbE⟩; have HBC := hbE))
      go_wp2_with fail
      go_ret
      exact ⟨_, rfl, by rw [hres.out]; exact hown.mono hsw, hBw.trans (hbE.mono hsw)⟩
    · have HT3 : Ents B wC (some ⟨b, off + p * 4 + 4, none⟩) (n - p - 1) (cap - p - 1) (es.drop (p + 1)) := by
        rw [if_neg hc1] at HT4
        simp only [Option.map, Addr.add_lit] at HT4
        exact HT4
      clear HT4
      go_wp2_with fail
      go_region_held3 (fun w' => w'.cell? ⟨w.heap.size, 0, none⟩ = some (.slice (some ⟨b, off, none⟩) n cap) ∧ w'.cell? ⟨w.heap.size + 1, 0, none⟩ = some (.int .i64 x.o) ∧ w'.cell? ⟨w.heap.size + 1, 1, none⟩ = some (.int .i64 x.s) ∧ w'.cell? ⟨w.heap.size + 1, 2, none⟩ = some (.int .i64 x.a) ∧ w'.cell? ⟨w.heap.size + 1, 3, none⟩ = some (.int .i64 x.d))
        (first | exact ⟨(HD2.out _ HBC).cell 0, (HE2.out _ HBC).cell 0, (HE2.out _ HBC).cell 1, (HE2.out _ HBC).cell 2, (HE2.out _ HBC).cell 3⟩ | exact ⟨(HD2.out _ (((Below.refl wC.heap.size wC).alloc (Nat.le_refl _) _).alloc (by simp) _)).cell 0, (HE2.out _ (((Below.refl wC.heap.size wC).alloc (Nat.le_refl _) _).alloc (by simp) _)).cell 0, (HE2.out _ (((Below.refl wC.heap.size wC).alloc (Nat.le_refl _) _).alloc (by simp) _)).cell 1, (HE2.out _ (((Below.refl wC.heap.size wC).alloc (Nat.le_refl _) _).alloc (by simp) _)).cell 2, (HE2.out _ (((Below.refl wC.heap.size wC).alloc (Nat.le_refl _) _).alloc (by simp) _)).cell 3⟩ | exact ⟨(HD2.out _ ((Below.refl wC.heap.size wC).alloc (Nat.le_refl _) _)).cell 0, (HE2.out _ ((Below.refl wC.heap.size wC).alloc (Nat.le_refl _) _)).cell 0, (HE2.out _ ((Below.refl wC.heap.size wC).alloc (Nat.le_refl _) _)).cell 1, (HE2.out _ ((Below.refl wC.heap.size wC).alloc (Nat.le_refl _) _)).cell 2, (HE2.out _ ((Below.refl wC.heap.size wC).alloc (Nat.le_refl _) _)).cell 3⟩ | exact ⟨j0, k0, k1, k2, k3⟩)
        (first
          | (go_at_call 46; refine (concatX_any B _ _ _ _ _ _ _ (es.drop (p + 1)) x wC (by omega) HT1 hz HT3 (fun h => by cases h) hxw hd).mono ?_; rintro e wE ⟨v, rfl, hown, hbE⟩; have HBC := hbE))
      go_wp2_with fail
      go_ret
      exact ⟨_, rfl, by rw [hres.out]; exact hown.mono hsw, hBw.trans (hbE.mono hsw)⟩

end Go.Proofs.YtccaakgfhclebaaDoor

/-
  impl.tried.
-/
namespace Go.Proofs.YtccaakgfhclebaaDoor
open Go.RowKit

/-- A fresh row of entries and no error, or no row and a refusal. -/
def TriedR (a0 a1 : Addr) (c : Int) (k nd t m : Int) (out : List Ent) (w : World) (e : Ending) (w' : World) : Prop :=
  ∃ (v err : Value), e = .returned (.tuple #[v, err]) ∧ Below w.heap.size w w' ∧
    ((c = 0 ∧ err = .nilIface ∧ OwnE w.heap.size w' v out) ∨ (v = .slice none 0 0 ∧ ∃ why, Why a0 a1 c why ∧ err = .iface 61 (.agg #[.int .i64 k, .int .i64 nd, .int .i64 t, .int .i64 m, why])))

theorem wf_of_ok {x : Ent} (h : x.ok = true) : x.wf := by
  have := Ent.ok_all h
  refine ⟨?_, ?_, ?_, ?_⟩ <;> (unfold I64; omega)

theorem code_zero {es : List Ent} {k nd t m : Int} (h : doneCode es k nd t m = 0) : bookOk es = true ∧ (deedEnt es k nd t m).ok = true ∧ deedOk k nd t m = true ∧ doneR es k nd t m = (putE es (deedEnt es k nd t m), 0) := by
  unfold doneCode at h
  split at h
  · rename_i hh
    unfold doneR at h ⊢
    split at h
    · cases h
    · rename_i h1
      rw [if_neg h1]
      split at h
      · rename_i h2
        rw [if_pos h2]
        exact ⟨hh.1, h2, hh.2, rfl⟩
      · cases h
  · cases h

set_option maxHeartbeats 4000000 in
set_option maxRecDepth 100000 in
theorem tried_any (B : Nat) (ao : Option Addr) (n cap : Nat) (es : List Ent) (k nd t m : Int) (a0 a1 : Addr) (w : World) (hx : Ents B w ao n cap es) (hz : ao = none → cap = 0) (hB : B ≤ w.heap.size) (hE : Errs w a0 a1) :
    Calls Tryd.prog 16 #[.slice ao n cap, .agg #[.int .i64 k, .int .i64 nd, .int .i64 t, .int .i64 m]] w (TriedR a0 a1 (doneCode es k nd t m) k nd t m (putE es (deedEnt es k nd t m)) w) := by
  obtain ⟨wb, hwb⟩ : ∃ wb, wb = w.alloc (.cells #[.int .i64 k, .int .i64 nd, .int .i64 t, .int .i64 m] 30) := ⟨_, rfl⟩
  have hb0 : Below w.heap.size w wb := by rw [hwb]; exact (Below.refl _ _).alloc (Nat.le_refl _) _
  have hs0 := hb0.size
  have hk0 : Blk wb w.heap.size 30 #[.int .i64 k, .int .i64 nd, .int .i64 t, .int .i64 m] := by rw [hwb]; exact Blk.new _ _ _
  have h1 := changedBy_any B ao n cap es k nd t m a0 a1 wb (hx.below hb0 hB (Nat.le_refl B)) (by omega) (hE.below hb0 (Nat.le_refl _))
  have hcz : doneCode es k nd t m = 0 → bookOk es = true ∧ (deedEnt es k nd t m).ok = true := fun h => ⟨(code_zero h).1, (code_zero h).2.1⟩
  generalize deedEnt es k nd t m = x at h1 hcz
  generalize doneCode es k nd t m = c at h1 hcz
  have hxm : ∀ w', Below w.heap.size w w' → Ents B w' ao n cap es ∧ B ≤ w'.heap.size := fun w' hb => ⟨hx.below hb hB (Nat.le_refl B), by have := hb.size; omega⟩
  have HX := Lib.hid hxm; clear hxm hx hE
  have d0 := hk0.cell 0; have d1 := hk0.cell 1; have d2 := hk0.cell 2; have d3 := hk0.cell 3
  go_enter Tryd.func16, Tryd.ntmps16
  go_upto_region 1 with fail
  rw [← hwb]
  clear hwb
  go_wp2_with fail
  refine h1.mono ?_
  rintro e w1 ⟨y, why, rfl, hb1, hcase⟩
  have hk1 := hk0.below hb1 hk0.lt
  have hB1 := hb0.trans (hb1.mono hs0)
  have hs1 := hB1.size
  clear d0 d1 d2 d3 h1
  rcases hcase with ⟨hc, rfl, rfl⟩ | hwhy
  · obtain ⟨hbk, hyk⟩ := hcz hc
    have hxw := wf_of_ok hyk
    have hpw := put_wf (book_wf hbk) hxw
    clear hcz hk0 hk1
    obtain ⟨wy, hwy⟩ : ∃ wy, wy = w1.alloc (.cells #[.int .i64 y.o, .int .i64 y.s, .int .i64 y.a, .int .i64 y.d] 38) := ⟨_, rfl⟩
    have hky : Blk wy w1.heap.size 38 #[.int .i64 y.o, .int .i64 y.s, .int .i64 y.a, .int .i64 y.d] := by
      rw [hwy]
      exact Blk.new _ _ _
    have hby : Below w1.heap.size w1 wy := by
      rw [hwy]
      exact (Below.refl _ _).alloc (Nat.le_refl _) _
    have hlt := hky.lt
    have hBy := hB1.trans (hby.mono hs1)
    have hsy := hBy.size
    have HD : Hid (∀ w', Below wy.heap.size wy w' → Blk w' w1.heap.size 38 #[.int .i64 y.o, .int .i64 y.s, .int .i64 y.a, .int .i64 y.d]) := Lib.hid (fun w' h => hky.below h hlt)
    have hkw := fun wA (h : Below wy.heap.size wy wA) => keyedWith_any B ao n cap es y wA (HX.out _ (hBy.trans (h.mono hsy))).1 hz (HX.out _ (hBy.trans (h.mono hsy))).2 hbk hxw
    obtain ⟨pe, hpe⟩ : ∃ pe, putE es y = pe := ⟨_, rfl⟩
    rw [hpe] at hkw hpw
    have HW := Lib.hid hkw; clear hkw
    have HPE := Lib.hid hpe; clear hpe
    go_upto_region 2 with fail
    rw [← hwy]
    clear hwy
    have p0 := hky.cell 0; have p1 := hky.cell 1; have p2 := hky.cell 2; have p3 := hky.cell 3
    go_wp2_with fail
    go_region_held3 (fun w' => w'.cell? ⟨w1.heap.size, 0, none⟩ = some (.int .i64 y.o) ∧ w'.cell? ⟨w1.heap.size, 1, none⟩ = some (.int .i64 y.s) ∧ w'.cell? ⟨w1.heap.size, 2, none⟩ = some (.int .i64 y.a) ∧ w'.cell? ⟨w1.heap.size, 3, none⟩ = some (.int .i64 y.d))
      (first | exact ⟨(HD.out _ HBB).cell 0, (HD.out _ HBB).cell 1, (HD.out _ HBB).cell 2, (HD.out _ HBB).cell 3⟩ | exact ⟨(HD.out _ HBA).cell 0, (HD.out _ HBA).cell 1, (HD.out _ HBA).cell 2, (HD.out _ HBA).cell 3⟩ | exact ⟨p0, p1, p2, p3⟩)
      (first
        | (go_at_call 31; refine (entriesByKey_any _ _ _ _).mono ?_; rintro e wA ⟨rfl, hbA⟩; have HBA := (Below.refl wy.heap.size wy).drew.trans hbA)
        | (go_at_call 32; refine (HW.out _ HBA).mono ?_; rintro e wC ⟨v, rfl, hown, hbC⟩; have HBB := HBA.trans (hbC.mono HBA.size); have hownS := hown))
    have hsA := HBA.size
    clear p0 p1 p2 p3
    go_wp2_with fail
    go_ret2
    exact ⟨_, _, rfl, hBy.trans (HBB.mono hsy), .inl ⟨hc, rfl, by rw [HPE.out]; exact hownS.mono (by omega)⟩⟩
  · obtain ⟨wy, hwy⟩ : ∃ wy, wy = w1.alloc (.cells #[.int .i64 y.o, .int .i64 y.s, .int .i64 y.a, .int .i64 y.d] 38) := ⟨_, rfl⟩
    have hby : Below w1.heap.size w1 wy := by
      rw [hwy]
      exact (Below.refl _ _).alloc (Nat.le_refl _) _
    have hky := hk1.below hby hk1.lt
    have hBy := hB1.trans (hby.mono hs1)
    have p0 := hky.cell 0; have p1 := hky.cell 1; have p2 := hky.cell 2; have p3 := hky.cell 3
    clear hcz hk0 hk1
    obtain ⟨why0, hwe⟩ : ∃ x, x = why := ⟨_, rfl⟩
    have hwhy0 : Why a0 a1 c why0 := by rw [hwe]; exact hwhy
    have HWE := Lib.hid hwe; clear hwe
    rcases hwhy with ⟨-, rfl⟩ | ⟨-, p, q, rfl⟩ | ⟨-, rfl⟩
    all_goals
      go_upto_region 2 with fail
      rw [← hwy]
      clear hwy
      go_wp2_with fail
      go_region
      go_wp2_with fail
      go_ret2
      exact ⟨_, _, rfl, hBy.drew, .inr ⟨rfl, why0, hwhy0, by rw [HWE.out]; rfl⟩⟩

end Go.Proofs.YtccaakgfhclebaaDoor

/-
  errors.Is at the errors of chapter 8.
-/
namespace Go.Proofs.YtccaakgfhclebaaDoor
open Go.RowKit Go.Extern.Stop Go.Stop Go.Extern

set_option maxHeartbeats 4000000 in
set_option maxRecDepth 100000 in
theorem is_same (k n t m : Int) (a : Addr) (w : World) :
    Calls Tryd.prog 33 #[.iface 61 (.agg #[.int .i64 k, .int .i64 n, .int .i64 t, .int .i64 m, .iface 124 (.pointer (some a))]), .iface 124 (.pointer (some a))] w fun e w' => e = .returned (.bool true) ∧ w' = w.alloc (.cells #[.int .i64 k, .int .i64 n, .int .i64 t, .int .i64 m, .iface 124 (.pointer (some a))] 61) := by
  obtain ⟨i, hi, hcmp⟩ := Option.map_eq_some_iff.1 Tryd.isComp
  obtain ⟨j, hj, hjs⟩ := Option.map_eq_some_iff.1 Tryd.isSize
  have h8 := @run_callFunc_extern Tryd.prog 47 _ Extern.ReflectliteType.typeOf Tryd.func47 (by kernel_rfl) (by kernel_rfl) (by kernel_rfl) (by kernel_rfl)
  have h32 := @run_callFunc_extern Tryd.prog 96 _ (Extern.ReflectliteType.method fun t => do Rtype.noPackHeld "Comparable" t; pure (.bool (← typeInfo t).comparable)) Tryd.func96 (by kernel_rfl) (by kernel_rfl) (by kernel_rfl) (by kernel_rfl)
  have tT := Tryd.isTypeOf
  have cT := Tryd.isComparable
  have mR := Tryd.isMethodComparable
  have nR := Tryd.noIsR
  have uR := Tryd.hasUnwrapR
  have mU := Tryd.methodUnwrapR
  have heq := run_eql_iface_ptr_same (P := Tryd.prog) (w.alloc (.cells #[.int .i64 k, .int .i64 n, .int .i64 t, .int .i64 m, .iface 124 (.pointer (some a))] 61)) a Tryd.underlying42 Tryd.underlying124 hi hcmp hj
  have hty := fun w => run_eql_iface_types (P := Tryd.prog) 61 124 (.agg #[.int .i64 k, .int .i64 n, .int .i64 t, .int .i64 m, .iface 124 (.pointer (some a))]) (.pointer (some a)) Tryd.underlying42 (by decide) w
  go_enter Tryd.func33, Tryd.ntmps33
  go_wp2
  refine wp_loop_rounds 2 ?_
  rw [rounds_succ]
  go_wp2
  rw [rounds_succ]
  go_wp2
  go_ret
  exact ⟨rfl, rfl⟩

set_option maxHeartbeats 4000000 in
set_option maxRecDepth 100000 in
theorem is_other (k n t m : Int) (a b : Addr) (ca cb : Array Value) (ta tb : TypeId) (w : World) (hne : a ≠ b) (ha : w.heap[a.block]? = some (.cells ca ta (0, 0))) (hb : w.heap[b.block]? = some (.cells cb tb (0, 0))) :
    Calls Tryd.prog 33 #[.iface 61 (.agg #[.int .i64 k, .int .i64 n, .int .i64 t, .int .i64 m, .iface 124 (.pointer (some a))]), .iface 124 (.pointer (some b))] w fun e w' => e = .returned (.bool false) ∧ w' = w.alloc (.cells #[.int .i64 k, .int .i64 n, .int .i64 t, .int .i64 m, .iface 124 (.pointer (some a))] 61) := by
  obtain ⟨i, hi, hcmp⟩ := Option.map_eq_some_iff.1 Tryd.isComp
  obtain ⟨j, hj, hjs⟩ := Option.map_eq_some_iff.1 Tryd.isSize
  have h8 := @run_callFunc_extern Tryd.prog 47 _ Extern.ReflectliteType.typeOf Tryd.func47 (by kernel_rfl) (by kernel_rfl) (by kernel_rfl) (by kernel_rfl)
  have h32 := @run_callFunc_extern Tryd.prog 96 _ (Extern.ReflectliteType.method fun t => do Rtype.noPackHeld "Comparable" t; pure (.bool (← typeInfo t).comparable)) Tryd.func96 (by kernel_rfl) (by kernel_rfl) (by kernel_rfl) (by kernel_rfl)
  have tT := Tryd.isTypeOf
  have cT := Tryd.isComparable
  have mR := Tryd.isMethodComparable
  have nR := Tryd.noIsR
  have uR := Tryd.hasUnwrapR
  have mU := Tryd.methodUnwrapR
  have nE := Tryd.noIsE
  have uE := Tryd.noUnwrapE
  have vE := Tryd.noUnwrapsE
  have la := (Array.getElem?_eq_some_iff.1 ha).1
  have lb := (Array.getElem?_eq_some_iff.1 hb).1
  have heq := run_eql_iface_ptr_other (P := Tryd.prog) (w.alloc (.cells #[.int .i64 k, .int .i64 n, .int .i64 t, .int .i64 m, .iface 124 (.pointer (some a))] 61)) Tryd.underlying42 Tryd.underlying124 hi hcmp hj (by rw [hjs]; decide) hne ((Below.heap_alloc w _ _ la).trans ha) ((Below.heap_alloc w _ _ lb).trans hb)
  have hty := fun w => run_eql_iface_types (P := Tryd.prog) 61 124 (.agg #[.int .i64 k, .int .i64 n, .int .i64 t, .int .i64 m, .iface 124 (.pointer (some a))]) (.pointer (some b)) Tryd.underlying42 (by decide) w
  go_enter Tryd.func33, Tryd.ntmps33
  go_wp2
  refine wp_loop_rounds 2 ?_
  rw [rounds_succ]
  go_wp2
  rw [rounds_succ]
  go_wp2
  go_ret
  exact ⟨rfl, rfl⟩

set_option maxHeartbeats 4000000 in
set_option maxRecDepth 100000 in
theorem is_limit (k n t m p q : Int) (b : Addr) (w : World) :
    Calls Tryd.prog 33 #[.iface 61 (.agg #[.int .i64 k, .int .i64 n, .int .i64 t, .int .i64 m, .iface 67 (.agg #[.int .i64 p, .int .i64 q])]), .iface 124 (.pointer (some b))] w fun e w' => e = .returned (.bool false) ∧ w' = w.alloc (.cells #[.int .i64 k, .int .i64 n, .int .i64 t, .int .i64 m, .iface 67 (.agg #[.int .i64 p, .int .i64 q])] 61) := by
  obtain ⟨i, hi, hcmp⟩ := Option.map_eq_some_iff.1 Tryd.isComp
  obtain ⟨j, hj, hjs⟩ := Option.map_eq_some_iff.1 Tryd.isSize
  have h8 := @run_callFunc_extern Tryd.prog 47 _ Extern.ReflectliteType.typeOf Tryd.func47 (by kernel_rfl) (by kernel_rfl) (by kernel_rfl) (by kernel_rfl)
  have h32 := @run_callFunc_extern Tryd.prog 96 _ (Extern.ReflectliteType.method fun t => do Rtype.noPackHeld "Comparable" t; pure (.bool (← typeInfo t).comparable)) Tryd.func96 (by kernel_rfl) (by kernel_rfl) (by kernel_rfl) (by kernel_rfl)
  have tT := Tryd.isTypeOf
  have cT := Tryd.isComparable
  have mR := Tryd.isMethodComparable
  have nR := Tryd.noIsR
  have uR := Tryd.hasUnwrapR
  have mU := Tryd.methodUnwrapR
  have nL := Tryd.noIsL
  have uL := Tryd.noUnwrapL
  have vL := Tryd.noUnwrapsL
  have hty := fun w => run_eql_iface_types (P := Tryd.prog) 61 124 (.agg #[.int .i64 k, .int .i64 n, .int .i64 t, .int .i64 m, .iface 67 (.agg #[.int .i64 p, .int .i64 q])]) (.pointer (some b)) Tryd.underlying42 (by decide) w
  have hty2 := fun w => run_eql_iface_types (P := Tryd.prog) 67 124 (.agg #[.int .i64 p, .int .i64 q]) (.pointer (some b)) Tryd.underlying42 (by decide) w
  go_enter Tryd.func33, Tryd.ntmps33
  go_wp2
  refine wp_loop_rounds 2 ?_
  rw [rounds_succ]
  go_wp2
  rw [rounds_succ]
  go_wp2
  go_ret
  exact ⟨rfl, rfl⟩

end Go.Proofs.YtccaakgfhclebaaDoor

/-
  reflectlite's Set at an impl.overLimit.
-/
namespace Go.Proofs.YtccaakgfhclebaaDoor
open Go.RowKit Go.Extern.Stop Go.Stop Go.Extern

set_option maxRecDepth 100000 in
theorem Tryd.setL (g b : Nat) (p q : Int) (u0 u1 : Value) (W : World) (hb : Blk W b 67 #[.int .i64 p, .int .i64 q]) (hg : Blk W g 67 #[u0, u1]) :
    (ReflectliteValue.set #[.agg #[.pointer (some ⟨3, 67, none⟩), .pointer (some ⟨g, 0, none⟩), .int .u64 409], .agg #[.pointer (some ⟨3, 67, none⟩), .pointer (some ⟨b, 0, none⟩), .int .u64 153]]).run Tryd.prog W
      = .ok (.tuple #[]) ((W.setCell ⟨g, 0, none⟩ (.int .i64 p)).setCell ⟨g, 1, none⟩ (.int .i64 q)) := by
  have b0 := hb.cell 0
  have b1 := hb.cell 1
  have g0 := hg.cell 0
  have f0 := hg.frozen 0
  have h2 := hg.set_ 0 (.int .i64 p)
  have g1 := h2.cell 1
  have f1 := h2.frozen 1
  simp at b0 b1 g0 g1
  rw [show ∀ v x, ReflectliteValue.set #[v, x] = Bind.bind (ReflectliteValue.parts v) _ from fun _ _ => rfl]
  have el : ∀ (a b : Value) (h1 : (#[a, b] : Array Value).size = 2) (h2 : 1 < 2), (#[a, b] : Array Value).getLit (n := 2) 1 h1 h2 = b := fun _ _ _ _ => rfl
  simp only [el, Sem.run_bind, Tryd.partsLa, Tryd.partsL, Result.andThen]
  have hl : (loadVar 67 ⟨b, 0, none⟩).run Tryd.prog W = .ok (.agg #[.int .i64 p, .int .i64 q]) W := by
    simp [loadVar, isAgg, underlying, Tryd.underlying67, Result.andThen, loadCells, loadCellsFrom, Addr.add, b0, b1]
  simp [ReflectliteValue.flagAddr, hl, Result.andThen, Tryd.directL, storeVar, Value.cells, storeCells, Addr.add]
  rw [run_store Tryd.prog W _ _ _ (by rfl)]
  simp [g0, f0]
  rw [run_store Tryd.prog _ _ _ _ (by rfl)]
  simp [g1, f1]

end Go.Proofs.YtccaakgfhclebaaDoor

/-
  errors.As at the errors of chapter 8, into an impl.overLimit of one's own.
-/
namespace Go.Proofs.YtccaakgfhclebaaDoor
open Go.RowKit Go.Extern.Stop Go.Stop Go.Extern

set_option maxHeartbeats 4000000 in
set_option maxRecDepth 100000 in
theorem as_other (B g : Nat) (u0 u1 : Value) (k n t m : Int) (b : Addr) (w : World) (hgl : w.cell? ⟨2, 0, none⟩ = some (.iface 104 (.agg #[.pointer (some ⟨3, 42, none⟩)]))) (ht : Blk w g 67 #[u0, u1]) (hgB : B ≤ g) :
    Calls Tryd.prog 34 #[.iface 61 (.agg #[.int .i64 k, .int .i64 n, .int .i64 t, .int .i64 m, .iface 124 (.pointer (some b))]), .iface 70 (.pointer (some ⟨g, 0, none⟩))] w fun e w' => e = .returned (.bool false) ∧ Below B w w' := by
  have hlt := cell_lt hgl
  have htl := ht.lt
  have h6 := @run_callFunc_extern Tryd.prog 49 _ (fun args => ReflectliteValue.unpack (args.getD 0 (.tuple #[]))) Tryd.func49 (by kernel_rfl) (by kernel_rfl) (by kernel_rfl) (by kernel_rfl)
  have h7 := @run_callFunc_extern Tryd.prog 50 _ (ReflectliteValue.methodAny (ReflectliteValue.valueError "reflectlite.Value.Type" 0) (fun t _ _ _ => ReflectliteType.toType t)) Tryd.func50 (by kernel_rfl) (by kernel_rfl) (by kernel_rfl) (by kernel_rfl)
  have h8 := @run_callFunc_extern Tryd.prog 51 _ (ReflectliteValue.method (ReflectliteValue.valueError "reflectlite.Value.IsNil" 0) ReflectliteValue.isNil) Tryd.func51 (by kernel_rfl) (by kernel_rfl) (by kernel_rfl) (by kernel_rfl)
  have h27 := @run_callFunc_extern Tryd.prog 85 _ (ReflectliteType.abiMethod fun t => do pure (.int .u8 (← Rtype.kind t))) Tryd.func85 (by kernel_rfl) (by kernel_rfl) (by kernel_rfl) (by kernel_rfl)
  have h37 := @run_callFunc_extern Tryd.prog 97 _ (ReflectliteType.method ReflectliteType.elem) Tryd.func97 (by kernel_rfl) (by kernel_rfl) (by kernel_rfl) (by kernel_rfl)
  have h38 := @run_callFunc_extern Tryd.prog 98 _ (ReflectliteType.relation "Implements" ReflectliteType.implements_) Tryd.func98 (by kernel_rfl) (by kernel_rfl) (by kernel_rfl) (by kernel_rfl)
  have h10 := @run_callFunc_extern Tryd.prog 47 _ ReflectliteType.typeOf Tryd.func47 (by kernel_rfl) (by kernel_rfl) (by kernel_rfl) (by kernel_rfl)
  have h35 := @run_callFunc_extern Tryd.prog 95 _ (ReflectliteType.relation "AssignableTo" ReflectliteType.assignableTo) Tryd.func95 (by kernel_rfl) (by kernel_rfl) (by kernel_rfl) (by kernel_rfl)
  have h11 := @run_callFunc_extern Tryd.prog 64 _ (ReflectliteValue.method (ReflectliteValue.valueError "reflectlite.Value.Elem" 0) ReflectliteValue.elem) Tryd.func64 (by kernel_rfl) (by kernel_rfl) (by kernel_rfl) (by kernel_rfl)
  have h12 := @run_callFunc_extern Tryd.prog 65 _ ReflectliteValue.set Tryd.func65 (by kernel_rfl) (by kernel_rfl) (by kernel_rfl) (by kernel_rfl)
  have x0 := Tryd.valueOfT
  have x1 := Tryd.typeT
  have x2 := Tryd.methodKind
  have x3 := Tryd.kindT
  have x4 := Tryd.kindL
  have x5 := Tryd.methodElem
  have x6 := Tryd.methodImplements
  have x7 := Tryd.methodAssignableTo
  have x8 := Tryd.elemT
  have x9 := Tryd.implementsL
  have x10 := Tryd.typeOfR
  have x11 := Tryd.assignR
  have x12 := Tryd.noAsR
  have x13 := Tryd.hasUnwrapR
  have x14 := Tryd.methodUnwrapR
  have n8 := Tryd.isNilT ⟨w.heap.size, 0, none⟩ ⟨g, 0, none⟩ ((w.alloc (.cells #[.pointer (some ⟨g, 0, none⟩)] 70)).alloc (.cells #[.pointer (some ⟨3, 70, none⟩), .pointer (some ⟨w.heap.size, 0, none⟩), .int .u64 150] 84)) (by simp)
  have hg2 : ((w.alloc (.cells #[.pointer (some ⟨g, 0, none⟩)] 70)).alloc (.cells #[.pointer (some ⟨3, 70, none⟩), .pointer (some ⟨w.heap.size, 0, none⟩), .int .u64 150] 84)).cell? ⟨2, 0, none⟩ = some (.iface 104 (.agg #[.pointer (some ⟨3, 42, none⟩)])) := by
    rw [World.cell?_alloc_lt _ _ _ (by simp; simp at hlt; omega), World.cell?_alloc_lt _ _ _ hlt]; exact hgl
  have y0 := Tryd.noAsE
  have y1 := Tryd.noUnwrapE
  have y2 := Tryd.noUnwrapsE
  have y3 := Tryd.isTypeOf
  have y4 := Tryd.assignE
  go_enter Tryd.func34, Tryd.ntmps34
  go_wp2
  refine wp_loop_rounds 2 ?_
  rw [rounds_succ]
  go_wp2
  rw [rounds_succ]
  go_wp2
  go_ret
  exact ⟨rfl, (((((Below.refl _ _).alloc (by omega) _).alloc (by simp; omega) _).alloc (by simp; omega) _).alloc (by simp; omega) _)⟩

set_option maxHeartbeats 4000000 in
set_option maxRecDepth 100000 in
theorem as_limit (B g : Nat) (u0 u1 : Value) (k n t m p q : Int) (w : World) (hgl : w.cell? ⟨2, 0, none⟩ = some (.iface 104 (.agg #[.pointer (some ⟨3, 42, none⟩)]))) (ht : Blk w g 67 #[u0, u1]) (hgB : B ≤ g) :
    Calls Tryd.prog 34 #[.iface 61 (.agg #[.int .i64 k, .int .i64 n, .int .i64 t, .int .i64 m, .iface 67 (.agg #[.int .i64 p, .int .i64 q])]), .iface 70 (.pointer (some ⟨g, 0, none⟩))] w fun e w' => e = .returned (.bool true) ∧ Below B w w' := by
  have hlt := cell_lt hgl
  have htl := ht.lt
  have h6 := @run_callFunc_extern Tryd.prog 49 _ (fun args => ReflectliteValue.unpack (args.getD 0 (.tuple #[]))) Tryd.func49 (by kernel_rfl) (by kernel_rfl) (by kernel_rfl) (by kernel_rfl)
  have h7 := @run_callFunc_extern Tryd.prog 50 _ (ReflectliteValue.methodAny (ReflectliteValue.valueError "reflectlite.Value.Type" 0) (fun t _ _ _ => ReflectliteType.toType t)) Tryd.func50 (by kernel_rfl) (by kernel_rfl) (by kernel_rfl) (by kernel_rfl)
  have h8 := @run_callFunc_extern Tryd.prog 51 _ (ReflectliteValue.method (ReflectliteValue.valueError "reflectlite.Value.IsNil" 0) ReflectliteValue.isNil) Tryd.func51 (by kernel_rfl) (by kernel_rfl) (by kernel_rfl) (by kernel_rfl)
  have h27 := @run_callFunc_extern Tryd.prog 85 _ (ReflectliteType.abiMethod fun t => do pure (.int .u8 (← Rtype.kind t))) Tryd.func85 (by kernel_rfl) (by kernel_rfl) (by kernel_rfl) (by kernel_rfl)
  have h37 := @run_callFunc_extern Tryd.prog 97 _ (ReflectliteType.method ReflectliteType.elem) Tryd.func97 (by kernel_rfl) (by kernel_rfl) (by kernel_rfl) (by kernel_rfl)
  have h38 := @run_callFunc_extern Tryd.prog 98 _ (ReflectliteType.relation "Implements" ReflectliteType.implements_) Tryd.func98 (by kernel_rfl) (by kernel_rfl) (by kernel_rfl) (by kernel_rfl)
  have h10 := @run_callFunc_extern Tryd.prog 47 _ ReflectliteType.typeOf Tryd.func47 (by kernel_rfl) (by kernel_rfl) (by kernel_rfl) (by kernel_rfl)
  have h35 := @run_callFunc_extern Tryd.prog 95 _ (ReflectliteType.relation "AssignableTo" ReflectliteType.assignableTo) Tryd.func95 (by kernel_rfl) (by kernel_rfl) (by kernel_rfl) (by kernel_rfl)
  have h11 := @run_callFunc_extern Tryd.prog 64 _ (ReflectliteValue.method (ReflectliteValue.valueError "reflectlite.Value.Elem" 0) ReflectliteValue.elem) Tryd.func64 (by kernel_rfl) (by kernel_rfl) (by kernel_rfl) (by kernel_rfl)
  have h12 := @run_callFunc_extern Tryd.prog 65 _ ReflectliteValue.set Tryd.func65 (by kernel_rfl) (by kernel_rfl) (by kernel_rfl) (by kernel_rfl)
  have x0 := Tryd.valueOfT
  have x1 := Tryd.typeT
  have x2 := Tryd.methodKind
  have x3 := Tryd.kindT
  have x4 := Tryd.kindL
  have x5 := Tryd.methodElem
  have x6 := Tryd.methodImplements
  have x7 := Tryd.methodAssignableTo
  have x8 := Tryd.elemT
  have x9 := Tryd.implementsL
  have x10 := Tryd.typeOfR
  have x11 := Tryd.assignR
  have x12 := Tryd.noAsR
  have x13 := Tryd.hasUnwrapR
  have x14 := Tryd.methodUnwrapR
  have n8 := Tryd.isNilT ⟨w.heap.size, 0, none⟩ ⟨g, 0, none⟩ ((w.alloc (.cells #[.pointer (some ⟨g, 0, none⟩)] 70)).alloc (.cells #[.pointer (some ⟨3, 70, none⟩), .pointer (some ⟨w.heap.size, 0, none⟩), .int .u64 150] 84)) (by simp)
  have hg2 : ((w.alloc (.cells #[.pointer (some ⟨g, 0, none⟩)] 70)).alloc (.cells #[.pointer (some ⟨3, 70, none⟩), .pointer (some ⟨w.heap.size, 0, none⟩), .int .u64 150] 84)).cell? ⟨2, 0, none⟩ = some (.iface 104 (.agg #[.pointer (some ⟨3, 42, none⟩)])) := by
    rw [World.cell?_alloc_lt _ _ _ (by simp; simp at hlt; omega), World.cell?_alloc_lt _ _ _ hlt]; exact hgl
  have y3 := Tryd.typeOfL
  have y4 := Tryd.assignL
  have y5 := Tryd.valueOfL
  have htW : Blk (((((w.alloc (.cells #[.pointer (some ⟨g, 0, none⟩)] 70)).alloc (.cells #[.pointer (some ⟨3, 70, none⟩), .pointer (some ⟨w.heap.size, 0, none⟩), .int .u64 150] 84)).alloc (.cells #[.pointer (some ⟨3, 70, none⟩), .pointer (some ⟨w.heap.size, 0, none⟩), .int .u64 150] 84)).alloc (.cells #[.int .i64 k, .int .i64 n, .int .i64 t, .int .i64 m, .iface 67 (.agg #[.int .i64 p, .int .i64 q])] 61)).alloc (.cells #[.int .i64 p, .int .i64 q] 67)) g 67 #[u0, u1] := ((((ht.alloc _).alloc _).alloc _).alloc _).alloc _
  have hbW : Blk (((((w.alloc (.cells #[.pointer (some ⟨g, 0, none⟩)] 70)).alloc (.cells #[.pointer (some ⟨3, 70, none⟩), .pointer (some ⟨w.heap.size, 0, none⟩), .int .u64 150] 84)).alloc (.cells #[.pointer (some ⟨3, 70, none⟩), .pointer (some ⟨w.heap.size, 0, none⟩), .int .u64 150] 84)).alloc (.cells #[.int .i64 k, .int .i64 n, .int .i64 t, .int .i64 m, .iface 67 (.agg #[.int .i64 p, .int .i64 q])] 61)).alloc (.cells #[.int .i64 p, .int .i64 q] 67)) (w.heap.size + 4) 67 #[.int .i64 p, .int .i64 q] := by
    have h := Blk.new ((((w.alloc (.cells #[.pointer (some ⟨g, 0, none⟩)] 70)).alloc (.cells #[.pointer (some ⟨3, 70, none⟩), .pointer (some ⟨w.heap.size, 0, none⟩), .int .u64 150] 84)).alloc (.cells #[.pointer (some ⟨3, 70, none⟩), .pointer (some ⟨w.heap.size, 0, none⟩), .int .u64 150] 84)).alloc (.cells #[.int .i64 k, .int .i64 n, .int .i64 t, .int .i64 m, .iface 67 (.agg #[.int .i64 p, .int .i64 q])] 61)) 67 #[.int .i64 p, .int .i64 q]
    simpa using h
  have st := Tryd.setL g (w.heap.size + 4) p q u0 u1 (((((w.alloc (.cells #[.pointer (some ⟨g, 0, none⟩)] 70)).alloc (.cells #[.pointer (some ⟨3, 70, none⟩), .pointer (some ⟨w.heap.size, 0, none⟩), .int .u64 150] 84)).alloc (.cells #[.pointer (some ⟨3, 70, none⟩), .pointer (some ⟨w.heap.size, 0, none⟩), .int .u64 150] 84)).alloc (.cells #[.int .i64 k, .int .i64 n, .int .i64 t, .int .i64 m, .iface 67 (.agg #[.int .i64 p, .int .i64 q])] 61)).alloc (.cells #[.int .i64 p, .int .i64 q] 67)) hbW htW
  have el := Tryd.elemVT ⟨w.heap.size, 0, none⟩ ⟨g, 0, none⟩ ((((w.alloc (.cells #[.pointer (some ⟨g, 0, none⟩)] 70)).alloc (.cells #[.pointer (some ⟨3, 70, none⟩), .pointer (some ⟨w.heap.size, 0, none⟩), .int .u64 150] 84)).alloc (.cells #[.pointer (some ⟨3, 70, none⟩), .pointer (some ⟨w.heap.size, 0, none⟩), .int .u64 150] 84)).alloc (.cells #[.int .i64 k, .int .i64 n, .int .i64 t, .int .i64 m, .iface 67 (.agg #[.int .i64 p, .int .i64 q])] 61)) (by
    rw [World.cell?_alloc_lt _ _ _ (by simp; omega), World.cell?_alloc_lt _ _ _ (by simp; omega), World.cell?_alloc_lt _ _ _ (by simp)]; simp)
  go_enter Tryd.func34, Tryd.ntmps34
  go_wp2
  refine wp_loop_rounds 2 ?_
  rw [rounds_succ]
  go_wp2
  rw [rounds_succ]
  go_wp2
  go_ret
  exact ⟨rfl, (((((((Below.refl _ _).alloc (by omega) _).alloc (by simp; omega) _).alloc (by simp; omega) _).alloc (by simp; omega) _).alloc (by simp; omega) _).setCell (p := ⟨g, 0, none⟩) hgB _).setCell (p := ⟨g, 1, none⟩) hgB _⟩

end Go.Proofs.YtccaakgfhclebaaDoor

/-
  impl.codeOf, at the errors that changedBy makes, wrapped in a refusal.
-/
namespace Go.Proofs.YtccaakgfhclebaaDoor
open Go.RowKit

set_option maxHeartbeats 1000000 in
set_option maxRecDepth 100000 in
theorem codeOf_nil (w : World) : Calls Tryd.prog 17 #[.nilIface] w (Says (.int .i64 0) w) := by
  go_enter Tryd.func17, Tryd.ntmps17
  go_wp2_with fail
  go_ret
  exact ⟨rfl, (Below.refl _ _).alloc (Nat.le_refl _) _⟩

set_option maxHeartbeats 2000000 in
set_option maxRecDepth 100000 in
theorem codeOf_why (a0 a1 : Addr) (k nd t m : Int) (c : Int) (why : Value) (w : World) (hE : Errs w a0 a1) (hw : Why a0 a1 c why) :
    Calls Tryd.prog 17 #[.iface 61 (.agg #[.int .i64 k, .int .i64 nd, .int .i64 t, .int .i64 m, why])] w (Says (.int .i64 c) w) := by
  obtain ⟨wb, hwb⟩ : ∃ wb, wb = w.alloc (.cells #[.int .i64 0, .int .i64 0] 67) := ⟨_, rfl⟩
  have hb0 : Below w.heap.size w wb := by rw [hwb]; exact (Below.refl _ _).alloc (Nat.le_refl _) _
  have hs0 : wb.heap.size = w.heap.size + 1 := by rw [hwb]; simp
  have hk0 : Blk wb w.heap.size 67 #[.int .i64 0, .int .i64 0] := by rw [hwb]; exact Blk.new _ _ _
  have hE0 := hE.below hb0 (Nat.le_refl _)
  have g0 := hE0.short
  have hp0 : ¬ w.heap.size = 0 := by have := cell_lt hE.short; omega
  clear hE
  rcases hw with ⟨rfl, rfl⟩ | ⟨rfl, p, q, rfl⟩ | ⟨rfl, rfl⟩
  · have h1 := fun w => is_same k nd t m a0 w
    go_enter Tryd.func17, Tryd.ntmps17
    go_upto_region 2 with fail
    rw [← hwb]
    clear hwb
    go_wp2_with fail
    refine (h1 _).mono ?_
    rintro e w1 ⟨rfl, rfl⟩
    go_wp2_with fail
    go_ret
    exact ⟨rfl, hb0.alloc (by omega) _⟩
  · have h1 := fun w => is_limit k nd t m p q a0 w
    obtain ⟨w1, hw1⟩ : ∃ w1, w1 = wb.alloc (.cells #[.int .i64 k, .int .i64 nd, .int .i64 t, .int .i64 m, .iface 67 (.agg #[.int .i64 p, .int .i64 q])] 61) := ⟨_, rfl⟩
    have hbw : Below wb.heap.size wb w1 := by rw [hw1]; exact (Below.refl _ _).alloc (Nat.le_refl _) _
    have hk1 := hk0.below hbw hk0.lt
    have hE1 := hE0.below hbw (Nat.le_refl _)
    have hs1 := hbw.size
    have h2 := as_limit w.heap.size w.heap.size _ _ k nd t m p q w1 hE1.type hk1 (Nat.le_refl _)
    go_enter Tryd.func17, Tryd.ntmps17
    go_upto_region 2 with fail
    rw [← hwb]
    clear hwb
    go_wp2_with fail
    refine (h1 _).mono ?_
    rintro e w' ⟨rfl, rfl⟩
    rw [← hw1]
    clear hw1
    go_wp2_with fail
    refine h2.mono ?_
    rintro e w2 ⟨rfl, hb2⟩
    go_wp2_with fail
    go_ret
    exact ⟨rfl, (hb0.trans (hbw.mono (by omega))).trans hb2⟩
  · obtain ⟨c0, t0, r0⟩ := hE0.row0
    obtain ⟨c1, t1, r1⟩ := hE0.row1
    have h1 := is_other k nd t m a1 a0 c1 c0 t1 t0 wb (fun e => hE0.ne e.symm) r1 r0
    obtain ⟨w1, hw1⟩ : ∃ w1, w1 = wb.alloc (.cells #[.int .i64 k, .int .i64 nd, .int .i64 t, .int .i64 m, .iface 124 (.pointer (some a1))] 61) := ⟨_, rfl⟩
    have hbw : Below wb.heap.size wb w1 := by rw [hw1]; exact (Below.refl _ _).alloc (Nat.le_refl _) _
    have hk1 := hk0.below hbw hk0.lt
    have hE1 := hE0.below hbw (Nat.le_refl _)
    have hs1 := hbw.size
    have h2 := as_other w.heap.size w.heap.size _ _ k nd t m a1 w1 hE1.type hk1 (Nat.le_refl _)
    clear r0 r1
    go_enter Tryd.func17, Tryd.ntmps17
    go_upto_region 2 with fail
    rw [← hwb]
    clear hwb
    go_wp2_with fail
    refine h1.mono ?_
    rintro e w' ⟨rfl, rfl⟩
    rw [← hw1]
    clear hw1
    go_wp2_with fail
    refine h2.mono ?_
    rintro e w2 ⟨rfl, hb2⟩
    go_wp2_with fail
    go_ret
    exact ⟨rfl, (hb0.trans (hbw.mono (by omega))).trans hb2⟩

end Go.Proofs.YtccaakgfhclebaaDoor

/-
  slices.Clone of a slice of entries.
-/
namespace Go.Proofs.YtccaakgfhclebaaDoor
open Go.RowKit

set_option maxHeartbeats 1000000 in
set_option maxRecDepth 100000 in
theorem cloneE_any (B : Nat) (ao : Option Addr) (n cap : Nat) (es : List Ent) (w : World) (hx : Ents B w ao n cap es) (hz : ao = none → cap = 0) (hB : B ≤ w.heap.size) (hn : n ≤ 1099511627776) :
    Calls Tryd.prog 18 #[.slice ao n cap] w (NewEs es w) := by
  rcases ao with _ | a
  · have hc := hz rfl
    have h1 := hx.hcap
    have h2 := hx.hlen
    subst hc
    have hn0 : n = 0 := by omega
    subst hn0
    have he : es = [] := List.eq_nil_of_length_eq_zero h2
    subst he
    have hN : ∀ w : World, (binOp .eql 26 (.slice none 0 0) (.slice none 0 0)).run Tryd.prog w = .ok (.bool true) w := fun _ => by kernel_rfl
    go_enter Tryd.func18, Tryd.ntmps18
    go_wp2_with fail
    go_ret
    exact ⟨_, rfl, ownE_nil _ _, Below.refl _ _⟩
  · have hN : ∀ w : World, (binOp .eql 26 (.slice (some a) n cap) (.slice none 0 0)).run Tryd.prog w = .ok (.bool false) w := fun _ => by kernel_rfl
    have hb0 : Below w.heap.size w (w.alloc (.cells #[] 38)) := (Below.refl _ _).alloc (Nat.le_refl _) _
    have hx1 := hx.below hb0 hB (Nat.le_refl B)
    have hs0 := hb0.size
    have ho0 := ownE_empty w
    go_enter Tryd.func18, Tryd.ntmps18
    go_wp2_with (at_builtin; refine appendE_all rfl _ _ rfl w.heap.size B _ [] es (some a) n cap rfl rfl hx1 hz ho0 hs0 (by simpa using hn) ?_; intro v1 w1 hown1 hb1)
    go_ret
    exact ⟨_, rfl, by simpa using hown1, hb0.trans hb1⟩

end Go.Proofs.YtccaakgfhclebaaDoor
