/-
  impl.keyed's with, at entries.
-/
import Derived.Test.YtekkjfhmabefoaaImplBookOk
import Derived.Test.YtekkjfhmabefoaaPlace
import Derived.Test.YtekkjfhmabefoaaConcatE
import Derived.Deep.RegionHeld3
namespace Go.Proofs.Ytekkjfhmabefoaa
open Go.RowKit

theorem put_low {es : List Ent} {x : Ent} {p : Nat} (hp : p ≤ es.length) (hlo : ∀ i, i < p → (E es i).key < x.key) : putE es x = es.take p ++ putE (es.drop p) x := by
  have hstep : ∀ k, k ≤ p → putE es x = es.take k ++ putE (es.drop k) x := by
    intro k
    induction k with
    | zero => intro _; rfl
    | succ k ih => intro hk; exact put_step (by omega) (ih (by omega)) (hlo k (by omega))
  exact hstep p (Nat.le_refl _)
theorem put_there {es : List Ent} {x : Ent} {p : Nat} (hlo : ∀ i, i < p → (E es i).key < x.key) (h : p < es.length ∧ (E es p).key = x.key) : putE es x = es.take p ++ [x] ++ es.drop (p + 1) :=
  put_same h.1 (put_low (by omega) hlo) h.2
theorem put_new {es : List Ent} {x : Ent} {p : Nat} (hp : p ≤ es.length) (hlo : ∀ i, i < p → (E es i).key < x.key) (hhi : ∀ i, p ≤ i → i < es.length → x.key ≤ (E es i).key) (h : ¬ (p < es.length ∧ (E es p).key = x.key)) :
    putE es x = es.take p ++ [x] ++ es.drop p := by
  by_cases hlt : p < es.length
  · have := hhi p (Nat.le_refl _) hlt
    exact put_else hlt (put_low hp hlo) (by omega) (fun e => h ⟨hlt, e⟩)
  · exact put_end (by omega) (put_low hp hlo)

set_option maxHeartbeats 2000000 in
set_option maxRecDepth 100000 in
theorem keyedWith_any (B : Nat) (ao : Option Addr) (n cap : Nat) (es : List Ent) (x : Ent) (w : World) (hx : Ents B w ao n cap es) (hz : ao = none → cap = 0) (hB : B ≤ w.heap.size) (hb : bookOk es = true) (hxw : x.wf) :
    Calls Try.prog 29 #[.agg #[.slice ao n cap, .func (.func 33) #[] #[]], .agg #[.int .i64 x.o, .int .i64 x.s, .int .i64 x.a, .int .i64 x.d]] w (NewEs (putE es x) w) := by
  have hx0 := hx.hlen; have hx1 := hx.hcap; have hx2 := hx.hmax
  unfold maxLen at hx2
  have hR := (parts_right (book_right hb)).1
  have hn20 : n ≤ 20 := by have := book_len hb; omega
  have hK := fun w => implKeyOf_any x.o x.s x.a x.d w
  have hkE : keyOf x.o x.s x.a x.d = x.key := rfl
  rw [hkE] at hK
  clear hkE
  have HX := Lib.hid hx0; clear hx0
  obtain ⟨W, hW⟩ : ∃ W, W = (w.alloc (.cells #[.slice ao n cap, .func (.func 33) #[] #[]] 53)).alloc (.cells #[.int .i64 x.o, .int .i64 x.s, .int .i64 x.a, .int .i64 x.d] 26) := ⟨_, rfl⟩
  have hb0 : Below w.heap.size w W := by rw [hW]; exact ((Below.refl _ _).alloc (Nat.le_refl _) _).alloc (by simp) _
  have hk0 : Blk W w.heap.size 53 #[.slice ao n cap, .func (.func 33) #[] #[]] := by rw [hW]; exact (Blk.new _ _ _).alloc _
  have he0 : Blk W (w.heap.size + 1) 26 #[.int .i64 x.o, .int .i64 x.s, .int .i64 x.a, .int .i64 x.d] := by
    rw [hW]
    have := Blk.new (w.alloc (.cells #[.slice ao n cap, .func (.func 33) #[] #[]] 53)) 26 #[.int .i64 x.o, .int .i64 x.s, .int .i64 x.a, .int .i64 x.d]
    simpa using this
  have hkl := hk0.lt
  have hel := he0.lt
  have HDD : ∀ w', Below W.heap.size W w' → Blk w' w.heap.size 53 #[.slice ao n cap, .func (.func 33) #[] #[]] := fun w' h => hk0.below h hkl
  have HEE : ∀ w', Below W.heap.size W w' → Blk w' (w.heap.size + 1) 26 #[.int .i64 x.o, .int .i64 x.s, .int .i64 x.a, .int .i64 x.d] := fun w' h => he0.below h hel
  have HD := Lib.hid HDD; have HE := Lib.hid HEE; clear HDD HEE
  have hs0 := hb0.size
  have hplace := fun wA (h : Below W.heap.size W wA) => place_any B ao n cap es x.key wA ((hx.below hb0 hB (Nat.le_refl B)).below h (by omega) (Nat.le_refl B)) (by have := h.size; omega) (by omega) hR
  have hthere := fun p (hlo : ∀ i, i < p → (E es i).key < x.key) (h : p < es.length ∧ (E es p).key = x.key) => put_there hlo h
  have hnew := fun p (hp : p ≤ es.length) (hlo : ∀ i, i < p → (E es i).key < x.key) (hhi : ∀ i, p ≤ i → i < es.length → x.key ≤ (E es i).key) (h : ¬ (p < es.length ∧ (E es p).key = x.key)) => put_new hp hlo hhi h
  generalize putE es x = res at hthere hnew ⊢
  generalize x.key = kx at hK hplace hthere hnew
  have HP := Lib.hid hplace; have HT := Lib.hid hthere; have HN := Lib.hid hnew; clear hplace hthere hnew hR
  have d0 := hk0.cell 0; have d1 := hk0.cell 1
  have p0 := he0.cell 0; have p1 := he0.cell 1; have p2 := he0.cell 2; have p3 := he0.cell 3
  go_enter Try.func29, Try.ntmps29
  go_upto_region 1 with fail
  rw [← hW]
  clear hW
  go_wp2_with fail
  go_region_held3 (fun w' => w'.cell? ⟨w.heap.size, 0, none⟩ = some (.slice ao n cap) ∧ w'.cell? ⟨w.heap.size, 1, none⟩ = some (.func (.func 33) #[] #[]) ∧ w'.cell? ⟨w.heap.size + 1, 0, none⟩ = some (.int .i64 x.o) ∧ w'.cell? ⟨w.heap.size + 1, 1, none⟩ = some (.int .i64 x.s) ∧ w'.cell? ⟨w.heap.size + 1, 2, none⟩ = some (.int .i64 x.a) ∧ w'.cell? ⟨w.heap.size + 1, 3, none⟩ = some (.int .i64 x.d))
    (first | exact ⟨(HD.out _ HBB).cell 0, (HD.out _ HBB).cell 1, (HE.out _ HBB).cell 0, (HE.out _ HBB).cell 1, (HE.out _ HBB).cell 2, (HE.out _ HBB).cell 3⟩ | exact ⟨(HD.out _ HBA).cell 0, (HD.out _ HBA).cell 1, (HE.out _ HBA).cell 0, (HE.out _ HBA).cell 1, (HE.out _ HBA).cell 2, (HE.out _ HBA).cell 3⟩ | exact ⟨d0, d1, p0, p1, p2, p3⟩)
    (first
      | (go_at_call 33; refine (hK _).mono ?_; rintro e wA ⟨rfl, hbA⟩; have HBA := (Below.refl W.heap.size W).drew.trans hbA)
      | (go_at_call 34; refine (HP.out _ HBA).mono ?_; rintro e wC ⟨p, rfl, hp, hlo, hhi, hbC⟩; have HBB := HBA.trans (hbC.mono HBA.size); generalize hq : decide (p < es.length ∧ (E es p).key = kx) = q; have HQ := Lib.hid hq; clear hq))
  have hBw := hb0.trans (HBB.mono hs0)
  have hkC := HD.out _ HBB
  have heC := HE.out _ HBB
  have hxC := hx.below hBw hB (Nat.le_refl B)
  have hpn : p ≤ n := by have := HX.out; omega
  have i1 : (0 : Int) ≤ p := by omega
  have i2 : (p : Int) ≤ n := by omega
  have i3 : (p : Int) ≤ cap := by omega
  have i4 : (n : Int) ≤ cap := by omega
  have j0 := hkC.cell 0; have j1 := hkC.cell 1
  have k0 := heC.cell 0; have k1 := heC.cell 1; have k2 := heC.cell 2; have k3 := heC.cell 3
  clear d0 d1 p0 p1 p2 p3
  have hsw := hBw.size
  have hkl2 := hkC.lt
  have hel2 := heC.lt
  have hlen := HX.out
  have HDD2 : ∀ w', Below wC.heap.size wC w' → Blk w' w.heap.size 53 #[.slice ao n cap, .func (.func 33) #[] #[]] := fun w' h => hkC.below h hkl2
  have HEE2 : ∀ w', Below wC.heap.size wC w' → Blk w' (w.heap.size + 1) 26 #[.int .i64 x.o, .int .i64 x.s, .int .i64 x.a, .int .i64 x.d] := fun w' h => heC.below h hel2
  have HD2 := Lib.hid HDD2; have HE2 := Lib.hid HEE2; clear HDD2 HEE2
  have HT1 := hxC.take p hpn
  have HL := Lib.hid hlen; clear hlen
  rcases q with _ | _
  · have hres := Lib.hid (HN.out p hp hlo hhi (of_decide_eq_false HQ.out))
    clear HT HN HQ hlo hhi HP
    by_cases hcp : cap = p
    · have hnp : n = p := by omega
      subst hcp
      subst hnp
      have HT3 : Ents B wC ao 0 0 (es.drop n) := by have := hxC.drop n hpn; simpa using this
      have hd : (es.take n).length + 1 + (es.drop n).length ≤ 1099511627776 := by have h1 := HL.out; rw [List.length_take, List.length_drop]; omega
      go_wp2_with fail
      go_region_held3 (fun w' => w'.cell? ⟨w.heap.size, 0, none⟩ = some (.slice ao n n) ∧ w'.cell? ⟨w.heap.size + 1, 0, none⟩ = some (.int .i64 x.o) ∧ w'.cell? ⟨w.heap.size + 1, 1, none⟩ = some (.int .i64 x.s) ∧ w'.cell? ⟨w.heap.size + 1, 2, none⟩ = some (.int .i64 x.a) ∧ w'.cell? ⟨w.heap.size + 1, 3, none⟩ = some (.int .i64 x.d))
        (first | exact ⟨(HD2.out _ HBC).cell 0, (HE2.out _ HBC).cell 0, (HE2.out _ HBC).cell 1, (HE2.out _ HBC).cell 2, (HE2.out _ HBC).cell 3⟩ | exact ⟨(HD2.out _ (((Below.refl wC.heap.size wC).alloc (Nat.le_refl _) _).alloc (by simp) _)).cell 0, (HE2.out _ (((Below.refl wC.heap.size wC).alloc (Nat.le_refl _) _).alloc (by simp) _)).cell 0, (HE2.out _ (((Below.refl wC.heap.size wC).alloc (Nat.le_refl _) _).alloc (by simp) _)).cell 1, (HE2.out _ (((Below.refl wC.heap.size wC).alloc (Nat.le_refl _) _).alloc (by simp) _)).cell 2, (HE2.out _ (((Below.refl wC.heap.size wC).alloc (Nat.le_refl _) _).alloc (by simp) _)).cell 3⟩ | exact ⟨(HD2.out _ ((Below.refl wC.heap.size wC).alloc (Nat.le_refl _) _)).cell 0, (HE2.out _ ((Below.refl wC.heap.size wC).alloc (Nat.le_refl _) _)).cell 0, (HE2.out _ ((Below.refl wC.heap.size wC).alloc (Nat.le_refl _) _)).cell 1, (HE2.out _ ((Below.refl wC.heap.size wC).alloc (Nat.le_refl _) _)).cell 2, (HE2.out _ ((Below.refl wC.heap.size wC).alloc (Nat.le_refl _) _)).cell 3⟩ | exact ⟨j0, k0, k1, k2, k3⟩)
        (first
          | (go_at_call 50; refine (concatX_any B _ _ _ _ _ _ _ (es.drop n) x wC (by omega) HT1 hz HT3 (fun _ => rfl) hxw hd).mono ?_; rintro e wE ⟨v, rfl, hown, hbE⟩; have HBC := hbE))
      go_wp2_with fail
      go_ret
      exact ⟨_, rfl, by rw [hres.out]; exact hown.mono hsw, hBw.trans (hbE.mono hsw)⟩
    · have HT3 : Ents B wC (ao.map (·.add (p * 4))) (n - p) (cap - p) (es.drop p) := by have := hxC.drop p hpn; rwa [if_neg hcp] at this
      have hz3 : (ao.map (·.add (p * 4))) = none → cap - p = 0 := fun h => by
        cases ao with
        | none => have := hz rfl; omega
        | some a => cases h
      have hd : (es.take p).length + 1 + (es.drop p).length ≤ 1099511627776 := by have h1 := HL.out; rw [List.length_take, List.length_drop]; omega
      go_wp2_with fail
      go_region_held3 (fun w' => w'.cell? ⟨w.heap.size, 0, none⟩ = some (.slice ao n cap) ∧ w'.cell? ⟨w.heap.size + 1, 0, none⟩ = some (.int .i64 x.o) ∧ w'.cell? ⟨w.heap.size + 1, 1, none⟩ = some (.int .i64 x.s) ∧ w'.cell? ⟨w.heap.size + 1, 2, none⟩ = some (.int .i64 x.a) ∧ w'.cell? ⟨w.heap.size + 1, 3, none⟩ = some (.int .i64 x.d))
        (first | exact ⟨(HD2.out _ HBC).cell 0, (HE2.out _ HBC).cell 0, (HE2.out _ HBC).cell 1, (HE2.out _ HBC).cell 2, (HE2.out _ HBC).cell 3⟩ | exact ⟨(HD2.out _ (((Below.refl wC.heap.size wC).alloc (Nat.le_refl _) _).alloc (by simp) _)).cell 0, (HE2.out _ (((Below.refl wC.heap.size wC).alloc (Nat.le_refl _) _).alloc (by simp) _)).cell 0, (HE2.out _ (((Below.refl wC.heap.size wC).alloc (Nat.le_refl _) _).alloc (by simp) _)).cell 1, (HE2.out _ (((Below.refl wC.heap.size wC).alloc (Nat.le_refl _) _).alloc (by simp) _)).cell 2, (HE2.out _ (((Below.refl wC.heap.size wC).alloc (Nat.le_refl _) _).alloc (by simp) _)).cell 3⟩ | exact ⟨(HD2.out _ ((Below.refl wC.heap.size wC).alloc (Nat.le_refl _) _)).cell 0, (HE2.out _ ((Below.refl wC.heap.size wC).alloc (Nat.le_refl _) _)).cell 0, (HE2.out _ ((Below.refl wC.heap.size wC).alloc (Nat.le_refl _) _)).cell 1, (HE2.out _ ((Below.refl wC.heap.size wC).alloc (Nat.le_refl _) _)).cell 2, (HE2.out _ ((Below.refl wC.heap.size wC).alloc (Nat.le_refl _) _)).cell 3⟩ | exact ⟨j0, k0, k1, k2, k3⟩)
        (first
          | (go_at_call 50; refine (concatX_any B _ _ _ _ _ _ _ (es.drop p) x wC (by omega) HT1 hz HT3 hz3 hxw hd).mono ?_; rintro e wE ⟨v, rfl, hown, hbE⟩; have HBC := hbE))
      go_wp2_with fail
      go_ret
      exact ⟨_, rfl, by rw [hres.out]; exact hown.mono hsw, hBw.trans (hbE.mono hsw)⟩
  · have hq := of_decide_eq_true HQ.out
    have hres := Lib.hid (HT.out p hlo hq)
    have hpn2 : p < n := by have := HX.out; omega
    clear HT HN HQ hlo hhi HP hq
    obtain ⟨b, off, rfl, hbB, hc⟩ := hxC.at p hpn2
    clear hc
    have i5 : (p : Int) < n := by omega
    have i6 : (1 : Int) ≤ ((n - p : Nat) : Int) := by omega
    have hcp : ¬ cap = p := by omega
    have hd : (es.take p).length + 1 + (es.drop (p + 1)).length ≤ 1099511627776 := by have h1 := HL.out; rw [List.length_take, List.length_drop]; omega
    have HT2 : Ents B wC (some ⟨b, off + p * 4, none⟩) (n - p) (cap - p) (es.drop p) := by
      have := hxC.drop p hpn
      rw [if_neg hcp] at this
      simp only [Option.map, Addr.add_lit] at this
      exact this
    have HT4 := HT2.drop 1 (by omega)
    rw [List.drop_drop] at HT4
    by_cases hc1 : cap - p = 1
    · have HT3 : Ents B wC (some ⟨b, off + p * 4, none⟩) (n - p - 1) 0 (es.drop (p + 1)) := by
        rw [if_pos hc1] at HT4
        rw [hc1] at HT4
        exact HT4
      clear HT4
      go_wp2_with fail
      go_region_held3 (fun w' => w'.cell? ⟨w.heap.size, 0, none⟩ = some (.slice (some ⟨b, off, none⟩) n cap) ∧ w'.cell? ⟨w.heap.size + 1, 0, none⟩ = some (.int .i64 x.o) ∧ w'.cell? ⟨w.heap.size + 1, 1, none⟩ = some (.int .i64 x.s) ∧ w'.cell? ⟨w.heap.size + 1, 2, none⟩ = some (.int .i64 x.a) ∧ w'.cell? ⟨w.heap.size + 1, 3, none⟩ = some (.int .i64 x.d))
        (first | exact ⟨(HD2.out _ HBC).cell 0, (HE2.out _ HBC).cell 0, (HE2.out _ HBC).cell 1, (HE2.out _ HBC).cell 2, (HE2.out _ HBC).cell 3⟩ | exact ⟨(HD2.out _ (((Below.refl wC.heap.size wC).alloc (Nat.le_refl _) _).alloc (by simp) _)).cell 0, (HE2.out _ (((Below.refl wC.heap.size wC).alloc (Nat.le_refl _) _).alloc (by simp) _)).cell 0, (HE2.out _ (((Below.refl wC.heap.size wC).alloc (Nat.le_refl _) _).alloc (by simp) _)).cell 1, (HE2.out _ (((Below.refl wC.heap.size wC).alloc (Nat.le_refl _) _).alloc (by simp) _)).cell 2, (HE2.out _ (((Below.refl wC.heap.size wC).alloc (Nat.le_refl _) _).alloc (by simp) _)).cell 3⟩ | exact ⟨(HD2.out _ ((Below.refl wC.heap.size wC).alloc (Nat.le_refl _) _)).cell 0, (HE2.out _ ((Below.refl wC.heap.size wC).alloc (Nat.le_refl _) _)).cell 0, (HE2.out _ ((Below.refl wC.heap.size wC).alloc (Nat.le_refl _) _)).cell 1, (HE2.out _ ((Below.refl wC.heap.size wC).alloc (Nat.le_refl _) _)).cell 2, (HE2.out _ ((Below.refl wC.heap.size wC).alloc (Nat.le_refl _) _)).cell 3⟩ | exact ⟨j0, k0, k1, k2, k3⟩)
        (first
          | (go_at_call 50; refine (concatX_any B _ _ _ _ _ _ _ (es.drop (p + 1)) x wC (by omega) HT1 hz HT3 (fun _ => rfl) hxw hd).mono ?_; rintro e wE ⟨v, rfl, hown, hbE⟩; have HBC := hbE))
      go_wp2_with fail
      go_ret
      exact ⟨_, rfl, by rw [hres.out]; exact hown.mono hsw, hBw.trans (hbE.mono hsw)⟩
    · have HT3 : Ents B wC (some ⟨b, off + p * 4 + 4, none⟩) (n - p - 1) (cap - p - 1) (es.drop (p + 1)) := by
        rw [if_neg hc1] at HT4
        simp only [Option.map, Addr.add_lit] at HT4
        exact HT4
      clear HT4
      go_wp2_with fail
      go_region_held3 (fun w' => w'.cell? ⟨w.heap.size, 0, none⟩ = some (.slice (some ⟨b, off, none⟩) n cap) ∧ w'.cell? ⟨w.heap.size + 1, 0, none⟩ = some (.int .i64 x.o) ∧ w'.cell? ⟨w.heap.size + 1, 1, none⟩ = some (.int .i64 x.s) ∧ w'.cell? ⟨w.heap.size + 1, 2, none⟩ = some (.int .i64 x.a) ∧ w'.cell? ⟨w.heap.size + 1, 3, none⟩ = some (.int .i64 x.d))
        (first | exact ⟨(HD2.out _ HBC).cell 0, (HE2.out _ HBC).cell 0, (HE2.out _ HBC).cell 1, (HE2.out _ HBC).cell 2, (HE2.out _ HBC).cell 3⟩ | exact ⟨(HD2.out _ (((Below.refl wC.heap.size wC).alloc (Nat.le_refl _) _).alloc (by simp) _)).cell 0, (HE2.out _ (((Below.refl wC.heap.size wC).alloc (Nat.le_refl _) _).alloc (by simp) _)).cell 0, (HE2.out _ (((Below.refl wC.heap.size wC).alloc (Nat.le_refl _) _).alloc (by simp) _)).cell 1, (HE2.out _ (((Below.refl wC.heap.size wC).alloc (Nat.le_refl _) _).alloc (by simp) _)).cell 2, (HE2.out _ (((Below.refl wC.heap.size wC).alloc (Nat.le_refl _) _).alloc (by simp) _)).cell 3⟩ | exact ⟨(HD2.out _ ((Below.refl wC.heap.size wC).alloc (Nat.le_refl _) _)).cell 0, (HE2.out _ ((Below.refl wC.heap.size wC).alloc (Nat.le_refl _) _)).cell 0, (HE2.out _ ((Below.refl wC.heap.size wC).alloc (Nat.le_refl _) _)).cell 1, (HE2.out _ ((Below.refl wC.heap.size wC).alloc (Nat.le_refl _) _)).cell 2, (HE2.out _ ((Below.refl wC.heap.size wC).alloc (Nat.le_refl _) _)).cell 3⟩ | exact ⟨j0, k0, k1, k2, k3⟩)
        (first
          | (go_at_call 50; refine (concatX_any B _ _ _ _ _ _ _ (es.drop (p + 1)) x wC (by omega) HT1 hz HT3 (fun h => by cases h) hxw hd).mono ?_; rintro e wE ⟨v, rfl, hown, hbE⟩; have HBC := hbE))
      go_wp2_with fail
      go_ret
      exact ⟨_, rfl, by rw [hres.out]; exact hown.mono hsw, hBw.trans (hbE.mono hsw)⟩

end Go.Proofs.Ytekkjfhmabefoaa
