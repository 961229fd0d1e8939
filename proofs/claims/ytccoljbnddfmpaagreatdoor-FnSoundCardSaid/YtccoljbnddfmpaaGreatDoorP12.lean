/- Texts of this claim, put together. -/
import Derived.Test.YtccoljbnddfmpaaGreatDoorP1
import Derived.Test.YtccoljbnddfmpaaGreatDoorP5
import Derived.Test.YtccoljbnddfmpaaGreatDoorP6
import Derived.Test.YtccoljbnddfmpaaGreatDoorP7
import Derived.Test.YtccoljbnddfmpaaGreatDoorP11
import Derived.Deep.DeepCutAuto

namespace Go.Proofs.YtccoljbnddfmpaaGreatDoor
theorem take_drop_cons (xs : List Int) (i k : Nat) (hi : i < xs.length) (hk : i < k) : (xs.drop i).take (k - i) = xs.getD i 0 :: (xs.drop (i + 1)).take (k - (i + 1)) := by
  rw [List.drop_eq_getElem_cons hi, show k - i = (k - (i + 1)) + 1 by omega, List.take_succ_cons]
  simp [List.getD, hi]
theorem scan_spec (xs : List Int) (hb : ∀ x ∈ xs, 0 ≤ x ∧ x ≤ 255) (f : Nat) : ∀ (i : Nat) (n u a : Int) (k : Nat), 1 ≤ u → scan xs f i n u = some (a, k) →
    ∃ m : Nat, a = n + m * u ∧ varN m = (xs.drop i).take (k - i) ∧ i < k ∧ k ≤ xs.length ∧ a ≤ 1000000000 ∧ (1 < u → 0 < m) := by
  induction f with
  | zero => intro i n u a k _ h; cases h
  | succ f ih =>
    intro i n u a k hu h
    rw [scan] at h
    by_cases hi : i < xs.length
    · have hx : 0 ≤ xs.getD i 0 ∧ xs.getD i 0 ≤ 255 := by
        have e : xs.getD i 0 = xs[i] := by simp [List.getD, hi]
        rw [e]; exact hb _ (List.getElem_mem _)
      have htd := fun k hk => take_drop_cons xs i k hi hk
      rw [if_pos hi] at h
      generalize xs.getD i 0 = b at h hx htd
      by_cases hb1 : b < 128
      · rw [if_pos hb1] at h
        split at h
        · cases h
        · rename_i hc
          simp only [Option.some.injEq, Prod.mk.injEq] at h
          obtain ⟨rfl, rfl⟩ := h
          obtain ⟨m, rfl⟩ : ∃ m : Nat, b = m := ⟨b.toNat, by omega⟩
          have hm : (m : Int) % 128 = m := by omega
          refine ⟨m, by rw [hm], ?_, by omega, by omega, by omega, fun hu1 => by omega⟩
          rw [htd _ (by omega), varN_small (by omega)]
          simp
      · rw [if_neg hb1] at h
        obtain ⟨m, ha, hv, h1, h2, h3, h4⟩ := ih (i + 1) (n + b % 128 * u) (u * 128) a k (by omega) h
        have hm := h4 (by omega)
        refine ⟨(b % 128).toNat + 128 * m, ?_, ?_, by omega, h2, h3, fun _ => by omega⟩
        · rw [ha]
          have e : (((b % 128).toNat + 128 * m : Nat) : Int) = b % 128 + 128 * m := by omega
          rw [e, Int.add_mul, Int.add_assoc, Int.mul_comm u 128, ← Int.mul_assoc, Int.mul_comm (m : Int) 128]
        · rw [varN_big (by omega), htd k (by omega)]
          have e1 : ((b % 128).toNat + 128 * m) / 128 = m := by omega
          rw [e1, hv]
          congr 1
          omega
    · rw [if_neg hi] at h
      cases h
theorem varN_fuel (f : Nat) : ∀ m : Nat, m < 128 ^ (f + 1) → (varN m).length ≤ f + 1 := by
  induction f with
  | zero => intro m h; rw [varN_small (by omega)]; simp
  | succ f ih =>
    intro m h
    by_cases hm : m < 128
    · rw [varN_small hm]; simp
    · rw [varN_big hm, List.length_cons]
      have := ih (m / 128) (by rw [Nat.pow_succ] at h; omega)
      omega
end Go.Proofs.YtccoljbnddfmpaaGreatDoor

namespace Go.Proofs.YtccoljbnddfmpaaGreatDoor
def encE (last : Int) (e : Ent) : List Int := varN (e.key - last - 1).toNat ++ varN e.a.toNat ++ varN e.d.toNat
def encB (last : Int) : List Ent → List Int
  | [] => []
  | e :: r => encE last e ++ encB e.key r
def enc (es : List Ent) : List Int := varN es.length ++ encB (-1) es
theorem varN_short {m : Nat} (h : m < 2097152) : (varN m).length ≤ 3 := varN_fuel 2 m (by omega)
theorem encE_len {last : Int} {e : Ent} (h : e.ok = true) (hl : -1 ≤ last) : (encE last e).length ≤ 9 := by
  have h1 := Ent.ok_all h
  have h2 := Ent.key_ok h
  have a1 := varN_short (m := (e.key - last - 1).toNat) (by omega)
  have a2 := varN_short (m := e.a.toNat) (by omega)
  have a3 := varN_short (m := e.d.toNat) (by omega)
  unfold encE
  simp only [List.length_append]
  omega
theorem encB_len {es : List Ent} (h : ∀ e ∈ es, e.ok = true) : ∀ last : Int, -1 ≤ last → (encB last es).length ≤ 9 * es.length := by
  induction es with
  | nil => intro _ _; simp [encB]
  | cons e r ih =>
    intro last hl
    have he := h e (List.mem_cons_self ..)
    have h1 := encE_len he hl
    have h2 := ih (fun x hx => h x (List.mem_cons_of_mem _ hx)) e.key (by have := Ent.key_ok he; omega)
    rw [encB, List.length_append, List.length_cons]
    omega
theorem book_all {es : List Ent} (h : bookOk es = true) : ∀ e ∈ es, e.ok = true := fun e he => by
  obtain ⟨i, hi, rfl⟩ := List.mem_iff_getElem.1 he
  have := (book_right h i hi).1
  rwa [E_get hi] at this
theorem enc_len {es : List Ent} (h : bookOk es = true) : (enc es).length ≤ 183 := by
  have h1 := book_len h
  have h2 := encB_len (book_all h) (-1) (by omega)
  have h3 := varN_short (m := es.length) (by omega)
  unfold enc
  rw [List.length_append]
  omega
theorem encE_bytes (last : Int) (e : Ent) : ∀ x ∈ encE last e, 0 ≤ x ∧ x ≤ 255 := by
  intro x hx
  unfold encE at hx
  rcases List.mem_append.1 hx with hx | hx
  · rcases List.mem_append.1 hx with hx | hx
    · exact varN_bytes _ x hx
    · exact varN_bytes _ x hx
  · exact varN_bytes _ x hx
theorem encB_bytes (es : List Ent) : ∀ (last : Int) (x : Int), x ∈ encB last es → 0 ≤ x ∧ x ≤ 255 := by
  induction es with
  | nil => intro _ x hx; cases hx
  | cons e r ih =>
    intro last x hx
    rcases List.mem_append.1 hx with hx | hx
    · exact encE_bytes last e x hx
    · exact ih _ x hx
theorem enc_bytes (es : List Ent) : ∀ x ∈ enc es, 0 ≤ x ∧ x ≤ 255 := by
  intro x hx
  rcases List.mem_append.1 hx with hx | hx
  · exact varN_bytes _ x hx
  · exact encB_bytes es _ x hx
def lastK (es : List Ent) (i : Nat) : Int := if i = 0 then -1 else (E es (i - 1)).key
theorem lastK_succ (es : List Ent) (i : Nat) : lastK es (i + 1) = (E es i).key := by simp [lastK]
theorem lastK_up {es : List Ent} (h : bookOk es = true) {i : Nat} (hi : i < es.length) : lastK es i < (E es i).key ∧ -1 ≤ lastK es i := by
  have hr := book_right h
  have h1 := hr i hi
  unfold lastK
  split
  · have := Ent.key_ok h1.1; omega
  · refine ⟨h1.2.1 (by omega), ?_⟩
    have := Ent.key_ok (hr (i - 1) (by omega)).1
    omega
theorem enc_step {es : List Ent} {i : Nat} {out R : List Int} (hi : i < es.length) (h : out ++ encB (lastK es i) (es.drop i) = R) :
    (((out ++ varN ((E es i).key - lastK es i - 1).toNat) ++ varN (E es i).a.toNat) ++ varN (E es i).d.toNat) ++ encB (lastK es (i + 1)) (es.drop (i + 1)) = R := by
  rw [← h, dropE' hi, encB, encE, lastK_succ]
  simp only [List.append_assoc]
theorem enc_end {es : List Ent} {i : Nat} {out R : List Int} (hi : es.length ≤ i) (h : out ++ encB (lastK es i) (es.drop i) = R) : out = R := by
  rw [List.drop_of_length_le hi, encB, List.append_nil] at h
  exact h
end Go.Proofs.YtccoljbnddfmpaaGreatDoor

namespace Go.Proofs.YtccoljbnddfmpaaGreatDoor
open Go.RowKit
set_option maxHeartbeats 400000 in
set_option maxRecDepth 100000 in
theorem l1Var_any (n0 : Nat) (w : World) (hn : n0 ≤ 1000000000) :
    Calls Tryz.prog 102 #[.int .i64 n0] w (NewInts (varN n0) w) := by
  go_enter Tryz.func102, Tryz.ntmps102
  go_wp2
  have HN := Lib.hid hn; clear hn
  go_loopw [0, 3] (fun sn sv wr => ∃ (m : Nat) (acc : List Int), sn = .int .i64 m ∧ Own w.heap.size wr sv acc ∧ Below w.heap.size w wr ∧ acc.length + m ≤ n0 ∧ Hid (acc ++ varN m = varN n0)) (fun sn _ _ => (intOf sn).toNat)
  case atStart => exact ⟨n0, [], rfl, own_empty w, (Below.refl _ _).alloc (Nat.le_refl _) _, by simp, rfl⟩
  case round =>
    obtain ⟨m, acc, rfl, hown, hbel, hle, hs⟩ := hrel
    have hsz := hbel.size
    have hm : m ≤ 1000000000 := by have := HN.out; omega
    by_cases hlt : m < 128
    · have hs' := hs.out
      rw [varN_small hlt] at hs'
      have HS := Lib.hid hs'; clear hs'
      go_wp2_with (at_builtin; refine append_one rfl _ _ rfl w.heap.size _ acc rfl rfl hown hsz (by have := HN.out; omega) ?_; intro v' w' hown' hbel')
      go_ret
      exact ⟨_, rfl, by rw [← HS.out]; exact hown', hbel.trans hbel'⟩
    · have hs' := hs.out
      rw [varN_big hlt] at hs'
      have HS := Lib.hid hs'; clear hs'
      go_wp2_with (at_builtin; refine append_one rfl _ _ rfl w.heap.size _ acc rfl rfl hown hsz (by have := HN.out; omega) ?_; intro v' w' hown' hbel')
      go_roundw
      case rel => exact ⟨m / 128, _, by go_num, hown', hbel.trans hbel', by simp; omega, by rw [Hid, ← HS.out]; simp⟩
      case measure => simp [intOf]; omega
end Go.Proofs.YtccoljbnddfmpaaGreatDoor

namespace Go.Proofs.YtccoljbnddfmpaaGreatDoor
open Go.RowKit
set_option linter.unusedSimpArgs false in
set_option maxHeartbeats 2000000 in
set_option maxRecDepth 100000 in
theorem l11Encoded_any (B : Nat) (ao : Option Addr) (n cap : Nat) (es : List Ent) (w : World) (hx : Ents B w ao n cap es) (hB : B ≤ w.heap.size) (hok : bookOk es = true) :
    Calls Tryz.prog 104 #[.slice ao n cap] w (NewInts (enc es) w) := by
  have hx0 := hx.hlen; have hx1 := hx.hcap; have hx2 := hx.hmax
  unfold maxLen at hx2
  subst hx0
  have hn20 := book_len hok
  have hlenR := enc_len hok
  have hbyR := enc_bytes es
  have hup := fun i (hi : i < es.length) => lastK_up hok hi
  have hall := book_all hok
  obtain ⟨R, hR⟩ : ∃ R, enc es = R := ⟨_, rfl⟩
  rw [hR] at hlenR hbyR
  have hin0 : varN es.length ++ encB (lastK es 0) (es.drop 0) = R := by rw [← hR]; rfl
  have HR := Lib.hid hR; have HBY := Lib.hid hbyR; have HUP := Lib.hid hup; have HALL := Lib.hid hall; have HIN0 := Lib.hid hin0
  clear hR hbyR hup hall hin0
  have hV := fun (m : Nat) (hm : m ≤ 1000000000) w => l1Var_any m w hm
  have HV := Lib.hid hV; clear hV
  have hK := fun (x : Ent) w => specKeyOf_any x.o x.s x.a x.d w
  have hkE : ∀ x : Ent, keyOf x.o x.s x.a x.d = x.key := fun _ => rfl
  simp only [hkE] at hK
  have HK := Lib.hid hK; clear hK hkE
  have HW : Hid (∀ (v : Nat), AllI64 (varN v)) := Lib.hid (fun v x hx => by have := varN_bytes v x hx; unfold I64; omega)
  have HLEN : Hid (∀ q p : List Int, q ++ p = R → q.length ≤ 183) := Lib.hid (fun q p h => by rw [← h, List.length_append] at hlenR; omega)
  clear hlenR
  have hv0 := HV.out es.length (by omega) w
  go_enter Tryz.func104, Tryz.ntmps104
  go_wp2_with fail
  refine hv0.mono ?_
  rintro e w1 ⟨v1, rfl, hown1, hb1⟩
  clear hv0
  go_wp2
  go_loopw [3, 4, 5] (fun s3 s4 s5 wr => ∃ (i : Nat) (out : List Int), i ≤ es.length ∧ s5 = .int .i64 i ∧ s4 = .int .i64 (lastK es i) ∧ Hid (out ++ encB (lastK es i) (es.drop i) = R) ∧ Own w.heap.size wr s3 out ∧ Below w.heap.size w wr) (fun _ _ s5 _ => es.length - (intOf s5).toNat)
  case atStart => exact ⟨0, _, Nat.zero_le _, rfl, rfl, HIN0, hown1, hb1⟩
  case round =>
    obtain ⟨i, out, hi, rfl, rfl, hin, hown, hbel⟩ := hrel
    have hsz := hbel.size
    by_cases hlt : i < es.length
    · have hnext := enc_step hlt hin.out
      have hup := HUP.out i hlt
      have hok1 := HALL.out _ (by rw [E_get hlt]; exact List.getElem_mem _ : E es i ∈ es)
      have hg := Ent.ok_all hok1
      have hky := Ent.key_ok hok1
      have hxw := hx.at i hlt
      obtain ⟨b, off, rfl, hbB, hc⟩ := hxw
      have g1 := hc i hlt
      clear hc
      have hls : lastK es (i + 1) = (E es i).key := lastK_succ es i
      obtain ⟨lk2, hlk2⟩ : ∃ l, lastK es (i + 1) = l := ⟨_, rfl⟩
      rw [hlk2] at hnext hls
      have HL2 := Lib.hid hlk2; clear hlk2
      generalize E es i = x at hnext hup hg hky g1 hls
      generalize lastK es i = lk at hnext hup hin
      obtain ⟨u, hu⟩ : ∃ u : Nat, x.key - lk - 1 = u := ⟨(x.key - lk - 1).toNat, by omega⟩
      obtain ⟨ua, hua⟩ : ∃ u : Nat, x.a = u := ⟨x.a.toNat, by omega⟩
      obtain ⟨ud, hud⟩ : ∃ u : Nat, x.d = u := ⟨x.d.toNat, by omega⟩
      rw [hu, hua, hud, Int.toNat_natCast, Int.toNat_natCast, Int.toNat_natCast] at hnext
      have hl3 := HLEN.out _ _ hnext
      simp only [List.length_append] at hl3
      have HNEXT := Lib.hid hnext; clear hnext hin
      have e1 : IntKind.i64.wrap (x.key - lk) = x.key - lk := by rw [IntKind.wrap_i64]; omega
      have e2 : IntKind.i64.wrap (x.key - lk - 1) = u := by rw [IntKind.wrap_i64]; omega
      have hu1 : u ≤ 1000000000 := by omega
      have hua1 : ua ≤ 1000000000 := by omega
      have hud1 : ud ≤ 1000000000 := by omega
      have HV1 := Lib.hid (HV.out u hu1); have HV2 := Lib.hid (HV.out ua hua1); have HV3 := Lib.hid (HV.out ud hud1)
      have hW1 := HW.out u; have hW2 := HW.out ua; have hW3 := HW.out ud
      generalize varN u = q1 at HV1 hW1 hl3 HNEXT
      generalize varN ua = q2 at HV2 hW2 hl3 HNEXT
      generalize varN ud = q3 at HV3 hW3 hl3 HNEXT
      have HLS := Lib.hid hls; clear hls
      have hXX : ∀ w', Below w.heap.size w w' → Ent4 w' b (off + i * 4) x := fun w' h => g1.below h (by omega)
      have HX := Lib.hid hXX; clear hXX
      have HUA := Lib.hid hua; have HUD := Lib.hid hud
      clear hg hky hup hu hua hud g1
      obtain ⟨c0, c1, c2, c3⟩ := HX.out wr hbel
      have i1 : (0 : Int) ≤ i := by omega
      have i2 : (i : Int) < es.length := by omega
      go_wp2_with fail
      refine (HK.out x _).mono ?_
      rintro e w2 ⟨rfl, hb2⟩
      have hB2 := hbel.trans (hb2.mono hsz)
      have ho2 := hown.below hb2 (Nat.le_refl _)
      go_wp2_with fail
      refine (HV1.out _).mono ?_
      rintro e w3 ⟨v3, rfl, hn3, hb3⟩
      have hB3 := hB2.trans (hb3.mono hB2.size)
      have ho3 := ho2.below hb3 (Nat.le_refl _)
      obtain ⟨a3, c3', rfl, hi3, hz3⟩ := hn3.ints' hW1
      have hs3 := hB3.size
      go_upto_region 7 with (at_builtin; refine append_all rfl _ _ rfl w.heap.size w3.heap.size _ out q1 a3 q1.length c3' rfl rfl hi3 hz3 ho3 hs3 (by omega) ?_; intro v4 w4 ho4 hb4)
      have hB4 := hB3.trans hb4
      clear c0 c1 c2 c3 hi3 hz3 ho3 hb3 hn3 ho2 hb2
      obtain ⟨c0, c1, c2, c3⟩ := HX.out w4 hB4
      rw [HUA.out] at c2
      have hs4 := hB4.size
      go_wp2_with fail
      refine (HV2.out _).mono ?_
      rintro e w5 ⟨v5, rfl, hn5, hb5⟩
      have hB5 := hB4.trans (hb5.mono hs4)
      have ho5 := ho4.below hb5 (Nat.le_refl _)
      obtain ⟨a5, c5, rfl, hi5, hz5⟩ := hn5.ints' hW2
      have hs5 := hB5.size
      go_upto_region 8 with (at_builtin; refine append_all rfl _ _ rfl w.heap.size w5.heap.size _ (out ++ q1) q2 a5 q2.length c5 rfl rfl hi5 hz5 ho5 hs5 (by rw [List.length_append]; omega) ?_; intro v6 w6 ho6 hb6)
      have hB6 := hB5.trans hb6
      clear c0 c1 c2 c3 hi5 hz5 ho5 hb5 hn5 ho4 hb4
      obtain ⟨c0, c1, c2, c3⟩ := HX.out w6 hB6
      rw [HUD.out] at c3
      have hs6 := hB6.size
      go_wp2_with fail
      refine (HV3.out _).mono ?_
      rintro e w7 ⟨v7, rfl, hn7, hb7⟩
      have hB7 := hB6.trans (hb7.mono hs6)
      have ho7 := ho6.below hb7 (Nat.le_refl _)
      obtain ⟨a7, c7, rfl, hi7, hz7⟩ := hn7.ints' hW3
      have hs7 := hB7.size
      go_upto_region 9 with (at_builtin; refine append_all rfl _ _ rfl w.heap.size w7.heap.size _ (out ++ q1 ++ q2) q3 a7 q3.length c7 rfl rfl hi7 hz7 ho7 hs7 (by rw [List.length_append, List.length_append]; omega) ?_; intro v8 w8 ho8 hb8)
      have hB8 := hB7.trans hb8
      clear c0 c1 c2 c3 hi7 hz7 ho7 hb7 hn7 ho6 hb6
      obtain ⟨c0, c1, c2, c3⟩ := HX.out w8 hB8
      go_wp2_with fail
      refine (HK.out x _).mono ?_
      rintro e w9 ⟨rfl, hb9⟩
      have hB9 := hB8.trans (hb9.mono hB8.size)
      have ho9 := ho8.below hb9 (Nat.le_refl _)
      clear c0 c1 c2 c3
      go_wp2
      go_roundw
      case rel => exact ⟨i + 1, _, by omega, by go_num, by rw [HL2.out, HLS.out], by rw [HL2.out]; exact HNEXT, ho9, hB9⟩
      case measure => simp [intOf]; omega
    · have hr := enc_end (by omega) hin.out
      have ek : i = es.length := by omega
      subst ek
      go_wp2
      go_ret
      exact ⟨_, rfl, by rw [HR.out, ← hr]; exact hown, hbel⟩
end Go.Proofs.YtccoljbnddfmpaaGreatDoor

namespace Go.Proofs.YtccoljbnddfmpaaGreatDoor
open Go.RowKit
def vecB (vs : List Int) : List Int := vs.flatMap fun x => varN x.toNat
def bareL (f t : Int) (vs : List Int) (es : List Ent) : List Int := [92, f, t] ++ vecB vs ++ enc es
def sealed (f t : Int) (vs : List Int) (es : List Ent) : List Int := withSum (bareL f t vs es)
theorem vecB_step {vs : List Int} {i : Nat} {out R : List Int} (hi : i < vs.length) (h : out ++ vecB (vs.drop i) = R) : (out ++ varN (vs.getD i 0).toNat) ++ vecB (vs.drop (i + 1)) = R := by
  have e : vecB (vs.drop i) = varN (vs.getD i 0).toNat ++ vecB (vs.drop (i + 1)) := by
    rw [List.drop_eq_getElem_cons hi]
    unfold vecB
    rw [List.flatMap_cons]
    simp [List.getD, hi]
  rw [← h, e, List.append_assoc]
theorem vecB_end {vs : List Int} {i : Nat} {out R : List Int} (hi : vs.length ≤ i) (h : out ++ vecB (vs.drop i) = R) : out = R := by
  rw [List.drop_of_length_le hi] at h
  simpa [vecB] using h
theorem vecB_len {vs : List Int} (h : ∀ x ∈ vs, 0 ≤ x ∧ x ≤ 100000) : (vecB vs).length ≤ 3 * vs.length := by
  induction vs with
  | nil => simp [vecB]
  | cons x r ih =>
    have h1 := varN_short (m := x.toNat) (by have := h x (List.mem_cons_self ..); omega)
    have h2 := ih (fun y hy => h y (List.mem_cons_of_mem _ hy))
    unfold vecB at *
    rw [List.flatMap_cons, List.length_append, List.length_cons]
    omega
theorem vecB_bytes (vs : List Int) : ∀ x ∈ vecB vs, 0 ≤ x ∧ x ≤ 255 := by
  intro x hx
  obtain ⟨y, _, hy⟩ := List.mem_flatMap.1 hx
  exact varN_bytes _ x hy
theorem vec_mem {vs : List Int} (h : vecOk vs = true) : ∀ x ∈ vs, 0 ≤ x ∧ x ≤ 100000 := by
  intro x hx
  obtain ⟨i, hi, rfl⟩ := List.mem_iff_getElem.1 hx
  have h1 := vec_get h i (by have := vec_len h; omega)
  simpa [List.getD, hi] using h1
theorem letter_parts {f t : Int} {vs : List Int} {es : List Ent} (h : letterOk f t vs es = true) : (0 ≤ f ∧ f ≤ 3) ∧ (0 ≤ t ∧ t ≤ 3) ∧ f ≠ t ∧ vecOk vs = true ∧ bookOk es = true ∧ covers vs (vec es) = true := by
  simp only [letterOk, Bool.and_eq_true, inB, decide_eq_true_eq] at h
  obtain ⟨⟨⟨⟨⟨h1, h2⟩, h3⟩, h4⟩, h5⟩, h6⟩ := h
  exact ⟨h1, h2, by simpa using h3, h4, h5, h6⟩
theorem bareL_bytes {f t : Int} (hf : 0 ≤ f ∧ f ≤ 3) (ht : 0 ≤ t ∧ t ≤ 3) (vs : List Int) (es : List Ent) : ∀ x ∈ bareL f t vs es, 0 ≤ x ∧ x ≤ 255 := by
  intro x hx
  unfold bareL at hx
  rcases List.mem_append.1 hx with hx | hx
  · rcases List.mem_append.1 hx with hx | hx
    · simp at hx
      omega
    · exact vecB_bytes _ x hx
  · exact enc_bytes _ x hx
theorem bareL_len {f t : Int} {vs : List Int} {es : List Ent} (hv : vecOk vs = true) (hb : bookOk es = true) : (bareL f t vs es).length ≤ 198 := by
  have h1 := vecB_len (vec_mem hv)
  have h2 := enc_len hb
  have h3 := vec_len hv
  unfold bareL
  simp only [List.length_append, List.length_cons, List.length_nil]
  omega
theorem own_three (w : World) (a b c : Int) : Own w.heap.size (w.alloc (.cells #[.int .i64 a, .int .i64 b, .int .i64 c] 2)) (.slice (some ⟨w.heap.size, 0, none⟩) 3 3) [a, b, c] :=
  World.ownsRow_lit w #[.int .i64 a, .int .i64 b, .int .i64 c] 3 (Nat.le_refl _) (by unfold maxLen; omega) rfl
set_option linter.unusedSimpArgs false in
set_option maxHeartbeats 4000000 in
set_option maxRecDepth 100000 in
theorem l14Sealed_any (B : Nat) (f t : Int) (ao : Option Addr) (n cap : Nat) (vs : List Int) (bo : Option Addr) (m dap : Nat) (es : List Ent) (w : World) (hv : Ints B w ao n cap vs) (hx : Ents B w bo m dap es) (hB : B ≤ w.heap.size) (hf : 0 ≤ f ∧ f ≤ 3) (ht : 0 ≤ t ∧ t ≤ 3) (hvo : vecOk vs = true) (hbo : bookOk es = true) :
    Calls Tryz.prog 77 #[.agg #[.int .i64 f, .int .i64 t, .slice ao n cap, .slice bo m dap]] w (NewInts (sealed f t vs es) w) := by
  have hv0 := hv.hlen; have hv1 := hv.hcap; have hv2 := hv.hmax
  unfold maxLen at hv2
  have hl4 := vec_len hvo
  obtain rfl : n = 4 := by omega
  have HL4 := Lib.hid hl4; clear hl4 hv0
  have hget := fun i (hi : i < 4) => vec_get hvo i hi
  obtain ⟨wb, hwb⟩ : ∃ wb, wb = w.alloc (.cells #[.int .i64 f, .int .i64 t, .slice ao 4 cap, .slice bo m dap] 121) := ⟨_, rfl⟩
  obtain ⟨g, hg⟩ : ∃ g, g = w.heap.size := ⟨_, rfl⟩
  have hblk : Blk wb g 121 #[.int .i64 f, .int .i64 t, .slice ao 4 cap, .slice bo m dap] := by rw [hwb, hg]; exact Blk.new _ _ _
  have hb0 : Below w.heap.size w wb := by rw [hwb]; exact (Below.refl _ _).alloc (Nat.le_refl _) _
  have hs0 := hb0.size
  have hblt := hblk.lt
  have hDD : ∀ w', Below wb.heap.size wb w' → Blk w' g 121 #[.int .i64 f, .int .i64 t, .slice ao 4 cap, .slice bo m dap] := fun w' h => hblk.below h hblt
  have HD := Lib.hid hDD; clear hDD
  have HA : Hid (∀ w', Below wb.heap.size wb w' → Below w.heap.size w w') := Lib.hid (fun w' h => hb0.trans (h.mono hs0))
  have hE := fun w' (h : Below wb.heap.size wb w') => l11Encoded_any B bo m dap es w' (hx.below (HA.out w' h) hB (Nat.le_refl B)) (by have := (HA.out w' h).size; omega) hbo
  have hew : AllI64 (enc es) := fun x hx => by have := enc_bytes es x hx; unfold I64; omega
  have hbw : AllI64 (bareL f t vs es) := fun x hx => by have := bareL_bytes hf ht vs es x hx; unfold I64; omega
  have hbl := bareL_len (f := f) (t := t) hvo hbo
  have hbe : ([92, f, t] ++ vecB vs) ++ enc es = bareL f t vs es := rfl
  obtain ⟨R, hR⟩ : ∃ R, sealed f t vs es = R := ⟨_, rfl⟩
  rw [hR]
  unfold sealed at hR
  generalize bareL f t vs es = bl at hbw hbl hbe hR
  obtain ⟨Q, hQ⟩ : ∃ Q, [92, f, t] ++ vecB vs = Q := ⟨_, rfl⟩
  rw [hQ] at hbe
  have hin0 : [92, f, t] ++ vecB (vs.drop 0) = Q := hQ
  have HIN0 := Lib.hid hin0; clear hin0 hQ
  have HLEN : Hid (∀ q p : List Int, q ++ p = Q → q.length ≤ 198) := Lib.hid (fun q p h => by rw [← hbe, ← h, List.length_append, List.length_append] at hbl; omega)
  generalize enc es = en at hE hew hbe
  have HE := Lib.hid hE; have HEW := Lib.hid hew; have HBW := Lib.hid hbw; have HBE := Lib.hid hbe; have HR := Lib.hid hR; have HGET := Lib.hid hget
  have HW : Hid (∀ (v : Nat), AllI64 (varN v)) := Lib.hid (fun v x hx => by have := varN_bytes v x hx; unfold I64; omega)
  have hVr := fun (m : Nat) (hm : m ≤ 1000000000) w => l1Var_any m w hm
  have HV := Lib.hid hVr
  clear hE hew hbw hR hget hVr hx
  have d0 := hblk.cell 0; have d1 := hblk.cell 1; have d2 := hblk.cell 2; have d3 := hblk.cell 3
  have ho0 := own_three wb 92 f t
  have hb1 : Below wb.heap.size wb (wb.alloc (.cells #[.int .i64 92, .int .i64 f, .int .i64 t] 2)) := (Below.refl _ _).alloc (Nat.le_refl _) _
  go_enter Tryz.func77, Tryz.ntmps77
  go_upto_region 1 with fail
  rw [← hwb, ← hg]
  clear hwb hg
  go_wp2
  go_loopw [3, 4] (fun s3 s4 wr => ∃ (i : Nat) (out : List Int), i ≤ 4 ∧ s4 = .int .i64 i ∧ Hid (out ++ vecB (vs.drop i) = Q) ∧ Own wb.heap.size wr s3 out ∧ Below wb.heap.size wb wr) (fun _ s4 _ => 4 - (intOf s4).toNat)
  case atStart => exact ⟨0, _, by omega, rfl, HIN0, ho0, hb1⟩
  case round =>
    obtain ⟨i, out, hi, rfl, hin, hown, hbel⟩ := hrel
    have hsz := hbel.size
    have hkr := HD.out wr hbel
    clear d0 d1 d2 d3
    have d2 := hkr.cell 2; have d3 := hkr.cell 3
    by_cases hlt : i < 4
    · have hil : i < vs.length := by rw [HL4.out]; exact hlt
      have hvr := hv.below (HA.out wr hbel) hB (Nat.le_refl B)
      obtain ⟨b, off, rfl, hbB, hc⟩ := hvr.at i hlt
      have c0 := hc i hlt
      have hnext := vecB_step hil hin.out
      have hgt := HGET.out i hlt
      generalize vs.getD i 0 = z at c0 hnext hgt
      obtain ⟨u, rfl⟩ : ∃ u : Nat, z = u := ⟨z.toNat, by omega⟩
      rw [Int.toNat_natCast] at hnext
      have hu1 : u ≤ 1000000000 := by omega
      have hvv := HV.out u hu1
      have hqw := HW.out u
      have hl3 := HLEN.out _ _ hnext
      rw [List.length_append] at hl3
      generalize varN u = q at hvv hqw hnext hl3
      have HNX := Lib.hid hnext; have HVV := Lib.hid hvv; clear hnext hvv hc hvr
      have i0 : (0 : Int) ≤ i := by omega
      have i1 : (i : Int) < 4 := by omega
      go_wp2_with fail
      refine (HVV.out _).mono ?_
      rintro e w3 ⟨v3, rfl, hn3, hb3⟩
      have hB3 := hbel.trans (hb3.mono hsz)
      have ho3 := hown.below hb3 (Nat.le_refl _)
      obtain ⟨a3, c3', rfl, hi3, hz3⟩ := hn3.ints' hqw
      have hs3 := hB3.size
      go_wp2_with (at_builtin; refine append_all rfl _ _ rfl wb.heap.size w3.heap.size _ out q a3 q.length c3' rfl rfl hi3 hz3 ho3 hs3 (by omega) ?_; intro v4 w4 ho4 hb4)
      go_roundw
      case rel => exact ⟨i + 1, _, by omega, by go_num, HNX, ho4, hB3.trans hb4⟩
      case measure => simp [intOf]; omega
    · have i1 : ¬ (i : Int) < (4 : Int) := by omega
      have hr := vecB_end (show vs.length ≤ i by rw [HL4.out]; omega) hin.out
      subst hr
      have hl3 := HLEN.out out [] (by simp)
      have hel : en.length ≤ 198 := by have := HBE.out; rw [← this, List.length_append] at hbl; omega
      go_wp2_with fail
      refine (HE.out _ hbel).mono ?_
      rintro e w3 ⟨v3, rfl, hn3, hb3⟩
      have hB3 := hbel.trans (hb3.mono hsz)
      have ho3 := hown.below hb3 (Nat.le_refl _)
      obtain ⟨a3, c3', rfl, hi3, hz3⟩ := hn3.ints' HEW.out
      have hs3 := hB3.size
      go_wp2_with (at_builtin; refine append_all rfl _ _ rfl wb.heap.size w3.heap.size _ out en a3 en.length c3' rfl rfl hi3 hz3 ho3 hs3 (by omega) ?_; intro v4 w4 ho4 hb4)
      rw [HBE.out] at ho4
      obtain ⟨a4, c4, rfl, hi4, hz4⟩ := ho4.ints' HBW.out
      have hB4 := hB3.trans hb4
      refine (specWithSum_any _ _ _ _ _ _ hi4 (Nat.le_refl _) hz4 (by omega)).mono ?_
      rintro e w5 ⟨v5, rfl, hn5, hb5⟩
      go_wp2_with fail
      go_ret
      rw [← HR.out]
      exact ⟨_, rfl, hn5.mono ((HA.out _ hB4).size), (HA.out _ hB4).trans (hb5.mono (HA.out _ hB4).size)⟩
end Go.Proofs.YtccoljbnddfmpaaGreatDoor

namespace Go.Proofs.YtccoljbnddfmpaaGreatDoor
def numsN (xs : List Int) : Nat → Nat → Option (List Int × Nat)
  | 0, p => some ([], p)
  | k + 1, p => match scan xs 5 p 0 1 with
    | none => none
    | some (a, e) => (numsN xs k e).map fun r => (a :: r.1, r.2)
def nmL (o : Option (List Int × Nat)) : List Int := match o with | some r => r.1 | none => []
def nmE (o : Option (List Int × Nat)) : Int := match o with | some r => r.2 | none => 0
theorem nums_zero {xs : List Int} {k p : Nat} {out : List Int} {R : Option (List Int × Nat)} (hk : k = 0) (h : R = (numsN xs k p).map fun r => (out ++ r.1, r.2)) : R = some (out, p) := by
  subst hk
  rw [h, numsN]
  simp
theorem nums_none {xs : List Int} {k p : Nat} {out : List Int} {R : Option (List Int × Nat)} (hk : 0 < k) (hs : scan xs 5 p 0 1 = none) (h : R = (numsN xs k p).map fun r => (out ++ r.1, r.2)) : R = none := by
  obtain ⟨k, rfl⟩ : ∃ j, k = j + 1 := ⟨k - 1, by omega⟩
  rw [h, numsN, hs]
  rfl
theorem nums_some {xs : List Int} {k p e : Nat} {a : Int} {out : List Int} {R : Option (List Int × Nat)} (hk : 0 < k) (hs : scan xs 5 p 0 1 = some (a, e)) (h : R = (numsN xs k p).map fun r => (out ++ r.1, r.2)) : R = (numsN xs (k - 1) e).map fun r => ((out ++ [a]) ++ r.1, r.2) := by
  obtain ⟨k, rfl⟩ : ∃ j, k = j + 1 := ⟨k - 1, by omega⟩
  rw [h, numsN, hs, Nat.add_sub_cancel]
  simp only [Option.map_map]
  congr 1
  funext r
  simp
theorem scan_fits {xs : List Int} (hb : ∀ x ∈ xs, 0 ≤ x ∧ x ≤ 255) {p e : Nat} {a : Int} (h : scan xs 5 p 0 1 = some (a, e)) : 0 ≤ a ∧ a ≤ 1000000000 ∧ p < e ∧ e ≤ xs.length := by
  obtain ⟨m, h1, _, h3, h4, h5, _⟩ := scan_spec xs hb 5 p 0 1 a e (by omega) h
  omega
theorem nums_fits {xs : List Int} (hb : ∀ x ∈ xs, 0 ≤ x ∧ x ≤ 255) : ∀ (k p : Nat) (r : List Int × Nat), numsN xs k p = some r → r.1.length = k ∧ (∀ x ∈ r.1, 0 ≤ x ∧ x ≤ 1000000000) ∧ p + k ≤ r.2 ∧ (p ≤ xs.length → r.2 ≤ xs.length) := by
  intro k
  induction k with
  | zero =>
    intro p r h
    simp only [numsN, Option.some.injEq] at h
    subst h
    exact ⟨rfl, (fun x hx => by cases hx), Nat.le_refl _, id⟩
  | succ k ih =>
    intro p r h
    rw [numsN] at h
    cases hs : scan xs 5 p 0 1 with
    | none => rw [hs] at h; cases h
    | some q =>
      obtain ⟨a, e⟩ := q
      rw [hs] at h
      simp only at h
      obtain ⟨r', hr', rfl⟩ := Option.map_eq_some_iff.1 h
      obtain ⟨h1, h2, h3, h4⟩ := ih e r' hr'
      obtain ⟨s1, s2, s3, s4⟩ := scan_fits hb hs
      refine ⟨by simp [h1], fun x hx => ?_, by show p + (k + 1) ≤ r'.2; omega, fun _ => h4 s4⟩
      rcases List.mem_cons.1 hx with rfl | hx
      · exact ⟨s1, s2⟩
      · exact h2 x hx
def readE (xs : List Int) : Nat → Int → Nat → Option (List Ent × Nat)
  | 0, _, p => some ([], p)
  | k + 1, last, p => match numsN xs 3 p with
    | none => none
    | some (l, e) => if 20 < l.getD 0 0 then none else (readE xs k (last + 1 + l.getD 0 0) e).map fun r => (⟨(last + 1 + l.getD 0 0) / 5, (last + 1 + l.getD 0 0) % 5, l.getD 1 0, l.getD 2 0⟩ :: r.1, r.2)
def readB (xs : List Int) (p : Nat) : Option (List Ent × Nat) := match numsN xs 1 p with
  | none => none
  | some (l, e) => if 20 < l.getD 0 0 then none else match readE xs (l.getD 0 0).toNat (-1) e with
    | none => none
    | some r => if bookOk r.1 = true then some r else none
def rdL (o : Option (List Ent × Nat)) : List Ent := match o with | some r => r.1 | none => []
def rdE (o : Option (List Ent × Nat)) : Int := match o with | some r => r.2 | none => 0
theorem readE_zero {xs : List Int} {k p : Nat} {last : Int} {out : List Ent} {R : Option (List Ent × Nat)} (hk : k = 0) (h : R = (readE xs k last p).map fun r => (out ++ r.1, r.2)) : R = some (out, p) := by
  subst hk
  rw [h, readE]
  simp
theorem readE_none {xs : List Int} {k p : Nat} {last : Int} {out : List Ent} {R : Option (List Ent × Nat)} (hk : 0 < k) (hs : numsN xs 3 p = none) (h : R = (readE xs k last p).map fun r => (out ++ r.1, r.2)) : R = none := by
  obtain ⟨k, rfl⟩ : ∃ j, k = j + 1 := ⟨k - 1, by omega⟩
  rw [h, readE, hs]
  rfl
theorem readE_big {xs : List Int} {k p e : Nat} {last : Int} {l : List Int} {out : List Ent} {R : Option (List Ent × Nat)} (hk : 0 < k) (hs : numsN xs 3 p = some (l, e)) (hb : 20 < l.getD 0 0) (h : R = (readE xs k last p).map fun r => (out ++ r.1, r.2)) : R = none := by
  obtain ⟨k, rfl⟩ : ∃ j, k = j + 1 := ⟨k - 1, by omega⟩
  rw [h, readE, hs]
  simp only
  rw [if_pos hb]
  rfl
theorem readE_some {xs : List Int} {k p e : Nat} {last : Int} {l : List Int} {out : List Ent} {R : Option (List Ent × Nat)} (hk : 0 < k) (hs : numsN xs 3 p = some (l, e)) (hb : ¬ 20 < l.getD 0 0) (h : R = (readE xs k last p).map fun r => (out ++ r.1, r.2)) :
    R = (readE xs (k - 1) (last + 1 + l.getD 0 0) e).map fun r => ((out ++ [⟨(last + 1 + l.getD 0 0) / 5, (last + 1 + l.getD 0 0) % 5, l.getD 1 0, l.getD 2 0⟩]) ++ r.1, r.2) := by
  obtain ⟨k, rfl⟩ : ∃ j, k = j + 1 := ⟨k - 1, by omega⟩
  rw [h, readE, hs, Nat.add_sub_cancel]
  simp only
  rw [if_neg hb, Option.map_map]
  congr 1
  funext r
  simp
theorem readB_none {xs : List Int} {p : Nat} (h : numsN xs 1 p = none) : readB xs p = none := by rw [readB, h]
theorem readB_big {xs : List Int} {p e : Nat} {l : List Int} (h : numsN xs 1 p = some (l, e)) (hb : 20 < l.getD 0 0) : readB xs p = none := by
  rw [readB, h]
  simp only
  rw [if_pos hb]
theorem readB_some {xs : List Int} {p e : Nat} {l : List Int} (h : numsN xs 1 p = some (l, e)) (hb : ¬ 20 < l.getD 0 0) : readB xs p = match readE xs (l.getD 0 0).toNat (-1) e with
    | none => none
    | some r => if bookOk r.1 = true then some r else none := by
  rw [readB, h]
  simp only
  rw [if_neg hb]
theorem readB_book {xs : List Int} {p : Nat} {r : List Ent × Nat} (h : readB xs p = some r) : bookOk r.1 = true := by
  unfold readB at h
  split at h
  · cases h
  · split at h
    · cases h
    · split at h
      · cases h
      · split at h
        · rename_i hb
          cases h
          exact hb
        · cases h
theorem rdL_wf (xs : List Int) (p : Nat) : AllE (rdL (readB xs p)) := by
  cases h : readB xs p with
  | none => intro e he; cases he
  | some r => exact book_wf (readB_book h)
end Go.Proofs.YtccoljbnddfmpaaGreatDoor

namespace Go.Proofs.YtccoljbnddfmpaaGreatDoor
open Go.RowKit
structure Cur (w : World) (g : Nat) (ao : Option Addr) (n cap : Nat) (at' : Int) : Prop where
  list : w.cell? ⟨g, 0, none⟩ = some (.slice ao n cap)
  place : w.cell? ⟨g, 1, none⟩ = some (.int .i64 at')
  free : w.frozen? ⟨g, 1, none⟩ = false
theorem Cur.drewN {w : World} {g : Nat} {ao : Option Addr} {n cap : Nat} {p : Int} (h : Cur w g ao n cap p) (k : Nat) : Cur (w.drewN k) g ao n cap p := ⟨h.list, h.place, h.free⟩
theorem Cur.moved {w : World} {g : Nat} {ao : Option Addr} {n cap : Nat} {p : Int} (h : Cur w g ao n cap p) (q : Int) : Cur (w.setCell ⟨g, 1, none⟩ (.int .i64 q)) g ao n cap q := by
  have h1 := h.list; have h2 := h.place; have h3 := h.free
  refine ⟨?_, ?_, ?_⟩
  · go_simp
  · go_simp
  · go_simp
end Go.Proofs.YtccoljbnddfmpaaGreatDoor

namespace Go.Proofs.YtccoljbnddfmpaaGreatDoor
open Go.RowKit
end Go.Proofs.YtccoljbnddfmpaaGreatDoor
