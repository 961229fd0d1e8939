/- Texts of this claim, put together. -/
import Derived.Test.YtoniahfdjhhalaaGreatP1
import Derived.Test.YtoniahfdjhhalaaGreatP4
import Derived.Test.YtoniahfdjhhalaaGreatP6
import Derived.Deep.DeepCutAuto
import Derived.Deep.WholeRow

namespace Go.Proofs.YtoniahfdjhhalaaGreat
open Go.RowKit
theorem dropE' {es : List Ent} {k : Nat} (h : k < es.length) : es.drop k = E es k :: es.drop (k + 1) := by
  rw [List.drop_eq_getElem_cons h, E_get h]
theorem takeE {es : List Ent} {k : Nat} (h : k < es.length) : es.take (k + 1) = es.take k ++ [E es k] := by
  rw [List.take_succ_eq_append_getElem h, E_get h]
def NewEs (es : List Ent) (w : World) (e : Ending) (w' : World) : Prop := ∃ v, e = .returned v ∧ OwnE w.heap.size w' v es ∧ Below w.heap.size w w'
theorem book_wf {es : List Ent} (h : bookOk es = true) : AllE es := by
  intro e he
  obtain ⟨i, hi, rfl⟩ := List.mem_iff_getElem.1 he
  have h1 := Ent.ok_all (book_right h i hi).1
  rw [E_get hi] at h1
  unfold Ent.wf I64
  omega
def MaybeEs (o : Option (List Ent)) (w : World) (e : Ending) (w' : World) : Prop := ∃ v, e = .returned (.tuple #[v, .bool o.isSome]) ∧ OwnE w.heap.size w' v (o.getD []) ∧ Below w.heap.size w w'
theorem maybe_none {o : Option (List Ent)} {w w1 : World} (h : o = none) (hb : Below w.heap.size w w1) : MaybeEs o w (.returned (.tuple #[.slice (some ⟨w1.heap.size, 0, none⟩) 0 0, .bool false])) (w1.alloc (.cells #[] 47)) := by
  subst h
  exact ⟨_, rfl, (ownE_empty w1).mono hb.size, hb.alloc hb.size _⟩
theorem maybe_nil {o : Option (List Ent)} {w w1 : World} (h : o = none) (hb : Below w.heap.size w w1) : MaybeEs o w (.returned (.tuple #[.slice none 0 0, .bool false])) w1 := by
  subst h
  exact ⟨_, rfl, ownE_nil _ _, hb⟩
theorem OwnE.keeps {base g : Nat} {w w' : World} {v : Value} {xs : List Ent} (h : OwnE base w v xs) (hb : Keeps g w w') (hg : g < base) : OwnE base w' v xs := by
  refine World.ownsRow.kept h hb ?_
  cases hv : v.ownBlock with
  | none => exact .inl rfl
  | some k =>
    right
    intro e
    have h1 := (World.ownsRow.lt h k hv).1
    have h2 : k = g := Option.some.inj e
    omega
end Go.Proofs.YtoniahfdjhhalaaGreat

namespace Go.Proofs.YtoniahfdjhhalaaGreat
theorem take_drop_cons (xs : List Int) (i k : Nat) (hi : i < xs.length) (hk : i < k) : (xs.drop i).take (k - i) = xs.getD i 0 :: (xs.drop (i + 1)).take (k - (i + 1)) := by
  rw [List.drop_eq_getElem_cons hi, show k - i = (k - (i + 1)) + 1 by omega, List.take_succ_cons]
  simp [List.getD, hi]
theorem scan_spec (xs : List Int) (hb : ∀ x ∈ xs, 0 ≤ x ∧ x ≤ 255) (f : Nat) : ∀ (i : Nat) (n u a : Int) (k : Nat), 1 ≤ u → scan xs f i n u = some (a, k) →
    ∃ m : Nat, a = n + m * u ∧ varN m = (xs.drop i).take (k - i) ∧ i < k ∧ k ≤ xs.length ∧ a ≤ 1000000000 ∧ (1 < u → 0 < m) := by
  induction f with
  | zero => intro i n u a k _ h; cases h
  | succ f ih =>
    intro i n u a k hu h
    rw [scan] at h
    by_cases hi : i < xs.length
    · have hx : 0 ≤ xs.getD i 0 ∧ xs.getD i 0 ≤ 255 := by
        have e : xs.getD i 0 = xs[i] := by simp [List.getD, hi]
        rw [e]; exact hb _ (List.getElem_mem _)
      have htd := fun k hk => take_drop_cons xs i k hi hk
      rw [if_pos hi] at h
      generalize xs.getD i 0 = b at h hx htd
      by_cases hb1 : b < 128
      · rw [if_pos hb1] at h
        split at h
        · cases h
        · rename_i hc
          simp only [Option.some.injEq, Prod.mk.injEq] at h
          obtain ⟨rfl, rfl⟩ := h
          obtain ⟨m, rfl⟩ : ∃ m : Nat, b = m := ⟨b.toNat, by omega⟩
          have hm : (m : Int) % 128 = m := by omega
          refine ⟨m, by rw [hm], ?_, by omega, by omega, by omega, fun hu1 => by omega⟩
          rw [htd _ (by omega), varN_small (by omega)]
          simp
      · rw [if_neg hb1] at h
        obtain ⟨m, ha, hv, h1, h2, h3, h4⟩ := ih (i + 1) (n + b % 128 * u) (u * 128) a k (by omega) h
        have hm := h4 (by omega)
        refine ⟨(b % 128).toNat + 128 * m, ?_, ?_, by omega, h2, h3, fun _ => by omega⟩
        · rw [ha]
          have e : (((b % 128).toNat + 128 * m : Nat) : Int) = b % 128 + 128 * m := by omega
          rw [e, Int.add_mul, Int.add_assoc, Int.mul_comm u 128, ← Int.mul_assoc, Int.mul_comm (m : Int) 128]
        · rw [varN_big (by omega), htd k (by omega)]
          have e1 : ((b % 128).toNat + 128 * m) / 128 = m := by omega
          rw [e1, hv]
          congr 1
          omega
    · rw [if_neg hi] at h
      cases h
theorem varN_fuel (f : Nat) : ∀ m : Nat, m < 128 ^ (f + 1) → (varN m).length ≤ f + 1 := by
  induction f with
  | zero => intro m h; rw [varN_small (by omega)]; simp
  | succ f ih =>
    intro m h
    by_cases hm : m < 128
    · rw [varN_small hm]; simp
    · rw [varN_big hm, List.length_cons]
      have := ih (m / 128) (by rw [Nat.pow_succ] at h; omega)
      omega
theorem getD_mid (pre post : List Int) (x : Int) : (pre ++ x :: post).getD pre.length 0 = x := by
  simp [List.getD]
theorem scan_write (m : Nat) : ∀ (pre post : List Int) (f : Nat) (n u : Int), 1 ≤ u → (varN m).length ≤ f → n + m * u ≤ 1000000000 → (1 < u → 0 < m) →
    scan (pre ++ (varN m ++ post)) f pre.length n u = some (n + m * u, pre.length + (varN m).length) := by
  induction m using Nat.strongRecOn with
  | _ m ih =>
    intro pre post f n u hu hf ha hm
    by_cases h : m < 128
    · rw [varN_small h] at hf ⊢
      simp only [List.length_cons, List.length_nil] at hf
      obtain ⟨f, rfl⟩ : ∃ f', f = f' + 1 := ⟨f - 1, by omega⟩
      have hg : (pre ++ ([(m : Int)] ++ post)).getD pre.length 0 = m := getD_mid pre post m
      have hmm : (m : Int) % 128 = m := by omega
      rw [scan_good (by simp) (by rw [hg]; omega) (by rw [hg, hmm]; omega), hg, hmm]
      rfl
    · rw [varN_big h] at hf ⊢
      simp only [List.length_cons] at hf
      obtain ⟨f, rfl⟩ : ∃ f', f = f' + 1 := ⟨f - 1, by omega⟩
      have hg : (pre ++ ((((m : Int) % 128 + 128) :: varN (m / 128)) ++ post)).getD pre.length 0 = (m : Int) % 128 + 128 := getD_mid pre _ _
      rw [scan_more (by simp) (by rw [hg]; omega), hg]
      have hb : ((m : Int) % 128 + 128) % 128 = (m : Int) % 128 := by omega
      have hq : ((m / 128 : Nat) : Int) = (m : Int) / 128 := by omega
      have e : n + (m : Int) % 128 * u + ((m / 128 : Nat) : Int) * (u * 128) = n + m * u := by
        have hd : (m : Int) = (m : Int) % 128 + 128 * ((m / 128 : Nat) : Int) := by omega
        generalize ((m / 128 : Nat) : Int) = q at hd
        generalize (m : Int) % 128 = r at hd
        rw [hd, Int.add_mul, Int.add_assoc, Int.mul_comm u 128, ← Int.mul_assoc, Int.mul_comm q 128]
      have hr := ih (m / 128) (by omega) (pre ++ [(m : Int) % 128 + 128]) post f (n + (m : Int) % 128 * u) (u * 128) (by omega) (by omega) (by rw [e]; exact ha) (fun _ => by omega)
      rw [e] at hr
      rw [hb]
      rw [show pre ++ (((m : Int) % 128 + 128) :: varN (m / 128) ++ post) = pre ++ [(m : Int) % 128 + 128] ++ (varN (m / 128) ++ post) by simp]
      rw [show pre.length + 1 = (pre ++ [(m : Int) % 128 + 128]).length by simp, hr]
      simp
      omega
def encE (last : Int) (e : Ent) : List Int := varN (e.key - last - 1).toNat ++ varN e.a.toNat ++ varN e.d.toNat
def encB (last : Int) : List Ent → List Int
  | [] => []
  | e :: r => encE last e ++ encB e.key r
def enc (es : List Ent) : List Int := varN es.length ++ encB (-1) es
theorem varN_short {m : Nat} (h : m < 2097152) : (varN m).length ≤ 3 := varN_fuel 2 m (by omega)
theorem encE_len {last : Int} {e : Ent} (h : e.ok = true) (hl : -1 ≤ last) : (encE last e).length ≤ 9 := by
  have h1 := Ent.ok_all h
  have h2 := Ent.key_ok h
  have a1 := varN_short (m := (e.key - last - 1).toNat) (by omega)
  have a2 := varN_short (m := e.a.toNat) (by omega)
  have a3 := varN_short (m := e.d.toNat) (by omega)
  unfold encE
  simp only [List.length_append]
  omega
theorem encB_len {es : List Ent} (h : ∀ e ∈ es, e.ok = true) : ∀ last : Int, -1 ≤ last → (encB last es).length ≤ 9 * es.length := by
  induction es with
  | nil => intro _ _; simp [encB]
  | cons e r ih =>
    intro last hl
    have he := h e (List.mem_cons_self ..)
    have h1 := encE_len he hl
    have h2 := ih (fun x hx => h x (List.mem_cons_of_mem _ hx)) e.key (by have := Ent.key_ok he; omega)
    rw [encB, List.length_append, List.length_cons]
    omega
theorem book_all {es : List Ent} (h : bookOk es = true) : ∀ e ∈ es, e.ok = true := fun e he => by
  obtain ⟨i, hi, rfl⟩ := List.mem_iff_getElem.1 he
  have := (book_right h i hi).1
  rwa [E_get hi] at this
theorem enc_len {es : List Ent} (h : bookOk es = true) : (enc es).length ≤ 183 := by
  have h1 := book_len h
  have h2 := encB_len (book_all h) (-1) (by omega)
  have h3 := varN_short (m := es.length) (by omega)
  unfold enc
  rw [List.length_append]
  omega
theorem encE_bytes (last : Int) (e : Ent) : ∀ x ∈ encE last e, 0 ≤ x ∧ x ≤ 255 := by
  intro x hx
  unfold encE at hx
  rcases List.mem_append.1 hx with hx | hx
  · rcases List.mem_append.1 hx with hx | hx
    · exact varN_bytes _ x hx
    · exact varN_bytes _ x hx
  · exact varN_bytes _ x hx
theorem encB_bytes (es : List Ent) : ∀ (last : Int) (x : Int), x ∈ encB last es → 0 ≤ x ∧ x ≤ 255 := by
  induction es with
  | nil => intro _ x hx; cases hx
  | cons e r ih =>
    intro last x hx
    rcases List.mem_append.1 hx with hx | hx
    · exact encE_bytes last e x hx
    · exact ih _ x hx
theorem enc_bytes (es : List Ent) : ∀ x ∈ enc es, 0 ≤ x ∧ x ≤ 255 := by
  intro x hx
  rcases List.mem_append.1 hx with hx | hx
  · exact varN_bytes _ x hx
  · exact encB_bytes es _ x hx
def lastK (es : List Ent) (i : Nat) : Int := if i = 0 then -1 else (E es (i - 1)).key
theorem lastK_succ (es : List Ent) (i : Nat) : lastK es (i + 1) = (E es i).key := by simp [lastK]
theorem lastK_up {es : List Ent} (h : bookOk es = true) {i : Nat} (hi : i < es.length) : lastK es i < (E es i).key ∧ -1 ≤ lastK es i := by
  have hr := book_right h
  have h1 := hr i hi
  unfold lastK
  split
  · have := Ent.key_ok h1.1; omega
  · refine ⟨h1.2.1 (by omega), ?_⟩
    have := Ent.key_ok (hr (i - 1) (by omega)).1
    omega
theorem enc_step {es : List Ent} {i : Nat} {out R : List Int} (hi : i < es.length) (h : out ++ encB (lastK es i) (es.drop i) = R) :
    (((out ++ varN ((E es i).key - lastK es i - 1).toNat) ++ varN (E es i).a.toNat) ++ varN (E es i).d.toNat) ++ encB (lastK es (i + 1)) (es.drop (i + 1)) = R := by
  rw [← h, dropE' hi, encB, encE, lastK_succ]
  simp only [List.append_assoc]
theorem enc_end {es : List Ent} {i : Nat} {out R : List Int} (hi : es.length ≤ i) (h : out ++ encB (lastK es i) (es.drop i) = R) : out = R := by
  rw [List.drop_of_length_le hi, encB, List.append_nil] at h
  exact h
end Go.Proofs.YtoniahfdjhhalaaGreat

namespace Go.Proofs.YtoniahfdjhhalaaGreat
open Go.RowKit
set_option maxHeartbeats 400000 in
theorem specBytesOk_any (B : Nat) (ao : Option Addr) (n cap : Nat) (xs : List Int) (w : World) (hx : Ints B w ao n cap xs) :
    Calls Tryz.prog 70 #[.slice ao n cap] w fun e w' => e = .returned (.bool (bytesOk xs)) ∧ w' = w := by
  have hx0 := hx.hlen; have hx1 := hx.hcap; have hx2 := hx.hmax
  unfold maxLen at hx2
  have HX := Lib.hid hx0
  clear hx0
  go_enter Tryz.func70, Tryz.ntmps70
  go_wp2
  go_loop [3] (fun i => ∃ k : Nat, k ≤ n ∧ i = .int .i64 k ∧ Hid (allBytes (xs.take k) = true)) (fun i => n - (intOf i).toNat)
  case atStart => exact ⟨0, Nat.zero_le _, rfl, rfl⟩
  case round =>
    obtain ⟨k, hk, rfl, ht⟩ := hrel
    by_cases hlt : k < n
    · obtain ⟨b, off, rfl, hbB, hc⟩ := hx.at k hlt
      have g1 := hc k hlt
      clear hc
      have hs := allBytes_snoc xs k (by have := HX.out; omega)
      rw [ht.out] at hs
      have hno := bytesOk_no xs k (by have := HX.out; omega)
      generalize xs.getD k 0 = x at g1 hs hno
      have HS' := Lib.hid hs; clear hs
      have HNO' := Lib.hid hno; clear hno
      by_cases h0 : inB x 0 255 = true
      · go_wp2_with (go_at_call 47; refine (l1In_any _ _ _ _).mono ?_; rintro e w' ⟨rfl, rfl⟩)
        go_round
        case rel => exact ⟨k + 1, by omega, by go_num, by have := HS'.out; simp [inB] at h0; rw [decide_eq_true h0] at this; exact this⟩
        case measure => simp [intOf]; omega
      · have h0 : inB x 0 255 = false := by simpa using h0
        go_wp2_with (go_at_call 47; refine (l1In_any _ _ _ _).mono ?_; rintro e w' ⟨rfl, rfl⟩)
        go_ret
        exact ⟨ret_bool (HNO'.out (by simp [inB] at h0; omega)).symm, rfl⟩
    · have ek : k = n := by omega
      subst ek
      have h1 := ht.out
      rw [List.take_of_length_le (by have := HX.out; omega)] at h1
      have H1' := Lib.hid h1; clear h1
      by_cases hbig : k ≤ 4000
      · go_wp2
        go_ret
        exact ⟨ret_bool (by have := HX.out; have h2 := H1'.out; simp [bytesOk, h2]; omega), rfl⟩
      · go_wp2
        go_ret
        exact ⟨ret_bool (by have := HX.out; rw [bytesOk, decide_eq_false (by omega)]; simp; omega), rfl⟩
set_option maxHeartbeats 400000 in
set_option maxRecDepth 100000 in
theorem l1Var_any (n0 : Nat) (w : World) (hn : n0 ≤ 1000000000) :
    Calls Tryz.prog 78 #[.int .i64 n0] w (NewInts (varN n0) w) := by
  go_enter Tryz.func78, Tryz.ntmps78
  go_wp2
  have HN := Lib.hid hn; clear hn
  go_loopw [0, 3] (fun sn sv wr => ∃ (m : Nat) (acc : List Int), sn = .int .i64 m ∧ Own w.heap.size wr sv acc ∧ Below w.heap.size w wr ∧ acc.length + m ≤ n0 ∧ Hid (acc ++ varN m = varN n0)) (fun sn _ _ => (intOf sn).toNat)
  case atStart => exact ⟨n0, [], rfl, own_empty w, (Below.refl _ _).alloc (Nat.le_refl _) _, by simp, rfl⟩
  case round =>
    obtain ⟨m, acc, rfl, hown, hbel, hle, hs⟩ := hrel
    have hsz := hbel.size
    have hm : m ≤ 1000000000 := by have := HN.out; omega
    by_cases hlt : m < 128
    · have hs' := hs.out
      rw [varN_small hlt] at hs'
      have HS := Lib.hid hs'; clear hs'
      go_wp2_with (at_builtin; refine append_one rfl _ _ rfl w.heap.size _ acc rfl rfl hown hsz (by have := HN.out; omega) ?_; intro v' w' hown' hbel')
      go_ret
      exact ⟨_, rfl, by rw [← HS.out]; exact hown', hbel.trans hbel'⟩
    · have hs' := hs.out
      rw [varN_big hlt] at hs'
      have HS := Lib.hid hs'; clear hs'
      go_wp2_with (at_builtin; refine append_one rfl _ _ rfl w.heap.size _ acc rfl rfl hown hsz (by have := HN.out; omega) ?_; intro v' w' hown' hbel')
      go_roundw
      case rel => exact ⟨m / 128, _, by go_num, hown', hbel.trans hbel', by simp; omega, by rw [Hid, ← HS.out]; simp⟩
      case measure => simp [intOf]; omega
set_option linter.unusedSimpArgs false in
set_option maxHeartbeats 2000000 in
set_option maxRecDepth 100000 in
theorem l11Encoded_any (B : Nat) (ao : Option Addr) (n cap : Nat) (es : List Ent) (w : World) (hx : Ents B w ao n cap es) (hB : B ≤ w.heap.size) (hok : bookOk es = true) :
    Calls Tryz.prog 80 #[.slice ao n cap] w (NewInts (enc es) w) := by
  have hx0 := hx.hlen; have hx1 := hx.hcap; have hx2 := hx.hmax
  unfold maxLen at hx2
  subst hx0
  have hn20 := book_len hok
  have hlenR := enc_len hok
  have hbyR := enc_bytes es
  have hup := fun i (hi : i < es.length) => lastK_up hok hi
  have hall := book_all hok
  obtain ⟨R, hR⟩ : ∃ R, enc es = R := ⟨_, rfl⟩
  rw [hR] at hlenR hbyR
  have hin0 : varN es.length ++ encB (lastK es 0) (es.drop 0) = R := by rw [← hR]; rfl
  have HR := Lib.hid hR; have HBY := Lib.hid hbyR; have HUP := Lib.hid hup; have HALL := Lib.hid hall; have HIN0 := Lib.hid hin0
  clear hR hbyR hup hall hin0
  have hV := fun (m : Nat) (hm : m ≤ 1000000000) w => l1Var_any m w hm
  have HV := Lib.hid hV; clear hV
  have hK := fun (x : Ent) w => specKeyOf_any x.o x.s x.a x.d w
  have hkE : ∀ x : Ent, keyOf x.o x.s x.a x.d = x.key := fun _ => rfl
  simp only [hkE] at hK
  have HK := Lib.hid hK; clear hK hkE
  have HW : Hid (∀ (v : Nat), AllI64 (varN v)) := Lib.hid (fun v x hx => by have := varN_bytes v x hx; unfold I64; omega)
  have HLEN : Hid (∀ q p : List Int, q ++ p = R → q.length ≤ 183) := Lib.hid (fun q p h => by rw [← h, List.length_append] at hlenR; omega)
  clear hlenR
  have hv0 := HV.out es.length (by omega) w
  go_enter Tryz.func80, Tryz.ntmps80
  go_wp2_with fail
  refine hv0.mono ?_
  rintro e w1 ⟨v1, rfl, hown1, hb1⟩
  clear hv0
  go_wp2
  go_loopw [3, 4, 5] (fun s3 s4 s5 wr => ∃ (i : Nat) (out : List Int), i ≤ es.length ∧ s5 = .int .i64 i ∧ s4 = .int .i64 (lastK es i) ∧ Hid (out ++ encB (lastK es i) (es.drop i) = R) ∧ Own w.heap.size wr s3 out ∧ Below w.heap.size w wr) (fun _ _ s5 _ => es.length - (intOf s5).toNat)
  case atStart => exact ⟨0, _, Nat.zero_le _, rfl, rfl, HIN0, hown1, hb1⟩
  case round =>
    obtain ⟨i, out, hi, rfl, rfl, hin, hown, hbel⟩ := hrel
    have hsz := hbel.size
    by_cases hlt : i < es.length
    · have hnext := enc_step hlt hin.out
      have hup := HUP.out i hlt
      have hok1 := HALL.out _ (by rw [E_get hlt]; exact List.getElem_mem _ : E es i ∈ es)
      have hg := Ent.ok_all hok1
      have hky := Ent.key_ok hok1
      have hxw := hx.at i hlt
      obtain ⟨b, off, rfl, hbB, hc⟩ := hxw
      have g1 := hc i hlt
      clear hc
      have hls : lastK es (i + 1) = (E es i).key := lastK_succ es i
      obtain ⟨lk2, hlk2⟩ : ∃ l, lastK es (i + 1) = l := ⟨_, rfl⟩
      rw [hlk2] at hnext hls
      have HL2 := Lib.hid hlk2; clear hlk2
      generalize E es i = x at hnext hup hg hky g1 hls
      generalize lastK es i = lk at hnext hup hin
      obtain ⟨u, hu⟩ : ∃ u : Nat, x.key - lk - 1 = u := ⟨(x.key - lk - 1).toNat, by omega⟩
      obtain ⟨ua, hua⟩ : ∃ u : Nat, x.a = u := ⟨x.a.toNat, by omega⟩
      obtain ⟨ud, hud⟩ : ∃ u : Nat, x.d = u := ⟨x.d.toNat, by omega⟩
      rw [hu, hua, hud, Int.toNat_natCast, Int.toNat_natCast, Int.toNat_natCast] at hnext
      have hl3 := HLEN.out _ _ hnext
      simp only [List.length_append] at hl3
      have HNEXT := Lib.hid hnext; clear hnext hin
      have e1 : IntKind.i64.wrap (x.key - lk) = x.key - lk := by rw [IntKind.wrap_i64]; omega
      have e2 : IntKind.i64.wrap (x.key - lk - 1) = u := by rw [IntKind.wrap_i64]; omega
      have hu1 : u ≤ 1000000000 := by omega
      have hua1 : ua ≤ 1000000000 := by omega
      have hud1 : ud ≤ 1000000000 := by omega
      have HV1 := Lib.hid (HV.out u hu1); have HV2 := Lib.hid (HV.out ua hua1); have HV3 := Lib.hid (HV.out ud hud1)
      have hW1 := HW.out u; have hW2 := HW.out ua; have hW3 := HW.out ud
      generalize varN u = q1 at HV1 hW1 hl3 HNEXT
      generalize varN ua = q2 at HV2 hW2 hl3 HNEXT
      generalize varN ud = q3 at HV3 hW3 hl3 HNEXT
      have HLS := Lib.hid hls; clear hls
      have hXX : ∀ w', Below w.heap.size w w' → Ent4 w' b (off + i * 4) x := fun w' h => g1.below h (by omega)
      have HX := Lib.hid hXX; clear hXX
      have HUA := Lib.hid hua; have HUD := Lib.hid hud
      clear hg hky hup hu hua hud g1
      obtain ⟨c0, c1, c2, c3⟩ := HX.out wr hbel
      have i1 : (0 : Int) ≤ i := by omega
      have i2 : (i : Int) < es.length := by omega
      go_wp2_with fail
      refine (HK.out x _).mono ?_
      rintro e w2 ⟨rfl, hb2⟩
      have hB2 := hbel.trans (hb2.mono hsz)
      have ho2 := hown.below hb2 (Nat.le_refl _)
      go_wp2_with fail
      refine (HV1.out _).mono ?_
      rintro e w3 ⟨v3, rfl, hn3, hb3⟩
      have hB3 := hB2.trans (hb3.mono hB2.size)
      have ho3 := ho2.below hb3 (Nat.le_refl _)
      obtain ⟨a3, c3', rfl, hi3, hz3⟩ := hn3.ints' hW1
      have hs3 := hB3.size
      go_upto_region 7 with (at_builtin; refine append_all rfl _ _ rfl w.heap.size w3.heap.size _ out q1 a3 q1.length c3' rfl rfl hi3 hz3 ho3 hs3 (by omega) ?_; intro v4 w4 ho4 hb4)
      have hB4 := hB3.trans hb4
      clear c0 c1 c2 c3 hi3 hz3 ho3 hb3 hn3 ho2 hb2
      obtain ⟨c0, c1, c2, c3⟩ := HX.out w4 hB4
      rw [HUA.out] at c2
      have hs4 := hB4.size
      go_wp2_with fail
      refine (HV2.out _).mono ?_
      rintro e w5 ⟨v5, rfl, hn5, hb5⟩
      have hB5 := hB4.trans (hb5.mono hs4)
      have ho5 := ho4.below hb5 (Nat.le_refl _)
      obtain ⟨a5, c5, rfl, hi5, hz5⟩ := hn5.ints' hW2
      have hs5 := hB5.size
      go_upto_region 8 with (at_builtin; refine append_all rfl _ _ rfl w.heap.size w5.heap.size _ (out ++ q1) q2 a5 q2.length c5 rfl rfl hi5 hz5 ho5 hs5 (by rw [List.length_append]; omega) ?_; intro v6 w6 ho6 hb6)
      have hB6 := hB5.trans hb6
      clear c0 c1 c2 c3 hi5 hz5 ho5 hb5 hn5 ho4 hb4
      obtain ⟨c0, c1, c2, c3⟩ := HX.out w6 hB6
      rw [HUD.out] at c3
      have hs6 := hB6.size
      go_wp2_with fail
      refine (HV3.out _).mono ?_
      rintro e w7 ⟨v7, rfl, hn7, hb7⟩
      have hB7 := hB6.trans (hb7.mono hs6)
      have ho7 := ho6.below hb7 (Nat.le_refl _)
      obtain ⟨a7, c7, rfl, hi7, hz7⟩ := hn7.ints' hW3
      have hs7 := hB7.size
      go_upto_region 9 with (at_builtin; refine append_all rfl _ _ rfl w.heap.size w7.heap.size _ (out ++ q1 ++ q2) q3 a7 q3.length c7 rfl rfl hi7 hz7 ho7 hs7 (by rw [List.length_append, List.length_append]; omega) ?_; intro v8 w8 ho8 hb8)
      have hB8 := hB7.trans hb8
      clear c0 c1 c2 c3 hi7 hz7 ho7 hb7 hn7 ho6 hb6
      obtain ⟨c0, c1, c2, c3⟩ := HX.out w8 hB8
      go_wp2_with fail
      refine (HK.out x _).mono ?_
      rintro e w9 ⟨rfl, hb9⟩
      have hB9 := hB8.trans (hb9.mono hB8.size)
      have ho9 := ho8.below hb9 (Nat.le_refl _)
      clear c0 c1 c2 c3
      go_wp2
      go_roundw
      case rel => exact ⟨i + 1, _, by omega, by go_num, by rw [HL2.out, HLS.out], by rw [HL2.out]; exact HNEXT, ho9, hB9⟩
      case measure => simp [intOf]; omega
    · have hr := enc_end (by omega) hin.out
      have ek : i = es.length := by omega
      subst ek
      go_wp2
      go_ret
      exact ⟨_, rfl, by rw [HR.out, ← hr]; exact hown, hbel⟩
end Go.Proofs.YtoniahfdjhhalaaGreat

namespace Go.Proofs.YtoniahfdjhhalaaGreat
def half (n : Nat) : Nat := if n % 2 = 1 then n / 2 ^^^ 3988292384 else n / 2
def halves : Nat → Nat → Nat
  | 0, n => n
  | k + 1, n => halves k (half n)
def step (s : Nat) (x : Int) : Nat := halves 8 (s ^^^ x.toNat)
def crc (s : Nat) (xs : List Int) : Nat := xs.foldl step s
def sumN (xs : List Int) : Nat := crc 4294967295 xs ^^^ 4294967295
def sumOf (xs : List Int) : Int := if bytesOk xs = true then (sumN xs : Int) else -1
def tail4 (s : Nat) : List Int := [(s : Int) / 16777216, (s : Int) / 65536 % 256, (s : Int) / 256 % 256, (s : Int) % 256]
def withSum (xs : List Int) : List Int := if bytesOk xs = true ∧ xs.length ≤ 3996 then xs ++ tail4 (sumN xs) else []
def unsummed (xs : List Int) : Option (List Int) :=
  if 4 ≤ xs.length ∧ withSum (xs.take (xs.length - 4)) = xs then some (xs.take (xs.length - 4)) else none
theorem half_lt {n : Nat} (h : n < 4294967296) : half n < 4294967296 := by
  unfold half
  split
  · exact Nat.xor_lt_two_pow (n := 32) (by omega) (by omega)
  · omega
theorem halves_lt (k : Nat) : ∀ {n : Nat}, n < 4294967296 → halves k n < 4294967296 := by
  induction k with
  | zero => intro n h; exact h
  | succ k ih => intro n h; exact ih (half_lt h)
theorem step_lt {s : Nat} {x : Int} (h : s < 4294967296) (hx : 0 ≤ x ∧ x ≤ 255) : step s x < 4294967296 :=
  halves_lt 8 (Nat.xor_lt_two_pow (n := 32) h (by omega))
theorem crc_lt (xs : List Int) : ∀ {s : Nat}, s < 4294967296 → (∀ x ∈ xs, 0 ≤ x ∧ x ≤ 255) → crc s xs < 4294967296 := by
  induction xs with
  | nil => intro s h _; exact h
  | cons x xs ih => intro s h hx; exact ih (step_lt h (hx x (by simp))) (fun y hy => hx y (by simp [hy]))
theorem sumN_lt {xs : List Int} (hx : ∀ x ∈ xs, 0 ≤ x ∧ x ≤ 255) : sumN xs < 4294967296 :=
  Nat.xor_lt_two_pow (n := 32) (crc_lt xs (by omega) hx) (by omega)
theorem crc_split (s : Nat) (us : List Int) (y : Int) (bs : List Int) : crc s (us ++ y :: bs) = crc (step (crc s us) y) bs := by
  simp [crc, List.foldl_append]
theorem crc_snoc (s : Nat) (xs : List Int) (k : Nat) (h : k < xs.length) : crc s (xs.take (k + 1)) = step (crc s (xs.take k)) (xs.getD k 0) := by
  have g : xs.getD k 0 = xs[k] := by simp [List.getD, h]
  rw [List.take_succ_eq_append_getElem h, g]
  exact crc_split s (xs.take k) xs[k] []
theorem tail4_bytes {s : Nat} (h : s < 4294967296) : ∀ x ∈ tail4 s, 0 ≤ x ∧ x ≤ 255 := by
  intro x hx
  simp only [tail4, List.mem_cons, List.not_mem_nil, or_false] at hx
  rcases hx with h | h | h | h <;> omega
theorem tail4_len (s : Nat) : (tail4 s).length = 4 := rfl
theorem withSum_len (xs : List Int) : (withSum xs).length ≤ 4000 := by
  unfold withSum
  split
  · rw [List.length_append, tail4_len]; omega
  · simp
theorem withSum_bytes (xs : List Int) : ∀ x ∈ withSum xs, 0 ≤ x ∧ x ≤ 255 := by
  unfold withSum
  split
  · rename_i h
    intro x hx
    rcases List.mem_append.1 hx with hx | hx
    · exact (bytesOk_mem h.1).2 x hx
    · exact tail4_bytes (sumN_lt (bytesOk_mem h.1).2) x hx
  · intro x hx; cases hx
theorem unsummed_withSum {xs : List Int} (h : bytesOk xs = true ∧ xs.length ≤ 3996) : unsummed (withSum xs) = some xs := by
  have e : withSum xs = xs ++ tail4 (sumN xs) := by unfold withSum; rw [if_pos h]
  have l : (withSum xs).length = xs.length + 4 := by rw [e, List.length_append, tail4_len]
  have t : (withSum xs).take ((withSum xs).length - 4) = xs := by
    rw [l, e, List.take_append_of_le_length (by omega), List.take_of_length_le (by omega)]
  unfold unsummed
  rw [t, if_pos ⟨by omega, rfl⟩]
theorem bytesOk_of {xs : List Int} (h : xs.length ≤ 4000) (hx : ∀ x ∈ xs, 0 ≤ x ∧ x ≤ 255) : bytesOk xs = true := by
  simp only [bytesOk, Bool.and_eq_true, decide_eq_true_eq]
  exact ⟨h, List.all_eq_true.2 (fun x hx' => by simpa using hx x hx')⟩
theorem unsummed_bad {xs : List Int} (h : bytesOk xs = false) : unsummed xs = none := by
  unfold unsummed
  rw [if_neg]
  rintro ⟨-, h2⟩
  have := bytesOk_of (withSum_len (xs.take (xs.length - 4))) (withSum_bytes _)
  rw [h2, h] at this
  cases this
theorem unsummed_short {xs : List Int} (h : xs.length < 4) : unsummed xs = none := by
  unfold unsummed
  rw [if_neg (by omega)]
theorem unsummed_is {xs ys : List Int} (h : 4 ≤ xs.length) (e : ys = xs.take (xs.length - 4)) : unsummed xs = if decide (withSum ys = xs) = true then some ys else none := by
  subst e
  unfold unsummed
  by_cases hw : withSum (xs.take (xs.length - 4)) = xs
  · rw [if_pos ⟨h, hw⟩, if_pos (decide_eq_true hw)]
  · rw [if_neg (fun hh => hw hh.2), if_neg (by simpa using hw)]
end Go.Proofs.YtoniahfdjhhalaaGreat

namespace Go.Proofs.YtoniahfdjhhalaaGreat
open Go.RowKit
theorem i64_xor_nat (a b : Nat) (ha : a < 4611686018427387904) (hb : b < 4611686018427387904) : bits .xor .i64 (a : Int) (b : Int) = ((a ^^^ b : Nat) : Int) := by
  have hx : a ^^^ b < 2 ^ 62 := Nat.xor_lt_two_pow (n := 62) (by omega) (by omega)
  have key : (BitVec.ofInt 64 (a : Int) ^^^ BitVec.ofInt 64 (b : Int)).toNat = a ^^^ b := by
    rw [BitVec.toNat_xor, BitVec.toNat_ofInt, BitVec.toNat_ofInt]
    congr 1 <;> omega
  show IntKind.i64.wrap ((BitVec.ofInt 64 (a : Int) ^^^ BitVec.ofInt 64 (b : Int)).toNat : Nat) = _
  rw [key, IntKind.wrap_i64]
  omega
theorem half_odd {m : Nat} (hm : m < 4294967296) (h : m % 2 = 1) : bits .xor .i64 ((m : Int) / 2) 3988292384 = ((half m : Nat) : Int) := by
  have e : ((m : Int) / 2) = ((m / 2 : Nat) : Int) := by omega
  rw [e]
  have := i64_xor_nat (m / 2) 3988292384 (by omega) (by decide)
  rw [half, if_pos h]
  exact this
theorem half_even {m : Nat} (h : ¬ m % 2 = 1) : (m : Int) / 2 = ((half m : Nat) : Int) := by
  rw [half, if_neg h]
  omega
set_option maxHeartbeats 400000 in
theorem l2Step_any (s : Nat) (x : Int) (hs : s < 4294967296) (hx0 : 0 ≤ x) (hx1 : x ≤ 255) (w : World) :
    Calls Tryz.prog 95 #[.int .i64 s, .int .i64 x] w fun e w' => e = .returned (.int .i64 (step s x : Nat)) ∧ w' = w := by
  obtain ⟨y, rfl⟩ := Int.eq_ofNat_of_zero_le hx0
  have e0 := i64_xor_nat s y (by omega) (by omega)
  have hn : s ^^^ y < 4294967296 := Nat.xor_lt_two_pow (n := 32) hs (by omega)
  have ht : step s (y : Int) = halves 8 (s ^^^ y) := by simp [step]
  rw [ht]
  generalize s ^^^ y = n at e0 hn
  clear ht hx0
  go_enter Tryz.func95, Tryz.ntmps95
  go_wp2
  clear e0
  go_loop [0, 5] (fun sn si => ∃ (m k : Nat), k ≤ 8 ∧ si = .int .i64 k ∧ sn = .int .i64 m ∧ m < 4294967296 ∧ Hid (halves (8 - k) m = halves 8 n)) (fun _ si => 8 - (intOf si).toNat)
  case atStart => exact ⟨n, 0, by omega, rfl, rfl, hn, rfl⟩
  case round =>
    obtain ⟨m, k, hk, rfl, rfl, hm, hh⟩ := hrel
    by_cases hlt : k < 8
    · have hh2 : Hid (halves (8 - (k + 1)) (half m) = halves 8 n) := by
        have := hh.out
        rw [show 8 - k = (8 - (k + 1)) + 1 by omega] at this
        exact this
      have hm2 := half_lt hm
      by_cases hodd : m % 2 = 1
      · have hb : (((m : Int) % 2 == 1) = true) := by rw [beq_iff_eq]; omega
        have e := half_odd hm hodd
        generalize half m = m2 at e hh2 hm2
        clear hodd
        go_wp2
        go_round
        case rel => exact ⟨m2, k + 1, by omega, by go_num, rfl, hm2, hh2⟩
        case measure => simp [intOf]; omega
      · have hb : (((m : Int) % 2 == 1) = false) := by rw [beq_eq_false_iff_ne]; omega
        have e := half_even hodd
        generalize half m = m2 at e hh2 hm2
        clear hodd
        have HE := Lib.hid e; clear e
        go_wp2
        go_round
        case rel => exact ⟨m2, k + 1, by omega, by go_num, by rw [HE.out], hm2, hh2⟩
        case measure => simp [intOf]; omega
    · go_wp2
      go_ret
      have ek : k = 8 := by omega
      subst ek
      have := hh.out
      exact ⟨by rw [← this]; rfl, rfl⟩

end Go.Proofs.YtoniahfdjhhalaaGreat
