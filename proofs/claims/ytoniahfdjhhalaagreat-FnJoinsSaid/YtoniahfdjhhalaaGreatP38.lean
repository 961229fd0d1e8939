/- Texts of this claim, put together. -/
import Derived.Test.YtoniahfdjhhalaaGreatP1
import Derived.Test.YtoniahfdjhhalaaGreatP10
import Derived.Test.YtoniahfdjhhalaaGreatP33
import Derived.Test.YtoniahfdjhhalaaGreatP34
import Derived.Test.YtoniahfdjhhalaaGreatP35
import Derived.Test.YtoniahfdjhhalaaGreatP36
import Derived.Test.YtoniahfdjhhalaaGreatP37

namespace Go.Proofs.YtoniahfdjhhalaaGreat
open Go.RowKit
def told (nd : Nd) (b : Nat) : List Int := sealed nd.me b (vec nd.book) (partE nd.book (RW nd.acks b))
def moved (nds : List Nd) (fl : List (List Int)) (s : Stp) : (List Nd × List (List Int)) × Bool :=
  if stepOk s = false then ((nds, fl), false)
  else if s.k = 1 then
    if s.dn.toNat < nds.length then ((nds.set s.dn.toNat (doneAt (ND nds s.dn.toNat) s.dk s.dn s.dt s.dm).1, fl), (doneAt (ND nds s.dn.toNat) s.dk s.dn s.dt s.dm).2 == 0) else ((nds, fl), false)
  else if s.k = 2 then
    if s.a.toNat < nds.length ∧ s.b.toNat < nds.length ∧ ¬ s.a = s.b then ((nds, sent fl (told (ND nds s.a.toNat) s.b.toNat)), decide (fl.length < 30)) else ((nds, fl), false)
  else if s.k = 7 then
    if s.a.toNat < nds.length then ((nds.set s.a.toNat (fallen (ND nds s.a.toNat)), fl), true) else ((nds, fl), false)
  else if ¬ s.a.toNat < fl.length then ((nds, fl), false)
  else if s.k = 3 then ((hearAll nds (RW fl s.a.toNat), fl.eraseIdx s.a.toNat), hearSome nds (RW fl s.a.toNat))
  else if s.k = 4 then ((nds, sent fl (RW fl s.a.toNat)), decide (fl.length < 30))
  else if s.k = 5 then ((nds, fl.eraseIdx s.a.toNat), true)
  else if (RW fl s.a.toNat).length ≤ s.b.toNat then ((nds, fl), false)
  else ((nds, fl.set s.a.toNat (bendAt (RW fl s.a.toNat) s.b.toNat s.c)), true)
structure NetGood (nds : List Nd) (fl : List (List Int)) : Prop where
  one : 1 ≤ nds.length
  four : nds.length ≤ 4
  few : fl.length ≤ 30
  letters : ∀ r ∈ fl, bytesOk r = true
  nodes : ∀ i, i < nds.length → nodeOk (ND nds i).me (ND nds i).book (ND nds i).acks = true ∧ (ND nds i).me = i
theorem netOk_good {nds : List Nd} {fl : List (List Int)} : netOk nds fl = true ↔ NetGood nds fl := by
  simp only [netOk, flightOk, Bool.and_eq_true, decide_eq_true_eq, List.all_eq_true]
  constructor
  · rintro ⟨⟨h1, h2, h3⟩, h4⟩
    exact ⟨h1.1, h1.2, h2, h3, h4⟩
  · rintro ⟨h1, h2, h3, h4, h5⟩
    exact ⟨⟨⟨h1, h2⟩, h3, h4⟩, h5⟩
theorem bytes_parts {xs : List Int} : bytesOk xs = true ↔ xs.length ≤ 4000 ∧ ∀ x ∈ xs, 0 ≤ x ∧ x ≤ 255 := by
  simp [bytesOk, allBytes]
theorem node_parts {me : Int} {book : List Ent} {acks : List (List Int)} : nodeOk me book acks = true ↔ (0 ≤ me ∧ me ≤ 3) ∧ soundE book = true ∧ acksOk acks = true := by
  simp only [nodeOk, inB, Bool.and_eq_true, decide_eq_true_eq]
  constructor
  · rintro ⟨⟨h1, h2⟩, h3⟩; exact ⟨h1, h2, h3⟩
  · rintro ⟨h1, h2, h3⟩; exact ⟨⟨h1, h2⟩, h3⟩
theorem acks_iff {rows : List (List Int)} : acksOk rows = true ↔ rows.length = 4 ∧ ∀ r ∈ rows, vecOk r = true := by
  simp only [acksOk, Bool.and_eq_true, List.all_eq_true, beq_iff_eq]
  exact ⟨fun h => ⟨h.2, h.1⟩, fun h => ⟨h.2, h.1⟩⟩
theorem NetGood.small {nds : List Nd} {fl : List (List Int)} (h : NetGood nds fl) (j : Nat) (hj : j < nds.length) : SmallNd (ND nds j) := by
  obtain ⟨_, h2, h3⟩ := node_parts.1 (h.nodes j hj).1
  have h4 := book_len (sound_parts h2).1
  obtain ⟨h5, h6⟩ := acks_iff.1 h3
  refine ⟨by omega, by omega, fun r hr => ?_⟩
  have := vec_len (h6 r hr)
  omega
theorem NetGood.fit {nds : List Nd} {fl : List (List Int)} (h : NetGood nds fl) : NetFit nds fl :=
  ⟨h.one, h.four, h.few, h.small, fun r hr => (bytes_parts.1 (h.letters r hr)).1⟩
theorem NetGood.setN {nds : List Nd} {fl : List (List Int)} (h : NetGood nds fl) {j : Nat} {nd : Nd} (hj : j < nds.length) (h1 : nodeOk nd.me nd.book nd.acks = true) (h2 : nd.me = j) : NetGood (nds.set j nd) fl :=
  ⟨by rw [List.length_set]; exact h.one, by rw [List.length_set]; exact h.four, h.few, h.letters, fun i hi => by
    rw [List.length_set] at hi
    rw [ND_set hi]
    by_cases e : i = j
    · subst e; rw [if_pos rfl]; exact ⟨h1, h2⟩
    · rw [if_neg e]; exact h.nodes i hi⟩
theorem NetGood.letter {nds : List Nd} {fl fl' : List (List Int)} (h : NetGood nds fl) (h1 : fl'.length ≤ 30) (h2 : ∀ r ∈ fl', bytesOk r = true) : NetGood nds fl' := ⟨h.one, h.four, h1, h2, h.nodes⟩
theorem doneAt_ok {nd : Nd} {k n t m : Int} (h : nodeOk nd.me nd.book nd.acks = true) (hd : deedOk k n t m = true) (hn : n = nd.me) : nodeOk (doneAt nd k n t m).1.me (doneAt nd k n t m).1.book (doneAt nd k n t m).1.acks = true ∧ (doneAt nd k n t m).1.me = nd.me := by
  have e : doneAt nd k n t m = (⟨nd.me, (doneR nd.book k n t m).1, nd.acks⟩, (doneR nd.book k n t m).2) := by rw [doneAt, if_pos ⟨h, hd, hn⟩]
  rw [e]
  obtain ⟨h1, h2, h3⟩ := node_parts.1 h
  exact ⟨node_parts.2 ⟨h1, deed_sound h2 hd, h3⟩, rfl⟩
theorem zeros_ok : acksOk zeros = true := by decide
theorem fallen_ok {nd : Nd} (h : nodeOk nd.me nd.book nd.acks = true) : nodeOk (fallen nd).me (fallen nd).book (fallen nd).acks = true ∧ (fallen nd).me = nd.me := by
  have e : fallen nd = ⟨nd.me, nd.book, zeros⟩ := by rw [fallen, if_pos h]
  rw [e]
  obtain ⟨h1, h2, h3⟩ := node_parts.1 h
  exact ⟨node_parts.2 ⟨h1, h2, zeros_ok⟩, rfl⟩
theorem later_ok {a b : List Int} (ha : vecOk a = true) (hb : vecOk b = true) : vecOk (later a b) = true := by
  have la := vec_len ha; have lb := vec_len hb
  have hl : later a b = List.zipWith max a b := by rw [later, if_pos ⟨ha, hb⟩]
  rw [hl]
  simp only [vecOk, Bool.and_eq_true, decide_eq_true_eq, List.all_eq_true]
  refine ⟨by rw [List.length_zipWith]; omega, fun z hz => ?_⟩
  obtain ⟨i, hi, rfl⟩ := List.mem_iff_getElem.1 hz
  rw [List.length_zipWith] at hi
  rw [List.getElem_zipWith]
  have h1 := vec_mem ha _ (List.getElem_mem (show i < a.length by omega))
  have h2 := vec_mem hb _ (List.getElem_mem (show i < b.length by omega))
  omega
theorem heard_ok {nd : Nd} (h : nodeOk nd.me nd.book nd.acks = true) (xs : List Int) : nodeOk (heard nd xs).1.me (heard nd xs).1.book (heard nd xs).1.acks = true ∧ (heard nd xs).1.me = nd.me := by
  unfold heard
  rw [if_pos h]
  split
  · exact ⟨h, rfl⟩
  · rename_i l hl
    have hlo := letter_parts (openR_ok hl)
    unfold hearL
    split
    · exact ⟨h, rfl⟩
    · split
      · exact ⟨h, rfl⟩
      · rename_i j hj
        split
        · rename_i hs
          obtain ⟨h1, h2, h3⟩ := node_parts.1 h
          obtain ⟨h4, h5⟩ := acks_iff.1 h3
          refine ⟨node_parts.2 ⟨h1, hs, acks_iff.2 ⟨by rw [List.length_set]; exact h4, fun r hr => ?_⟩⟩, rfl⟩
          rcases List.mem_or_eq_of_mem_set hr with hm | hm
          · exact h5 r hm
          · rw [hm]
            refine later_ok ?_ hlo.2.2.2.1
            rw [RW_get (by omega)]
            exact h5 _ (List.getElem_mem _)
        · exact ⟨h, rfl⟩
theorem NetGood.hear {nds : List Nd} {fl : List (List Int)} (h : NetGood nds fl) (xs : List Int) : NetGood (hearAll nds xs) fl := by
  have hl : (hearAll nds xs).length = nds.length := by simp [hearAll]
  refine ⟨by rw [hl]; exact h.one, by rw [hl]; exact h.four, h.few, h.letters, fun i hi => ?_⟩
  rw [hl] at hi
  have e : ND (hearAll nds xs) i = (heard (ND nds i) xs).1 := by
    rw [ND_get (by rw [hl]; exact hi), ND_get hi]
    simp [hearAll]
  rw [e]
  have h1 := heard_ok (h.nodes i hi).1 xs
  exact ⟨h1.1, h1.2.trans (h.nodes i hi).2⟩
theorem told_ok (nd : Nd) (b : Nat) : bytesOk (told nd b) = true := bytes_parts.2 ⟨withSum_len _, withSum_bytes _⟩
theorem sent_ok {nds : List Nd} {fl : List (List Int)} (h : NetGood nds fl) {x : List Int} (hx : bytesOk x = true) : NetGood nds (sent fl x) := by
  unfold sent
  split
  · exact h
  · refine h.letter (by rw [List.length_append, List.length_singleton]; omega) (fun r hr => ?_)
    rcases List.mem_append.1 hr with h1 | h1
    · exact h.letters r h1
    · rw [List.mem_singleton.1 h1]; exact hx
theorem bend_ok {x : List Int} (hx : bytesOk x = true) {b : Nat} (hb : b < x.length) {c : Int} (hc : 1 ≤ c ∧ c ≤ 255) : bytesOk (bendAt x b c) = true := by
  obtain ⟨h1, h2⟩ := bytes_parts.1 hx
  refine bytes_parts.2 ⟨by unfold bendAt; rw [List.length_set]; exact h1, fun y hy => ?_⟩
  rcases List.mem_or_eq_of_mem_set hy with h | h
  · exact h2 y h
  · rw [h]
    have hg : x.getD b 0 = x[b] := by simp [List.getD, hb]
    have h3 := h2 (x[b]) (List.getElem_mem _)
    rw [hg]
    obtain ⟨u, hu⟩ : ∃ u : Nat, x[b] = u := ⟨(x[b]).toNat, by omega⟩
    obtain ⟨v, hv⟩ : ∃ v : Nat, c = v := ⟨c.toNat, by omega⟩
    rw [hu, hv, i64_xor_nat u v (by omega) (by omega)]
    have := Nat.xor_lt_two_pow (x := u) (y := v) (n := 8) (by omega) (by omega)
    omega
theorem step_parts {s : Stp} (h : stepOk s = true) : (0 ≤ s.a ∧ s.a ≤ 4000) ∧ (0 ≤ s.b ∧ s.b ≤ 4000) ∧ (0 ≤ s.c ∧ s.c ≤ 4000) ∧ stepKind s = true := by
  simp only [stepOk, small, inB, Bool.and_eq_true, decide_eq_true_eq] at h
  exact ⟨h.1.1.1, h.1.1.2, h.1.2, h.2⟩
theorem kind_parts {s : Stp} (h : stepKind s = true) : (s.k = 1 ∧ deedOk s.dk s.dn s.dt s.dm = true) ∨ s.k = 2 ∨ s.k = 3 ∨ s.k = 4 ∨ s.k = 5 ∨ (s.k = 6 ∧ 1 ≤ s.c ∧ s.c ≤ 255) ∨ s.k = 7 := by
  unfold stepKind at h
  split at h
  · rename_i hk
    simp only [Bool.and_eq_true] at h
    exact .inl ⟨hk, h.1.1.1⟩
  · split at h
    · rename_i hk; exact .inr (.inl hk)
    · split at h
      · rename_i hk; omega
      · split at h
        · rename_i hk
          simp only [inB, Bool.and_eq_true, decide_eq_true_eq] at h
          exact .inr (.inr (.inr (.inr (.inr (.inl ⟨hk, h.2⟩)))))
        · cases h
theorem deed_node {k n t m : Int} (h : deedOk k n t m = true) : 0 ≤ n ∧ n ≤ 3 := by
  simp only [deedOk, inB, Bool.and_eq_true, decide_eq_true_eq] at h
  exact h.1.1
theorem moved_good {nds : List Nd} {fl : List (List Int)} (h : NetGood nds fl) (s : Stp) : NetGood (moved nds fl s).1.1 (moved nds fl s).1.2 := by
  unfold moved
  split
  · exact h
  · rename_i hs
    have hok : stepOk s = true := by simpa using hs
    obtain ⟨ha, hb, hc, hk⟩ := step_parts hok
    have hkk := kind_parts hk
    split
    · rename_i k1
      have hd : deedOk s.dk s.dn s.dt s.dm = true := by
        rcases hkk with h1 | h1 | h1 | h1 | h1 | h1 | h1 <;> first | exact h1.2 | omega
      split
      · rename_i hj
        have h0 := h.nodes _ hj
        have h1 := doneAt_ok h0.1 hd (by have := deed_node hd; rw [h0.2]; omega)
        exact h.setN hj h1.1 (h1.2.trans h0.2)
      · exact h
    · split
      · split
        · exact sent_ok h (told_ok _ _)
        · exact h
      · split
        · split
          · rename_i hj
            have h0 := h.nodes _ hj
            have h1 := fallen_ok h0.1
            exact h.setN hj h1.1 (h1.2.trans h0.2)
          · exact h
        · split
          · exact h
          · rename_i k1 k2 k7 hat
            have hat : s.a.toNat < fl.length := by omega
            have hx := h.letters _ (RW_mem hat)
            have herase : NetGood nds (fl.eraseIdx s.a.toNat) := h.letter (by have := List.length_eraseIdx_le fl s.a.toNat; have := h.few; omega) (fun r hr => h.letters r (List.mem_of_mem_eraseIdx hr))
            split
            · exact ⟨(h.hear _).one, (h.hear _).four, herase.few, herase.letters, (h.hear _).nodes⟩
            · split
              · exact sent_ok h hx
              · split
                · exact herase
                · split
                  · exact h
                  · rename_i k3 k4 k5 hlt
                    refine h.letter (by rw [List.length_set]; exact h.few) (fun r hr => ?_)
                    rcases List.mem_or_eq_of_mem_set hr with h1 | h1
                    · exact h.letters r h1
                    · rw [h1]
                      exact bend_ok hx (by omega) (by omega)
theorem toNat_of {x : Int} (h : 0 ≤ x) : ∃ n : Nat, x = n := ⟨x.toNat, by omega⟩
theorem part_book {es : List Ent} (h : bookOk es = true) (known : List Int) : bookOk (partE es known) = true := by
  obtain ⟨h1, h2⟩ := (book_iff es).1 h
  refine (book_iff _).2 ⟨⟨fun e he => h1.1 e (List.mem_filter.1 he).1, h1.2.filter _⟩, fun x hx y hy => h2 x (List.mem_filter.1 hx).1 y (List.mem_filter.1 hy).1⟩
theorem inB_lt {x : Nat} {n : Nat} (h : x < n) : inB (x : Int) 0 ((n : Int) - 1) = true := by simp [inB]; omega
theorem inB_ge {x : Nat} {n : Nat} (h : ¬ x < n) : inB (x : Int) 0 ((n : Int) - 1) = false := by simp [inB]; omega
set_option maxHeartbeats 1000000 in
theorem l16Moved_any (B : Nat) (an : Option Addr) (cn : Nat) (nds : List Nd) (af : Option Addr) (cf : Nat) (fl : List (List Int)) (s : Stp) (w : World) (hx : Nds B w an nds.length cn nds) (hy : Rws B w af fl.length cf fl) (hB : B ≤ w.heap.size) (hg : NetGood nds fl) :
    Calls Tryz.prog 38 #[.agg #[.slice an nds.length cn, .slice af fl.length cf], .agg #[.int .i64 s.k, .int .i64 s.dk, .int .i64 s.dn, .int .i64 s.dt, .int .i64 s.dm, .int .i64 s.a, .int .i64 s.b, .int .i64 s.c]] w
      (NetSaid w.heap.size w.heap.size (moved nds fl s).1.1 (moved nds fl s).1.2 (moved nds fl s).2 w) := by
  have hf := hg.fit
  by_cases hok : stepOk s = false
  · have e : moved nds fl s = ((nds, fl), false) := by rw [moved, if_pos hok]
    rw [e]
    exact moved_not B an cn nds af cf fl s.k s.dk s.dn s.dt s.dm s.a s.b s.c w hx hy hB hf hok
  · have hok' : stepOk s = true := by simpa using hok
    obtain ⟨ha, hb, hc, hk⟩ := step_parts hok'
    have hkk := kind_parts hk
    obtain ⟨k, dk, dn, dt, dm, a, b, c⟩ := s
    dsimp only at ha hb hc hkk hok hok' ⊢
    obtain ⟨at0, rfl⟩ := toNat_of ha.1
    obtain ⟨bt0, rfl⟩ := toNat_of hb.1
    rcases hkk with ⟨rfl, hd⟩ | rfl | rfl | rfl | rfl | ⟨rfl, hc1⟩ | rfl
    · obtain ⟨dn0, rfl⟩ := toNat_of (deed_node hd).1
      by_cases hj : dn0 < nds.length
      · have e : moved nds fl ⟨1, dk, dn0, dt, dm, at0, bt0, c⟩ = ((nds.set dn0 (doneAt (ND nds dn0) dk dn0 dt dm).1, fl), (doneAt (ND nds dn0) dk dn0 dt dm).2 == 0) := by
          rw [moved, if_neg hok, if_pos rfl]
          simp only [Int.toNat_natCast]
          rw [if_pos hj]
        rw [e]
        exact moved_deed B an cn nds af cf fl dk dt dm at0 bt0 c dn0 w hx hy hB hf hok' hj
      · have e : moved nds fl ⟨1, dk, dn0, dt, dm, at0, bt0, c⟩ = ((nds, fl), false) := by
          rw [moved, if_neg hok, if_pos rfl]
          simp only [Int.toNat_natCast]
          rw [if_neg hj]
        rw [e]
        exact moved_deed_none B an cn nds af cf fl dk dn0 dt dm at0 bt0 c w hx hy hB hf hok' (inB_ge hj)
    · by_cases hj : at0 < nds.length
      · by_cases hj2 : bt0 < nds.length
        · by_cases hne : at0 = bt0
          · subst hne
            have e : moved nds fl ⟨2, dk, dn, dt, dm, at0, at0, c⟩ = ((nds, fl), false) := by
              rw [moved, if_neg hok, if_neg (by (try dsimp only); decide), if_pos rfl, if_neg (fun h => h.2.2 rfl)]
            rw [e]
            exact moved_tell_none3 B an cn nds af cf fl dk dn dt dm at0 c w hx hy hB hf hok' (inB_lt hj)
          · have e : moved nds fl ⟨2, dk, dn, dt, dm, at0, bt0, c⟩ = ((nds, sent fl (told (ND nds at0) bt0)), decide (fl.length < 30)) := by
              rw [moved, if_neg hok, if_neg (by (try dsimp only); decide), if_pos rfl]
              simp only [Int.toNat_natCast]
              rw [if_pos ⟨hj, hj2, fun h => hne (by omega)⟩]
            rw [e]
            have hn := hg.nodes at0 hj
            obtain ⟨n1, n2, n3⟩ := node_parts.1 hn.1
            have hbk := (sound_parts n2).1
            refine moved_tell B an cn nds af cf fl dk dn dt dm c at0 bt0 _ w hx hy hB hf hok' hj hj2 hne ?_ hbk (part_book hbk _) n1 rfl
            have h4 := hg.four
            rw [letterTo, if_pos ⟨hn.1, by simp [inB]; omega, fun h => hne (by rw [hn.2] at h; omega)⟩, Int.toNat_natCast]
        · have e : moved nds fl ⟨2, dk, dn, dt, dm, at0, bt0, c⟩ = ((nds, fl), false) := by
            rw [moved, if_neg hok, if_neg (by (try dsimp only); decide), if_pos rfl]
            simp only [Int.toNat_natCast]
            rw [if_neg (fun h => hj2 h.2.1)]
          rw [e]
          exact moved_tell_none2 B an cn nds af cf fl dk dn dt dm at0 bt0 c w hx hy hB hf hok' (inB_lt hj) (inB_ge hj2)
      · have e : moved nds fl ⟨2, dk, dn, dt, dm, at0, bt0, c⟩ = ((nds, fl), false) := by
          rw [moved, if_neg hok, if_neg (by (try dsimp only); decide), if_pos rfl]
          simp only [Int.toNat_natCast]
          rw [if_neg (fun h => hj h.1)]
        rw [e]
        exact moved_tell_none1 B an cn nds af cf fl dk dn dt dm at0 bt0 c w hx hy hB hf hok' (inB_ge hj)
    · by_cases hat : at0 < fl.length
      · have e : moved nds fl ⟨3, dk, dn, dt, dm, at0, bt0, c⟩ = ((hearAll nds (RW fl at0), fl.eraseIdx at0), hearSome nds (RW fl at0)) := by
          rw [moved, if_neg hok, if_neg (by (try dsimp only); decide), if_neg (by (try dsimp only); decide), if_neg (by (try dsimp only); decide)]
          simp only [Int.toNat_natCast]
          rw [if_neg (fun h => h hat), if_pos trivial]
        rw [e]
        exact moved_hand B an cn nds af cf fl dk dn dt dm c at0 bt0 w hx hy hB hf hok' hat
      · have e : moved nds fl ⟨3, dk, dn, dt, dm, at0, bt0, c⟩ = ((nds, fl), false) := by
          rw [moved, if_neg hok, if_neg (by (try dsimp only); decide), if_neg (by (try dsimp only); decide), if_neg (by (try dsimp only); decide)]
          simp only [Int.toNat_natCast]
          rw [if_pos hat]
        rw [e]
        exact moved_letter_none3 B an cn nds af cf fl dk dn dt dm bt0 c at0 w hx hy hB hf hok' (by omega)
    · by_cases hat : at0 < fl.length
      · have e : moved nds fl ⟨4, dk, dn, dt, dm, at0, bt0, c⟩ = ((nds, sent fl (RW fl at0)), decide (fl.length < 30)) := by
          rw [moved, if_neg hok, if_neg (by (try dsimp only); decide), if_neg (by (try dsimp only); decide), if_neg (by (try dsimp only); decide)]
          simp only [Int.toNat_natCast]
          rw [if_neg (fun h => h hat), if_neg (by (try dsimp only); decide), if_pos trivial]
        rw [e]
        exact moved_twice B an cn nds af cf fl dk dn dt dm c at0 bt0 w hx hy hB hf hok' hat
      · have e : moved nds fl ⟨4, dk, dn, dt, dm, at0, bt0, c⟩ = ((nds, fl), false) := by
          rw [moved, if_neg hok, if_neg (by (try dsimp only); decide), if_neg (by (try dsimp only); decide), if_neg (by (try dsimp only); decide)]
          simp only [Int.toNat_natCast]
          rw [if_pos hat]
        rw [e]
        exact moved_letter_none4 B an cn nds af cf fl dk dn dt dm bt0 c at0 w hx hy hB hf hok' (by omega)
    · by_cases hat : at0 < fl.length
      · have e : moved nds fl ⟨5, dk, dn, dt, dm, at0, bt0, c⟩ = ((nds, fl.eraseIdx at0), true) := by
          rw [moved, if_neg hok, if_neg (by (try dsimp only); decide), if_neg (by (try dsimp only); decide), if_neg (by (try dsimp only); decide)]
          simp only [Int.toNat_natCast]
          rw [if_neg (fun h => h hat), if_neg (by (try dsimp only); decide), if_neg (by (try dsimp only); decide), if_pos trivial]
        rw [e]
        exact moved_lose B an cn nds af cf fl dk dn dt dm c at0 bt0 w hx hy hB hf hok' hat
      · have e : moved nds fl ⟨5, dk, dn, dt, dm, at0, bt0, c⟩ = ((nds, fl), false) := by
          rw [moved, if_neg hok, if_neg (by (try dsimp only); decide), if_neg (by (try dsimp only); decide), if_neg (by (try dsimp only); decide)]
          simp only [Int.toNat_natCast]
          rw [if_pos hat]
        rw [e]
        exact moved_letter_none5 B an cn nds af cf fl dk dn dt dm bt0 c at0 w hx hy hB hf hok' (by omega)
    · by_cases hat : at0 < fl.length
      · by_cases hlt : bt0 < (RW fl at0).length
        · have e : moved nds fl ⟨6, dk, dn, dt, dm, at0, bt0, c⟩ = ((nds, fl.set at0 (bendAt (RW fl at0) bt0 c)), true) := by
            rw [moved, if_neg hok, if_neg (by (try dsimp only); decide), if_neg (by (try dsimp only); decide), if_neg (by (try dsimp only); decide)]
            simp only [Int.toNat_natCast]
            rw [if_neg (fun h => h hat), if_neg (by (try dsimp only); decide), if_neg (by (try dsimp only); decide), if_neg (by (try dsimp only); decide), if_neg (by omega)]
          rw [e]
          exact moved_bend B an cn nds af cf fl dk dn dt dm c at0 bt0 w hx hy hB hf hok' hat hlt
        · have e : moved nds fl ⟨6, dk, dn, dt, dm, at0, bt0, c⟩ = ((nds, fl), false) := by
            rw [moved, if_neg hok, if_neg (by (try dsimp only); decide), if_neg (by (try dsimp only); decide), if_neg (by (try dsimp only); decide)]
            simp only [Int.toNat_natCast]
            rw [if_neg (fun h => h hat), if_neg (by (try dsimp only); decide), if_neg (by (try dsimp only); decide), if_neg (by (try dsimp only); decide), if_pos (by omega)]
          rw [e]
          exact moved_bend_no B an cn nds af cf fl dk dn dt dm c at0 bt0 w hx hy hB hf hok' hat (by omega)
      · have e : moved nds fl ⟨6, dk, dn, dt, dm, at0, bt0, c⟩ = ((nds, fl), false) := by
          rw [moved, if_neg hok, if_neg (by (try dsimp only); decide), if_neg (by (try dsimp only); decide), if_neg (by (try dsimp only); decide)]
          simp only [Int.toNat_natCast]
          rw [if_pos hat]
        rw [e]
        exact moved_letter_none6 B an cn nds af cf fl dk dn dt dm bt0 c at0 w hx hy hB hf hok' (by omega)
    · by_cases hj : at0 < nds.length
      · have e : moved nds fl ⟨7, dk, dn, dt, dm, at0, bt0, c⟩ = ((nds.set at0 (fallen (ND nds at0)), fl), true) := by
          rw [moved, if_neg hok, if_neg (by (try dsimp only); decide), if_neg (by (try dsimp only); decide), if_pos rfl]
          simp only [Int.toNat_natCast]
          rw [if_pos hj]
        rw [e]
        exact moved_fall B an cn nds af cf fl dk dn dt dm bt0 c at0 w hx hy hB hf hok' hj
      · have e : moved nds fl ⟨7, dk, dn, dt, dm, at0, bt0, c⟩ = ((nds, fl), false) := by
          rw [moved, if_neg hok, if_neg (by (try dsimp only); decide), if_neg (by (try dsimp only); decide), if_pos rfl]
          simp only [Int.toNat_natCast]
          rw [if_neg hj]
        rw [e]
        exact moved_fall_none B an cn nds af cf fl dk dn dt dm at0 bt0 c w hx hy hB hf hok' (inB_ge hj)
end Go.Proofs.YtoniahfdjhhalaaGreat
