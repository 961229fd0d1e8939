/- Texts of this claim, put together. -/
import Derived.Test.YtoniahfdjhhalaaGreatP1
import Derived.Test.YtoniahfdjhhalaaGreatP11
import Derived.Test.YtoniahfdjhhalaaGreatP13
import Derived.Test.YtoniahfdjhhalaaGreatP22
import Derived.Test.YtoniahfdjhhalaaGreatP37
import Derived.Test.YtoniahfdjhhalaaGreatP38

namespace Go.Proofs.YtoniahfdjhhalaaGreat
theorem scan_var (pre post : List Int) (m : Nat) (h : m ≤ 1000000000) : scan (pre ++ (varN m ++ post)) 5 pre.length 0 1 = some ((m : Int), pre.length + (varN m).length) := by
  have h5 := varN_fuel 4 m (by omega)
  have := scan_write m pre post 5 0 1 (by decide) h5 (by omega) (fun h => by omega)
  simpa using this
def vars (ms : List Nat) : List Int := ms.flatMap varN
theorem vars_cons (m : Nat) (r : List Nat) : vars (m :: r) = varN m ++ vars r := by simp [vars]
theorem nums_write (ms : List Nat) : ∀ pre post : List Int, (∀ m ∈ ms, m ≤ 1000000000) → numsN (pre ++ (vars ms ++ post)) ms.length pre.length = some (ms.map (fun m : Nat => (m : Int)), pre.length + (vars ms).length) := by
  induction ms with
  | nil => intro pre post _; simp [numsN, vars]
  | cons m r ih =>
    intro pre post h
    have h1 := scan_var pre (vars r ++ post) m (h m (List.mem_cons_self ..))
    have h2 := ih (pre ++ varN m) post (fun x hx => h x (List.mem_cons_of_mem _ hx))
    rw [List.append_assoc, List.length_append] at h2
    rw [vars_cons, List.append_assoc, List.length_cons, numsN, h1]
    simp only
    rw [h2]
    simp [Nat.add_assoc]
theorem encE_vars (last : Int) (e : Ent) : encE last e = vars [(e.key - last - 1).toNat, e.a.toNat, e.d.toNat] := by simp [vars, encE]
theorem key_back {e : Ent} (h : e.ok = true) : (⟨e.key / 5, e.key % 5, e.a, e.d⟩ : Ent) = e := by
  have h2 := Ent.key_ok h
  have h3 := Ent.ok_all h
  exact Ent.same (show e.key / 5 = e.o by omega) (show e.key % 5 = e.s by omega) rfl rfl
theorem readE_write (es : List Ent) : ∀ (last : Int) (pre post : List Int), -1 ≤ last → Up es → (∀ e ∈ es, last < e.key) → readE (pre ++ (encB last es ++ post)) es.length last pre.length = some (es, pre.length + (encB last es).length) := by
  induction es with
  | nil => intro last pre post _ _ _; simp [readE, encB]
  | cons e r ih =>
    intro last pre post hl hu hlt
    have h1 := Ent.ok_all hu.head.1
    have h2 := Ent.key_ok hu.head.1
    have h3 := hlt e (List.mem_cons_self ..)
    have hn := nums_write [(e.key - last - 1).toNat, e.a.toNat, e.d.toNat] pre (encB e.key r ++ post) (by
      intro m hm
      simp only [List.mem_cons, List.not_mem_nil, or_false] at hm
      rcases hm with rfl | rfl | rfl <;> omega)
    have hr := ih e.key (pre ++ encE last e) post (by omega) hu.tail hu.head.2
    rw [List.append_assoc, List.length_append] at hr
    rw [← encE_vars] at hn
    rw [encB, List.append_assoc, List.length_cons, readE]
    rw [show [(e.key - last - 1).toNat, e.a.toNat, e.d.toNat].length = 3 from rfl] at hn
    rw [hn]
    simp only [List.map_cons, List.map_nil, List.getD_cons_zero, List.getD_cons_succ]
    rw [if_neg (by omega)]
    have e1 : last + 1 + ((e.key - last - 1).toNat : Int) = e.key := by omega
    have e2 : (e.a.toNat : Int) = e.a := by omega
    have e3 : (e.d.toNat : Int) = e.d := by omega
    rw [e1, e2, e3, key_back hu.head.1, hr, List.length_append]
    simp [Nat.add_assoc]
theorem readB_write {es : List Ent} (h : bookOk es = true) (pre post : List Int) : readB (pre ++ (enc es ++ post)) pre.length = some (es, pre.length + (enc es).length) := by
  have hl := book_len h
  have hn := nums_write [es.length] pre (encB (-1) es ++ post) (by
    intro m hm
    simp only [List.mem_cons, List.not_mem_nil, or_false] at hm
    omega)
  have hu := book_up h
  have hr := readE_write es (-1) (pre ++ varN es.length) post (by omega) hu (fun e he => by have := Ent.key_ok (hu.1 e he); omega)
  rw [List.append_assoc, List.length_append] at hr
  rw [show vars [es.length] = varN es.length by simp [vars], show [es.length].length = 1 from rfl] at hn
  unfold enc
  rw [List.append_assoc, readB, hn]
  simp only [List.map_cons, List.map_nil, List.getD_cons_zero]
  rw [if_neg (by omega), Int.toNat_natCast, hr]
  simp only
  rw [if_pos h, List.length_append]
  simp [Nat.add_assoc]
theorem vecB_vars (vs : List Int) : vecB vs = vars (vs.map Int.toNat) := by
  induction vs with
  | nil => rfl
  | cons x r ih => rw [List.map_cons, vars_cons, ← ih]; rfl
theorem vec_cast {vs : List Int} (h : ∀ x ∈ vs, 0 ≤ x ∧ x ≤ 100000) : (vs.map Int.toNat).map (fun m : Nat => (m : Int)) = vs := by
  induction vs with
  | nil => rfl
  | cons x r ih =>
    have h1 := h x (List.mem_cons_self ..)
    rw [List.map_cons, List.map_cons, ih (fun y hy => h y (List.mem_cons_of_mem _ hy))]
    rw [show ((x.toNat : Nat) : Int) = x by omega]
theorem open_sealed {f t : Int} {vs : List Int} {es : List Ent} (hf : 0 ≤ f ∧ f ≤ 3) (ht : 0 ≤ t ∧ t ≤ 3) (hv : vecOk vs = true) (hb : bookOk es = true) :
    openR (sealed f t vs es) = if letterOk f t vs es = true then some ⟨f, t, vs, es⟩ else none := by
  have h1 := bareL_bytes hf ht vs es
  have h2 := bareL_len (f := f) (t := t) hv hb
  have hu : unsummed (sealed f t vs es) = some (bareL f t vs es) := unsummed_withSum ⟨bytesOk_of (by omega) h1, by omega⟩
  have hm := vec_mem hv
  have hl := vec_len hv
  have hn := nums_write (vs.map Int.toNat) [92, f, t] (enc es) (by
    intro m hmm
    obtain ⟨x, hx, rfl⟩ := List.mem_map.1 hmm
    have := hm x hx
    omega)
  rw [vec_cast hm, ← vecB_vars, List.length_map, hl, ← List.append_assoc] at hn
  have hr := readB_write hb ([92, f, t] ++ vecB vs) []
  rw [List.append_nil, List.length_append] at hr
  have e0 : (bareL f t vs es).getD 0 0 = 92 := rfl
  have e1 : (bareL f t vs es).getD 1 0 = f := rfl
  have e2 : (bareL f t vs es).getD 2 0 = t := rfl
  have e3 : (bareL f t vs es).length = [92, f, t].length + (vecB vs).length + (enc es).length := by unfold bareL; rw [List.length_append, List.length_append]
  rw [open_end (r := (vs, [92, f, t].length + (vecB vs).length)) (q := (es, [92, f, t].length + (vecB vs).length + (enc es).length)) hu (by rw [e0, e3]; simp; omega) hn hr, e1, e2, e3]
  simp
structure LogNet (log : List Ent) (nds : List Nd) (fl : List (List Int)) : Prop where
  isLog : LogOk log
  good : ∀ e ∈ log, e.ok = true
  books : ∀ j, j < nds.length → Of log (ND nds j).book
  letters : ∀ x ∈ fl, ∀ l, openR x = some l → Of log l.p
  own : ∀ j : Nat, j < nds.length → ∀ e ∈ log, e.o = j → ∃ x ∈ (ND nds j).book, x.key = e.key ∧ e.d ≤ x.d
theorem join_has_left {a b : List Ent} (ha : Up a) (hb : Up b) {x : Ent} (hx : x ∈ a) : ∃ y ∈ joinE a b, y.key = x.key ∧ x.d ≤ y.d := by
  have h1 := join_at ha hb x.key
  rw [atK_of ha hx] at h1
  cases h2 : atK b x.key with
  | none =>
    rw [h2] at h1
    obtain ⟨hm, hk⟩ := atK_mem h1
    exact ⟨x, hm, hk, Int.le_refl _⟩
  | some y =>
    rw [h2] at h1
    obtain ⟨hm, hk⟩ := atK_mem h1
    refine ⟨newer (x, y), hm, hk, ?_⟩
    unfold newer
    split <;> simp only at * <;> omega
theorem fallen_book {nd : Nd} (h : nodeOk nd.me nd.book nd.acks = true) : (fallen nd).book = nd.book := by rw [fallen, if_pos h]
theorem node_up {nd : Nd} (h : nodeOk nd.me nd.book nd.acks = true) : bookOk nd.book = true := (sound_parts (node_parts.1 h).2.1).1
theorem heard_book {nd : Nd} (h : nodeOk nd.me nd.book nd.acks = true) (xs : List Int) : (heard nd xs).1.book = nd.book ∨ ∃ l, openR xs = some l ∧ bookOk l.p = true ∧ (heard nd xs).1.book = joinE nd.book l.p := by
  rw [heard, if_pos h]
  cases ho : openR xs with
  | none => exact .inl rfl
  | some l =>
    simp only
    have hl := (letter_parts (openR_ok ho)).2.2.2.2.1
    unfold hearL
    split
    · exact .inl rfl
    · cases hj : joinR nd.book l.p with
      | none => exact .inl rfl
      | some j =>
        simp only
        split
        · refine .inr ⟨l, rfl, hl, ?_⟩
          unfold joinR at hj
          split at hj
          · simp only [Option.some.injEq] at hj
            exact hj.symm
          · cases hj
        · exact .inl rfl
theorem doneAt_book {nd : Nd} (h : nodeOk nd.me nd.book nd.acks = true) {k n t m : Int} (hd : deedOk k n t m = true) (hn : n = nd.me) :
    (doneAt nd k n t m).1.book = nd.book ∨ ((deedEnt nd.book k n t m).ok = true ∧ (doneAt nd k n t m).1.book = putE nd.book (deedEnt nd.book k n t m)) := by
  rw [doneAt, if_pos ⟨h, hd, hn⟩]
  simp only [doneR]
  split
  · exact .inl rfl
  · split
    · rename_i hok
      exact .inr ⟨hok, rfl⟩
    · exact .inl rfl
theorem amount_of {es : List Ent} (hu : Up es) {x : Ent} (hx : x ∈ es) : amount es x.o x.s = x.a := by
  induction es with
  | nil => cases hx
  | cons y r ih =>
    rw [amount]
    rcases List.mem_cons.1 hx with rfl | hx
    · rw [if_pos ⟨rfl, rfl⟩]
    · rw [if_neg, ih hu.tail hx]
      intro h
      have h1 := hu.head.2 x hx
      have h2 := Ent.key_ok hu.head.1
      have h3 := Ent.key_ok (hu.tail.1 x hx)
      omega
theorem put_has {es : List Ent} {e : Ent} (hu : Up es) : e ∈ putE es e := by
  induction es with
  | nil => simp [putE]
  | cons y r ih =>
    rw [putE]
    split
    · exact List.mem_cons_of_mem _ (ih hu.tail)
    · split <;> exact List.mem_cons_self ..
theorem put_old {es : List Ent} {e x : Ent} (hu : Up es) (hx : x ∈ es) (hk : ¬ x.key = e.key) : x ∈ putE es e := by
  induction es with
  | nil => cases hx
  | cons y r ih =>
    rw [putE]
    split
    · rcases List.mem_cons.1 hx with rfl | hx
      · exact List.mem_cons_self ..
      · exact List.mem_cons_of_mem _ (ih hu.tail hx)
    · split
      · rename_i he
        rcases List.mem_cons.1 hx with rfl | hx
        · exact absurd (by omega) hk
        · exact List.mem_cons_of_mem _ hx
      · exact List.mem_cons_of_mem _ hx
theorem Of.mono {l l' es : List Ent} (h : Of l es) (hs : ∀ e ∈ l, e ∈ l') : Of l' es := fun e he => hs e (h e he)
theorem logNet_new (n : Nat) (h1 : 1 ≤ n) (h4 : n ≤ 4) : LogNet [] (newNet (n : Int)) [] := by
  have hb : ∀ j, (ND (newNet (n : Int)) j).book = [] := by
    have hj0 : ∀ nds : List Nd, (∀ nd ∈ nds, nd.book = []) → ∀ j, (ND nds j).book = [] := fun nds h j => by
      by_cases hj : j < nds.length
      · rw [ND_get hj]; exact h _ (List.getElem_mem _)
      · unfold ND
        rw [List.getD_eq_getElem?_getD, List.getElem?_eq_none (by omega)]
        rfl
    refine hj0 _ ?_
    have h : n = 1 ∨ n = 2 ∨ n = 3 ∨ n = 4 := by omega
    rcases h with rfl | rfl | rfl | rfl <;> decide
  exact ⟨⟨fun x hx => (by cases hx), fun x hx => (by cases hx)⟩, fun e he => (by cases he), fun j _ e he => (by rw [hb] at he; cases he), fun x hx => (by cases hx), fun j _ e he => (by cases he)⟩
theorem LogNet.flight {log : List Ent} {nds : List Nd} {fl fl' : List (List Int)} (h : LogNet log nds fl) (hf : ∀ x ∈ fl', x ∈ fl) : LogNet log nds fl' := ⟨h.isLog, h.good, h.books, fun x hx => h.letters x (hf x hx), h.own⟩
theorem LogNet.deed {log : List Ent} {nds : List Nd} {fl : List (List Int)} (h : LogNet log nds fl) (hg : NetGood nds fl) {j : Nat} (hj : j < nds.length) {k t m : Int} (hd : deedOk k j t m = true) :
    ∃ log', LogNet log' (nds.set j (doneAt (ND nds j) k j t m).1) fl := by
  obtain ⟨hn, hme⟩ := hg.nodes j hj
  have hbk := node_up hn
  have hu := book_up hbk
  have hset : ∀ i, i < nds.length → ND (nds.set j (doneAt (ND nds j) k j t m).1) i = if i = j then (doneAt (ND nds j) k j t m).1 else ND nds i := fun i hi => ND_set hi
  rcases doneAt_book hn hd hme.symm with hsame | ⟨hok, hput⟩
  · have hb : ∀ i, i < nds.length → (ND (nds.set j (doneAt (ND nds j) k j t m).1) i).book = (ND nds i).book := fun i hi => by
      rw [hset i hi]
      split
      · rename_i e; rw [e]; exact hsame
      · rfl
    exact ⟨log, h.isLog, h.good, fun i hi => by rw [List.length_set] at hi; rw [hb i hi]; exact h.books i hi, h.letters, fun i hi => by rw [List.length_set] at hi; rw [hb i hi]; exact h.own i hi⟩
  · obtain ⟨e, he⟩ : ∃ e, e = deedEnt (ND nds j).book k j t m := ⟨_, rfl⟩
    rw [← he] at hok hput
    have eo : e.o = j := by rw [he]; rfl
    have ea : e.a = amount (ND nds j).book j e.s + m := by rw [he]; rfl
    have ed : e.d = mx (ND nds j).book j + 1 := by rw [he]; rfl
    have hm : 1 ≤ m := by
      simp only [deedOk, inB, Bool.and_eq_true, decide_eq_true_eq] at hd
      exact hd.1.2.1
    have hlow : ∀ x ∈ log, x.o = j → x.d < e.d := fun x hx ho => by
      obtain ⟨y, hy, hk, hdd⟩ := h.own j hj x hx ho
      have h1 := mx_ge hy
      have h2 := Ent.key_ok (hu.1 y hy)
      have h3 := Ent.key_ok (h.good x hx)
      have : y.o = j := by omega
      rw [this] at h1
      omega
    have hamt : ∀ x ∈ log, x.key = e.key → x.a ≤ e.a := fun x hx hk => by
      have h2 := Ent.key_ok hok
      have h3 := Ent.key_ok (h.good x hx)
      obtain ⟨y, hy, hky, hdd⟩ := h.own j hj x hx (by omega)
      have h4 := Ent.key_ok (hu.1 y hy)
      have hya := amount_of hu hy
      rw [show y.o = (j : Int) by omega, show y.s = e.s by omega] at hya
      have hxy : x.a ≤ y.a := by
        by_cases hlt : x.d < y.d
        · exact h.isLog.grows x hx y (h.books j hj y hy) hky.symm hlt
        · rw [h.isLog.one x hx y (h.books j hj y hy) (by omega) (by omega)]
          exact Int.le_refl _
      omega
    have hkeyo : ∀ x ∈ log, x.key = e.key → x.o = j := fun x hx hk => by
      have h2 := Ent.key_ok hok
      have h3 := Ent.key_ok (h.good x hx)
      omega
    have hof : Of (e :: log) (putE (ND nds j).book e) := fun x hx => by
      rcases put_mem hu x hx with rfl | ⟨hx, _⟩
      · exact List.mem_cons_self ..
      · exact List.mem_cons_of_mem _ (h.books j hj x hx)
    have hb : ∀ i, i < nds.length → (ND (nds.set j (doneAt (ND nds j) k j t m).1) i).book = if i = j then putE (ND nds j).book e else (ND nds i).book := fun i hi => by
      rw [hset i hi]
      split
      · exact hput
      · rfl
    refine ⟨e :: log, ⟨fun x hx y hy ho hdd => ?_, fun x hx y hy hk hlt => ?_⟩, fun x hx => ?_, fun i hi => ?_, fun x hx l hl => (h.letters x hx l hl).mono fun z hz => List.mem_cons_of_mem _ hz, fun i hi x hx ho => ?_⟩
    · rcases List.mem_cons.1 hx with hxe | hx'
      · rcases List.mem_cons.1 hy with hye | hy'
        · rw [hxe, hye]
        · rw [hxe] at ho hdd
          have := hlow y hy' (by omega); omega
      · rcases List.mem_cons.1 hy with hye | hy'
        · rw [hye] at ho hdd
          have := hlow x hx' (by omega); omega
        · exact h.isLog.one x hx' y hy' ho hdd
    · rcases List.mem_cons.1 hx with hxe | hx'
      · rcases List.mem_cons.1 hy with hye | hy'
        · rw [hxe, hye] at hlt; omega
        · rw [hxe] at hk hlt
          have := hlow y hy' (hkeyo y hy' hk.symm); omega
      · rcases List.mem_cons.1 hy with hye | hy'
        · rw [hye] at hk ⊢
          exact hamt x hx' hk
        · exact h.isLog.grows x hx' y hy' hk hlt
    · rcases List.mem_cons.1 hx with hxe | hx'
      · rw [hxe]; exact hok
      · exact h.good x hx'
    · rw [List.length_set] at hi
      rw [hb i hi]
      split
      · exact hof
      · exact (h.books i hi).mono fun z hz => List.mem_cons_of_mem _ hz
    · rw [List.length_set] at hi
      rw [hb i hi]
      rcases List.mem_cons.1 hx with hxe | hx'
      · rw [hxe] at ho ⊢
        rw [if_pos (by omega)]
        exact ⟨e, put_has hu, rfl, Int.le_refl _⟩
      · obtain ⟨y, hy, hk, hdd⟩ := h.own i hi x hx' ho
        split
        · rename_i hij
          subst hij
          by_cases hke : y.key = e.key
          · exact ⟨e, put_has hu, by omega, by have := hlow x hx' ho; omega⟩
          · exact ⟨y, put_old hu hy hke, hk, hdd⟩
        · exact ⟨y, hy, hk, hdd⟩
theorem LogNet.hear {log : List Ent} {nds : List Nd} {fl : List (List Int)} (h : LogNet log nds fl) (hg : NetGood nds fl) {xs : List Int} (hx : ∀ l, openR xs = some l → Of log l.p) : LogNet log (hearAll nds xs) fl := by
  have hl : (hearAll nds xs).length = nds.length := by simp [hearAll]
  have hb : ∀ i, i < nds.length → ND (hearAll nds xs) i = (heard (ND nds i) xs).1 := fun i hi => by
    rw [ND_get (by rw [hl]; exact hi), ND_get hi]
    simp [hearAll]
  refine ⟨h.isLog, h.good, fun i hi => ?_, h.letters, fun i hi e he ho => ?_⟩
  · rw [hl] at hi
    rw [hb i hi]
    have hn := (hg.nodes i hi).1
    rcases heard_book hn xs with e | ⟨l, hlo, hlb, e⟩
    · rw [e]; exact h.books i hi
    · rw [e]
      exact Of.join (book_up (node_up hn)) (book_up hlb) (h.books i hi) (hx l hlo)
  · rw [hl] at hi
    rw [hb i hi]
    have hn := (hg.nodes i hi).1
    obtain ⟨y, hy, hk, hdd⟩ := h.own i hi e he ho
    rcases heard_book hn xs with e | ⟨l, hlo, hlb, e⟩
    · rw [e]; exact ⟨y, hy, hk, hdd⟩
    · rw [e]
      obtain ⟨z, hz, hkz, hdz⟩ := join_has_left (book_up (node_up hn)) (book_up hlb) hy
      exact ⟨z, hz, by omega, by omega⟩
theorem LogNet.fall {log : List Ent} {nds : List Nd} {fl : List (List Int)} (h : LogNet log nds fl) (hg : NetGood nds fl) {j : Nat} (hj : j < nds.length) : LogNet log (nds.set j (fallen (ND nds j))) fl := by
  have hb : ∀ i, i < nds.length → (ND (nds.set j (fallen (ND nds j))) i).book = (ND nds i).book := fun i hi => by
    rw [ND_set hi]
    split
    · rename_i e; rw [e]; exact fallen_book (hg.nodes j hj).1
    · rfl
  exact ⟨h.isLog, h.good, fun i hi => by rw [List.length_set] at hi; rw [hb i hi]; exact h.books i hi, h.letters, fun i hi => by rw [List.length_set] at hi; rw [hb i hi]; exact h.own i hi⟩
theorem LogNet.more {log : List Ent} {nds : List Nd} {fl : List (List Int)} (h : LogNet log nds fl) {x : List Int} (hx : ∀ l, openR x = some l → Of log l.p) : LogNet log nds (sent fl x) := by
  refine ⟨h.isLog, h.good, h.books, fun y hy => ?_, h.own⟩
  unfold sent at hy
  split at hy
  · exact h.letters y hy
  · rcases List.mem_append.1 hy with hy | hy
    · exact h.letters y hy
    · rw [List.mem_singleton.1 hy]; exact hx
theorem told_part {nds : List Nd} {fl : List (List Int)} (hg : NetGood nds fl) {j b : Nat} (hj : j < nds.length) (hb : b < nds.length) {l : Let} (hl : openR (told (ND nds j) b) = some l) : ∀ e ∈ l.p, e ∈ (ND nds j).book := by
  obtain ⟨hn, hme⟩ := hg.nodes j hj
  have h4 := hg.four
  have hbk := node_up hn
  have hv : vecOk (vec (ND nds j).book) = true := by
    refine vecPre_all rfl fun i hi => ?_
    rw [vec_get0 _ i hi]
    have := mx_range (book_up hbk).1 (i : Int)
    simp [inB, this]
  unfold told at hl
  rw [open_sealed ⟨by omega, by omega⟩ ⟨by omega, by omega⟩ hv (part_book hbk _)] at hl
  split at hl
  · simp only [Option.some.injEq] at hl
    rw [← hl]
    exact fun e he => (List.mem_filter.1 he).1
  · cases hl
theorem moved_log {log : List Ent} {nds : List Nd} {fl : List (List Int)} (h : LogNet log nds fl) (hg : NetGood nds fl) {s : Stp} (hs : ¬ s.k = 6) : ∃ log', LogNet log' (moved nds fl s).1.1 (moved nds fl s).1.2 := by
  unfold moved
  split
  · exact ⟨log, h⟩
  · rename_i hok
    have hok : stepOk s = true := by simpa using hok
    obtain ⟨ha, hb, hc, hkd⟩ := step_parts hok
    have hkk := kind_parts hkd
    split
    · rename_i hk
      split
      · rename_i hlt
        have hd : deedOk s.dk s.dn s.dt s.dm = true := by
          rcases hkk with h1 | h1 | h1 | h1 | h1 | h1 | h1
          · exact h1.2
          all_goals omega
        have hdn := deed_node hd
        have e : s.dn = (s.dn.toNat : Int) := by omega
        generalize s.dn.toNat = j at hlt e
        rw [e] at hd ⊢
        exact h.deed hg hlt hd
      · exact ⟨log, h⟩
    · split
      · split
        · rename_i hh
          exact ⟨log, h.more fun l hl => fun e he => h.books _ hh.1 e (told_part hg hh.1 hh.2.1 hl e he)⟩
        · exact ⟨log, h⟩
      · split
        · split
          · rename_i hlt
            exact ⟨log, h.fall hg hlt⟩
          · exact ⟨log, h⟩
        · split
          · exact ⟨log, h⟩
          · rename_i hlt
            have hlt : s.a.toNat < fl.length := by omega
            have hm := RW_mem hlt
            split
            · exact ⟨log, (h.hear hg (h.letters _ hm)).flight fun x hx => List.mem_of_mem_eraseIdx hx⟩
            · split
              · exact ⟨log, h.more (h.letters _ hm)⟩
              · split
                · exact ⟨log, h.flight fun x hx => List.mem_of_mem_eraseIdx hx⟩
                · rename_i h3 h4 h5 h6 h7
                  exfalso
                  omega
end Go.Proofs.YtoniahfdjhhalaaGreat

namespace Go.Proofs.YtoniahfdjhhalaaGreat
open Go.RowKit
structure LDice (B g : Nat) (w : World) : Prop where
  hB : B ≤ g
  hg : g < w.heap.size
  dice : ∃ ao n cap bs, Bytes B w ao n cap bs ∧ w.cell? ⟨g, 0, none⟩ = some (.slice ao n cap) ∧ ∃ i : Nat, i ≤ n ∧ w.cell? ⟨g, 1, none⟩ = some (.int .i64 i) ∧ ∃ h : Int, 0 ≤ h ∧ h ≤ 18446744073709551615 ∧ w.cell? ⟨g, 2, none⟩ = some (.int .u64 h)
  free : ∀ o, w.frozen? ⟨g, o, none⟩ = false
theorem u64_and24 (n : Int) : bits .and .u64 n 16777215 = n % 16777216 := by
  have h127 : (BitVec.ofInt 64 16777215).toNat = 2 ^ 24 - 1 := by decide
  have key : (BitVec.ofInt 64 n &&& BitVec.ofInt 64 16777215).toNat = (n % ((2 ^ 64 : Nat) : Int)).toNat % 2 ^ 24 := by
    rw [BitVec.toNat_and, BitVec.toNat_ofInt, h127, Nat.and_two_pow_sub_one_eq_mod]
  show IntKind.u64.wrap ((BitVec.ofInt 64 n &&& BitVec.ofInt 64 16777215).toNat : Nat) = n % 16777216
  rw [key]
  show (((n % ((2 ^ 64 : Nat) : Int)).toNat % 2 ^ 24 : Nat) : Int) % (2 ^ 64 : Nat) = _
  omega
theorem wrap_u64_rng (n : Int) : 0 ≤ IntKind.u64.wrap n ∧ IntKind.u64.wrap n ≤ 18446744073709551615 := by
  show 0 ≤ n % ((2 ^ 64 : Nat) : Int) ∧ n % ((2 ^ 64 : Nat) : Int) ≤ 18446744073709551615
  omega
theorem wrap24 (n : Int) : 0 ≤ wrap64 (bits .and .u64 n 16777215) ∧ wrap64 (bits .and .u64 n 16777215) ≤ 16777215 := by
  rw [u64_and24]
  unfold wrap64
  omega
theorem LDice.moved {B g : Nat} {w : World} (hB : B ≤ g) (hg : g < w.heap.size) {ao : Option Addr} {n cap : Nat} {bs : List Int} (hb : Bytes B w ao n cap bs) (h0 : w.cell? ⟨g, 0, none⟩ = some (.slice ao n cap))
    {v2 : Value} (h2 : w.cell? ⟨g, 2, none⟩ = some v2) {v1 : Value} (h1 : w.cell? ⟨g, 1, none⟩ = some v1) (hf : ∀ o, w.frozen? ⟨g, o, none⟩ = false) (i : Nat) (hi : i ≤ n) (q : Int) (hq : 0 ≤ q ∧ q ≤ 18446744073709551615) (k : Nat) (p : Int) (hp : p = i) :
    Only g w (((w.setCell ⟨g, 2, none⟩ (.int .u64 q)).drewN k).setCell ⟨g, 1, none⟩ (.int .i64 p)) ∧ LDice B g (((w.setCell ⟨g, 2, none⟩ (.int .u64 q)).drewN k).setCell ⟨g, 1, none⟩ (.int .i64 p)) := by
  subst hp
  have ho : Only g w (((w.setCell ⟨g, 2, none⟩ (.int .u64 q)).drewN k).setCell ⟨g, 1, none⟩ (.int .i64 i)) := (((Only.refl g w).setCell 2 _).drewN _).setCell 1 _
  exact ⟨ho, hB, by rw [ho.size]; exact hg, ⟨ao, n, cap, bs, hb.grown ho.grown hB, by go_simp, i, hi, by go_simp, q, hq.1, hq.2, by go_simp⟩, fun o => by have := hf o; go_simp⟩
theorem LDice.rolled {B g : Nat} {w : World} (hB : B ≤ g) (hg : g < w.heap.size) {ao : Option Addr} {n cap : Nat} {bs : List Int} (hb : Bytes B w ao n cap bs) (h0 : w.cell? ⟨g, 0, none⟩ = some (.slice ao n cap))
    {v2 : Value} (h2 : w.cell? ⟨g, 2, none⟩ = some v2) {i : Nat} (h1 : w.cell? ⟨g, 1, none⟩ = some (.int .i64 i)) (hf : ∀ o, w.frozen? ⟨g, o, none⟩ = false) (hi : i ≤ n) (q : Int) (hq : 0 ≤ q ∧ q ≤ 18446744073709551615) (k : Nat) :
    Only g w ((w.setCell ⟨g, 2, none⟩ (.int .u64 q)).drewN k) ∧ LDice B g ((w.setCell ⟨g, 2, none⟩ (.int .u64 q)).drewN k) := by
  have ho : Only g w ((w.setCell ⟨g, 2, none⟩ (.int .u64 q)).drewN k) := ((Only.refl g w).setCell 2 _).drewN _
  exact ⟨ho, hB, by rw [ho.size]; exact hg, ⟨ao, n, cap, bs, hb.grown ho.grown hB, by go_simp, i, hi, by go_simp, q, hq.1, hq.2, by go_simp⟩, fun o => by have := hf o; go_simp⟩
theorem LDice.below {B g C : Nat} {w w' : World} (hd : LDice B g w) (hb : Below C w w') (hC : g < C) : LDice B g w' := by
  obtain ⟨hB, hg, ⟨ao, n, cap, bs, hby, h0, i, hi, h1, h, hh1, hh2, h2⟩, hf⟩ := hd
  exact ⟨hB, Nat.lt_of_lt_of_le hg hb.size, ⟨ao, n, cap, bs, hby.below hb (by omega) (Nat.le_refl _), (hb.cell (p := ⟨g, 0, none⟩) hC).trans h0, i, hi, (hb.cell (p := ⟨g, 1, none⟩) hC).trans h1, h, hh1, hh2, (hb.cell (p := ⟨g, 2, none⟩) hC).trans h2⟩,
    fun o => (hb.frozen (p := ⟨g, o, none⟩) hC).trans (hf o)⟩
def LLow (B g : Nat) (n : Int) (w : World) (e : Ending) (w' : World) : Prop := ∃ r : Nat, e = .returned (.int .i64 r) ∧ (r : Int) < n ∧ Only g w w' ∧ LDice B g w'
theorem LLow.mk {B g : Nat} {n r : Int} {w w' : World} (h0 : 0 ≤ r) (h1 : r < n) (ho : Only g w w') (hd : LDice B g w') : LLow B g n w (.returned (.int .i64 r)) w' := by
  obtain ⟨k, rfl⟩ := Int.eq_ofNat_of_zero_le h0
  exact ⟨k, rfl, h1, ho, hd⟩
set_option maxHeartbeats 400000 in
set_option maxRecDepth 100000 in
theorem ldBelow_any (B g : Nat) (n : Int) (w : World) (hd : LDice B g w) (hn : 0 < n) (hn2 : n ≤ 4611686018427387904) :
    Calls Tryz.prog 25 #[.pointer (some ⟨g, 0, none⟩), .int .i64 n] w (LLow B g n w) := by
  obtain ⟨hB, hg, ⟨ao, m, cap, bs, hb, h0, i, hi, h1, h, hh1, hh2, h2⟩, hf⟩ := hd
  have f1 := hf 1
  have f2 := hf 2
  have hb1 := hb.hcap; have hb2 := hb.hmax
  unfold maxLen at hb2
  have HF := Lib.hid hf; clear hf
  have hnz : ¬ n = 0 := by omega
  by_cases hlt : i < m
  · obtain ⟨b, off, rfl, hbB, hc, hr0, hr1⟩ := hb.at i hlt
    have hne : b ≠ g := by omega
    generalize bs.getD i 0 = y at hc hr0 hr1
    have i1 : (0 : Int) ≤ i := by omega
    have i2 : (i : Int) < m := by omega
    go_enter Tryz.func25, Tryz.ntmps25
    go_wp2
    have hz := wrap24 (IntKind.u64.wrap (IntKind.u64.wrap (h * 6364136223846793005) + 1442695040888963407) / 8589934592)
    have hq := wrap_u64_rng (IntKind.u64.wrap (h * 6364136223846793005) + 1442695040888963407)
    generalize wrap64 (bits BinOp.and IntKind.u64 (IntKind.u64.wrap (IntKind.u64.wrap (h * 6364136223846793005) + 1442695040888963407) / 8589934592) 16777215) = z at hz
    generalize IntKind.u64.wrap (IntKind.u64.wrap (h * 6364136223846793005) + 1442695040888963407) = q at hq
    obtain ⟨hz0, hz1⟩ := hz
    have HQ := Lib.hid hq; clear hq
    go_quiet (fail)
    go_wp2
    go_quiet (fail)
    go_wp2
    go_ret
    exact LLow.mk (Int.emod_nonneg _ hnz) (Int.emod_lt_of_pos _ hn) (LDice.moved hB hg hb h0 h2 h1 HF.out (i + 1) (by omega) q HQ.out _ _ (by omega)).1 (LDice.moved hB hg hb h0 h2 h1 HF.out (i + 1) (by omega) q HQ.out _ _ (by omega)).2
  · have hin : i = m := by omega
    have i4 : decide ((i : Int) < m) = false := decide_eq_false (by omega)
    go_enter Tryz.func25, Tryz.ntmps25
    go_wp2
    have hz := wrap24 (IntKind.u64.wrap (IntKind.u64.wrap (h * 6364136223846793005) + 1442695040888963407) / 8589934592)
    have hq := wrap_u64_rng (IntKind.u64.wrap (h * 6364136223846793005) + 1442695040888963407)
    generalize wrap64 (bits BinOp.and IntKind.u64 (IntKind.u64.wrap (IntKind.u64.wrap (h * 6364136223846793005) + 1442695040888963407) / 8589934592) 16777215) = z at hz
    generalize IntKind.u64.wrap (IntKind.u64.wrap (h * 6364136223846793005) + 1442695040888963407) = q at hq
    obtain ⟨hz0, hz1⟩ := hz
    have HQ := Lib.hid hq; clear hq
    go_quiet (fail)
    go_wp2
    go_ret
    exact LLow.mk (Int.emod_nonneg _ hnz) (Int.emod_lt_of_pos _ hn) (LDice.rolled hB hg hb h0 h2 h1 HF.out hi q HQ.out _).1 (LDice.rolled hB hg hb h0 h2 h1 HF.out hi q HQ.out _).2
def NewLDice (w : World) (e : Ending) (w' : World) : Prop := e = .returned (.pointer (some ⟨w.heap.size, 0, none⟩)) ∧ LDice w.heap.size w.heap.size w' ∧ Below w.heap.size w w'
theorem LDice.hashed {B g : Nat} {w : World} (hd : LDice B g w) (q : Int) (hq : 0 ≤ q ∧ q ≤ 18446744073709551615) (k : Nat) : LDice B g ((w.setCell ⟨g, 2, none⟩ (.int .u64 q)).drewN k) := by
  obtain ⟨hB, hg, ⟨ao, n, cap, bs, hb, h0, i, hi, h1, h, hh1, hh2, h2⟩, hf⟩ := hd
  exact (LDice.rolled hB hg hb h0 h2 h1 hf hi q hq k).2
set_option maxHeartbeats 400000 in
set_option maxRecDepth 100000 in
theorem roll_any (B : Nat) (ao : Option Addr) (n cap : Nat) (bs : List Int) (s : Int) (w : World) (hb : Bytes B w ao n cap bs) (hB : B ≤ w.heap.size) (hn : n ≤ 1099511627776) :
    Calls Tryz.prog 13 #[.slice ao n cap, .int .u64 s] w (NewLDice w) := by
  have hb1 := hb.hcap; have hb2 := hb.hmax
  unfold maxLen at hb2
  go_enter Tryz.func13, Tryz.ntmps13
  go_wp2
  have hq0 := wrap_u64_rng (IntKind.u64.wrap (s * 7919) + n)
  generalize IntKind.u64.wrap (IntKind.u64.wrap (s * 7919) + n) = q0 at hq0
  have hal : Below w.heap.size w (w.alloc (Obj.cells #[Value.slice ao n cap, Value.int IntKind.i64 0, Value.int IntKind.u64 q0] 65)) := (Below.refl _ _).alloc (Nat.le_refl _) _
  have hd0 : LDice w.heap.size w.heap.size (w.alloc (Obj.cells #[Value.slice ao n cap, Value.int IntKind.i64 0, Value.int IntKind.u64 q0] 65)) :=
    ⟨Nat.le_refl _, by simp, ⟨ao, n, cap, bs, hb.below hal hB hB, by go_simp, 0, Nat.zero_le _, by go_simp, q0, hq0.1, hq0.2, by go_simp⟩, fun o => by go_simp⟩
  go_loopw [6] (fun si wr => ∃ i : Nat, si = .int .i64 i ∧ i ≤ n ∧ LDice w.heap.size w.heap.size wr ∧ Below w.heap.size w wr) (fun si _ => n - (intOf si).toNat)
  case atStart => exact ⟨0, rfl, Nat.zero_le _, hd0, hal⟩
  case round =>
    obtain ⟨i, rfl, hi, hd, hbel⟩ := hrel
    clear hd0 hal
    have hb' := hb.below hbel hB (Nat.le_refl _)
    have hsz := hbel.size
    by_cases hlt : i < n
    · obtain ⟨b, off, rfl, hbB, hc, hr0, hr1⟩ := hb'.at i hlt
      have hne : b ≠ w.heap.size := by omega
      generalize bs.getD i 0 = y at hc hr0 hr1
      have HD := Lib.hid hd
      obtain ⟨-, hg, ⟨_, _, _, _, -, -, _, -, -, h, hh1, hh2, h2⟩, hf⟩ := hd
      have f2 := hf 2
      clear hf
      have i1 : (0 : Int) ≤ i := by omega
      have i2 : (i : Int) < n := by omega
      go_wp2
      go_region
      go_wp2
      go_roundw
      case rel => exact ⟨i + 1, by go_num, by omega, HD.out.hashed _ (wrap_u64_rng _) 1, (hbel.setCell (Nat.le_refl _) _).drew⟩
      case measure => simp [intOf]; omega
    · go_wp2
      go_ret
      exact ⟨rfl, hd, hbel⟩
end Go.Proofs.YtoniahfdjhhalaaGreat
