/- Texts of this claim, put together. -/
import Derived.Test.YtccoljbnddfmpaaGreatDoorQ1
import Derived.Test.YtccoljbnddfmpaaGreatDoorQ10
import Derived.Test.YtccoljbnddfmpaaGreatDoorQ13
import Derived.Test.YtccoljbnddfmpaaGreatDoorQ15

namespace Go.Proofs.YtccoljbnddfmpaaGreatDoor
open Go.RowKit
theorem run_append_nil_makeE {P : Program} (w : World) (t u ty e : TypeId) (i : TypeInfo) (z : Value) (ht : P.underlying t = some (.slice e)) (hu : P.underlying u = some (.int .i64)) (hi : P.info? e = some i) (hz : i.zero = some z) (hs : i.size = 4)
    (n : Nat) (h0 : 0 < n) (h63 : n ≤ 1099511627776) (h48 : n * i.bytes ≤ 281474976710656) :
    (Builtin.append_ #[t, u] ty #[.slice none 0 0, .int .i64 n]).run P w =
      .ok (.slice (some ⟨w.heap.size, 0, none⟩) n (grownCap w n 0 e)) (w.drew.alloc (.cells (Builtin.zeroCells z.cells n ++ Builtin.zeroCells z.cells (grownCap w n 0 e - n)) e)) := by
  have hw : IntKind.i64.wrap (n : Int) = n := by rw [IntKind.wrap_i64]; omega
  have hn : n ≠ 0 := by omega
  have h1 : ¬ ((n : Int) < 0) := by omega
  have h2 : ¬ (281474976710656 < (n : Int) * (i.bytes : Int)) := by
    have : ((n * i.bytes : Nat) : Int) ≤ 281474976710656 := by omega
    rw [Int.natCast_mul] at this
    omega
  have h63' : ¬ (9223372036854775807 < (n : Int)) := by omega
  have h48' : ¬ (281474976710656 < Builtin.nextslicecap n 0 * i.bytes) := by rw [nextslicecap_zero h0]; omega
  have ha : ∀ w : World, (asInt (Value.int .i64 n)).run P w = .ok (n : Int) w := fun _ => rfl
  simp [Builtin.append_, ha, run_underlying ht, run_underlying hu, sizeOf, typeInfo, zeroValue, hi, hz, hs, hw, h1, h2, Builtin.lenOf, hn, h63', h48', Question.forced, run_firstCells_none, newRow, grownCap]
  intro h
  omega
theorem under_intE : Tryz.prog.underlying 3 = some (.int .i64) := by kernel_rfl
theorem wpList_append_nil_makeE {ops : Array Oper} {rest : List Oper} {o : Oper} {a : Act} {Q : Exit → Act → World → Prop} {w : World} (hgd : o.guard = none) (s x : Operand)
    (ho : o.op = .call { callee := .builtin .append, args := #[s, x], argTypes := #[24, 3] })
    (n : Nat) (hs : a.eval s = .slice none 0 0) (hx : a.eval x = .int .i64 n) (h0 : 0 < n) (hn : n ≤ 1099511627776)
    (hK : ∀ cap w', n ≤ cap → cap ≤ maxLen → OwnE w.heap.size w' (.slice (some ⟨w.heap.size, 0, none⟩) 0 cap) [] → Below w.heap.size w w' → wpList Tryz.prog ops Q rest (a.put o.dst (.slice (some ⟨w.heap.size, 0, none⟩) n cap)) w') :
    wpList Tryz.prog ops Q (o :: rest) a w := by
  obtain ⟨i0, hi, hz0, hz1, hz2⟩ := info_parts infoE
  have hr := run_append_nil_makeE (P := Tryz.prog) w 24 3 o.type 47 i0 (.agg #[.int .i64 0, .int .i64 0, .int .i64 0, .int .i64 0]) Tryz.underlying24 under_intE hi hz0 hz1 n h0 hn (by rw [hz2]; omega)
  refine wpList_plain hgd fun K hKK => ?_
  unfold Oper.wp
  simp [execOp, ho, resolve, invoke, builtin, hs, hx, hr, Result.andThen]
  refine hKK _ _ (hK _ _ (grownCap_ge _ _ _ _) (grownCap_le_maxLen _ _ _ _ (by unfold maxLen; omega)) ?_ ?_)
  · unfold OwnE
    refine ⟨rfl, .inr ⟨w.heap.size, _, _, rfl, Nat.le_refl _, heap_alloc_new _ _, Nat.zero_le _, grownCap_le_maxLen _ _ _ _ (by unfold maxLen; omega), ?_, by simp [flatE]⟩⟩
    have := grownCap_ge w n 0 47
    have hz : (Value.agg #[.int .i64 0, .int .i64 0, .int .i64 0, .int .i64 0]).cells.size = 4 := rfl
    rw [Array.size_append, size_zeroCells, size_zeroCells, hz]
    omega
  · exact ((Below.refl _ _).drew).alloc (Nat.le_refl _) _
set_option maxHeartbeats 400000 in
theorem growE_any (n : Nat) (hn : n ≤ 1099511627776) (w : World) :
    Calls Tryz.prog 113 #[.slice none 0 0, .int .i64 n] w (NewEs [] w) := by
  by_cases h0 : n = 0
  · subst h0
    go_enter Tryz.func113, Tryz.ntmps113
    go_wp2
    go_ret
    exact ⟨_, rfl, ownE_nil _ _, Below.refl _ _⟩
  · have h1 : 0 < n := by omega
    have h2 : decide ((n : Int) < 0) = false := decide_eq_false (by omega)
    clear h0
    go_enter Tryz.func113, Tryz.ntmps113
    go_wp2_with (at_builtin; refine wpList_append_nil_makeE rfl _ _ rfl n rfl rfl h1 hn ?_; intro cap w' hc1 hc2 hown hbel)
    go_ret
    exact ⟨_, rfl, hown, hbel⟩
structure SlE where
  ao : Option Addr
  n : Nat
  cap : Nat
  xs : List Ent
def SlE.val (p : SlE) : Value := .slice p.ao p.n p.cap
def SlE.ok (B : Nat) (w : World) (p : SlE) : Prop := Ents B w p.ao p.n p.cap p.xs ∧ (p.ao = none → p.cap = 0)
def flatS (ps : List SlE) : List Ent := ps.flatMap SlE.xs
theorem flatS_snoc (ps : List SlE) (k : Nat) (h : k < ps.length) : flatS (ps.take (k + 1)) = flatS (ps.take k) ++ (ps[k]).xs := by
  unfold flatS
  rw [List.take_succ_eq_append_getElem h, List.flatMap_append]
  simp
theorem flatS_take_len (ps : List SlE) (k : Nat) : (flatS (ps.take k)).length ≤ (flatS ps).length := by
  have : flatS ps = flatS (ps.take k) ++ flatS (ps.drop k) := by
    unfold flatS; rw [← List.flatMap_append, List.take_append_drop]
  rw [this, List.length_append]
  omega
set_option maxHeartbeats 400000 in
set_option maxRecDepth 100000 in
theorem concatE_any (B g : Nat) (ps : List SlE) (w : World) (hg : g < w.heap.size) (hB : B ≤ w.heap.size) (hok : ∀ p ∈ ps, p.ok B w)
    (hcell : ∀ j (h : j < ps.length), w.cell? ⟨g, j, none⟩ = some (ps[j]).val) (htot : (flatS ps).length ≤ 1099511627776) (hps : ps.length ≤ 1099511627776) :
    Calls Tryz.prog 87 #[.slice (some ⟨g, 0, none⟩) ps.length ps.length] w (NewEs (flatS ps) w) := by
  have HTOT := Lib.hid htot; clear htot
  have HCELL := Lib.hid hcell; clear hcell
  have HOK := Lib.hid hok; clear hok
  obtain ⟨m, hm⟩ : ∃ m, m = ps.length := ⟨_, rfl⟩
  rw [← hm]
  rw [← hm] at hps
  have HM := Lib.hid hm; clear hm
  go_enter Tryz.func87, Tryz.ntmps87
  go_wp2
  go_loop [3, 11] (fun st si => ∃ (k t : Nat), k ≤ m ∧ si = .int .i64 k ∧ st = .int .i64 t ∧ Hid (t = (flatS (ps.take k)).length) ∧ t ≤ 1099511627776) (fun _ si => m - (intOf si).toNat)
  case atStart => exact ⟨0, 0, Nat.zero_le _, rfl, rfl, rfl, by omega⟩
  case round =>
    obtain ⟨k, t, hk, rfl, rfl, ht, ht1⟩ := hrel
    by_cases hlt : k < m
    · have hkl : k < ps.length := by have := HM.out; omega
      have g1 := HCELL.out k hkl
      have hp := HOK.out _ (List.getElem_mem hkl)
      have hf := flatS_snoc ps k hkl
      have hfl := flatS_take_len ps (k + 1)
      rw [hf, List.length_append] at hfl
      generalize ps[k] = p at g1 hp hf hfl
      obtain ⟨ao, n, cap, xs⟩ := p
      obtain ⟨hi, -⟩ := hp
      have hl : xs.length = n := hi.hlen
      have hn2 : n ≤ 1099511627776 := by have := HTOT.out; have : ({ao := ao, n := n, cap := cap, xs := xs} : SlE).xs.length = n := hl; omega
      have ht2 : t + n ≤ 1099511627776 := by have := HTOT.out; have h2 : ({ao := ao, n := n, cap := cap, xs := xs} : SlE).xs.length = n := hl; have := ht.out; omega
      have ht3 : Hid (t + n = (flatS (ps.take (k + 1))).length) := by
        refine Lib.hid ?_
        rw [hf, List.length_append, ← ht.out]
        have h2 : ({ao := ao, n := n, cap := cap, xs := xs} : SlE).xs.length = n := hl
        omega
      simp only [SlE.val] at g1
      clear hf hfl hl hi
      go_wp2
      go_round
      case rel => exact ⟨k + 1, t + n, by omega, by go_num, by go_num, ht3, ht2⟩
      case measure => simp [intOf]; omega
    · have ek : k = m := by omega
      subst ek
      have ht' : t = (flatS ps).length := by rw [ht.out, List.take_of_length_le (by have := HM.out; omega)]
      clear ht
      have HT := Lib.hid ht'; clear ht'
      go_wp2_with fail
      refine (growE_any t ht1 _).mono ?_
      rintro e w1 ⟨v, rfl, hown, hb1⟩
      have hs1 := hb1.size
      go_wp2_with fail
      go_loopw [6, 27] (fun sv si wr => ∃ (j : Nat), j ≤ k ∧ si = .int .i64 j ∧ OwnE w.heap.size wr sv (flatS (ps.take j)) ∧ Below w.heap.size w wr) (fun _ si _ => k - (intOf si).toNat)
      case atStart => exact ⟨0, Nat.zero_le _, rfl, hown, hb1⟩
      case round =>
        obtain ⟨j, hj, rfl, hown, hbel⟩ := hrel
        have hsz := hbel.size
        by_cases hlt : j < k
        · have hkl : j < ps.length := by have := HM.out; omega
          have g1 : wr.cell? ⟨g, j, none⟩ = some (ps[j]).val := (hbel.cell (p := ⟨g, j, none⟩) hg).trans (HCELL.out j hkl)
          have hp := HOK.out _ (List.getElem_mem hkl)
          have hf := flatS_snoc ps j hkl
          have hfl := flatS_take_len ps (j + 1)
          rw [hf, List.length_append] at hfl
          generalize ps[j] = p at g1 hp hf hfl
          obtain ⟨ao, n, cap, xs⟩ := p
          obtain ⟨hi, hz⟩ := hp
          have hi2 : Ents B wr ao n cap xs := hi.below hbel hB (Nat.le_refl _)
          have hz2 : ao = none → cap = 0 := hz
          have hl : xs.length = n := hi.hlen
          have hlen : (flatS (ps.take j)).length + n ≤ 1099511627776 := by
            have := HTOT.out; have h2 : ({ao := ao, n := n, cap := cap, xs := xs} : SlE).xs.length = n := hl; omega
          have hf2 : flatS (ps.take (j + 1)) = flatS (ps.take j) ++ xs := hf
          have HF := Lib.hid hf2
          have HZ := Lib.hid hz2
          have HL := Lib.hid hlen
          simp only [SlE.val] at g1
          clear hf hf2 hfl hl hi hz hz2 hlen
          go_wp2_with (at_builtin; refine appendE_all rfl _ _ rfl w.heap.size B _ (flatS (ps.take j)) xs ao n cap rfl rfl hi2 HZ.out hown hsz HL.out ?_; intro vA wA hownA hbA)
          go_roundw
          case rel => exact ⟨j + 1, by omega, by go_num, by rw [HF.out]; exact hownA, hbel.trans hbA⟩
          case measure => simp [intOf]; omega
        · go_wp2
          go_ret
          refine ⟨_, rfl, ?_, hbel⟩
          rw [List.take_of_length_le (by have := HM.out; omega)] at hown
          exact hown
theorem SlE.ok.alloc {B : Nat} {w : World} {p : SlE} (h : p.ok B w) (hB : B ≤ w.heap.size) (o : Obj) : p.ok B (w.alloc o) :=
  ⟨h.1.below ((Below.refl _ _).alloc hB o) (Nat.le_refl _) (Nat.le_refl _), h.2⟩
theorem concatX_any (B : Nat) (a1 a3 : Option Addr) (n1 c1 n3 c3 : Nat) (l1 l3 : List Ent) (x : Ent) (w : World) (hB : B ≤ w.heap.size) (h1 : Ents B w a1 n1 c1 l1) (z1 : a1 = none → c1 = 0) (h3 : Ents B w a3 n3 c3 l3) (z3 : a3 = none → c3 = 0)
    (hxw : x.wf) (hl : l1.length + 1 + l3.length ≤ 1099511627776) :
    Calls Tryz.prog 87 #[.slice (some ⟨w.heap.size + 1, 0, none⟩) 3 3]
      ((w.alloc (.cells #[.int .i64 x.o, .int .i64 x.s, .int .i64 x.a, .int .i64 x.d] 47)).alloc (.cells #[.slice a1 n1 c1, .slice (some ⟨w.heap.size, 0, none⟩) 1 1, .slice a3 n3 c3] 24)).drew (NewEs (l1 ++ [x] ++ l3) w) := by
  have hX : Blk (w.alloc (.cells #[.int .i64 x.o, .int .i64 x.s, .int .i64 x.a, .int .i64 x.d] 47)) w.heap.size 47 #[.int .i64 x.o, .int .i64 x.s, .int .i64 x.a, .int .i64 x.d] := Blk.new _ _ _
  have hb1 : Below w.heap.size w (w.alloc (.cells #[.int .i64 x.o, .int .i64 x.s, .int .i64 x.a, .int .i64 x.d] 47)) := (Below.refl _ _).alloc (Nat.le_refl _) _
  have hs1 : (w.alloc (.cells #[.int .i64 x.o, .int .i64 x.s, .int .i64 x.a, .int .i64 x.d] 47)).heap.size = w.heap.size + 1 := by simp
  generalize w.alloc (.cells #[.int .i64 x.o, .int .i64 x.s, .int .i64 x.a, .int .i64 x.d] 47) = w1 at hX hb1 hs1
  have hL : Blk (w1.alloc (.cells #[.slice a1 n1 c1, .slice (some ⟨w.heap.size, 0, none⟩) 1 1, .slice a3 n3 c3] 24)).drew (w.heap.size + 1) 24 #[.slice a1 n1 c1, .slice (some ⟨w.heap.size, 0, none⟩) 1 1, .slice a3 n3 c3] := by
    rw [← hs1]; exact Blk.new _ _ _
  have hb2 : Below w1.heap.size w1 (w1.alloc (.cells #[.slice a1 n1 c1, .slice (some ⟨w.heap.size, 0, none⟩) 1 1, .slice a3 n3 c3] 24)).drew := ((Below.refl _ _).alloc (Nat.le_refl _) _).drew
  generalize (w1.alloc (.cells #[.slice a1 n1 c1, .slice (some ⟨w.heap.size, 0, none⟩) 1 1, .slice a3 n3 c3] 24)).drew = w2 at hL hb2
  have hX2 := hX.below hb2 (by omega)
  have hb12 := hb1.trans (hb2.mono (by omega))
  have hlt := hL.lt
  have e1 : Ents w2.heap.size w2 a1 n1 c1 l1 := h1.below hb12 hB (by omega)
  have e3 : Ents w2.heap.size w2 a3 n3 c3 l3 := h3.below hb12 hB (by omega)
  have e2 : Ents w2.heap.size w2 (some ⟨w.heap.size, 0, none⟩) 1 1 [x] := by
    refine ⟨rfl, Nat.le_refl _, by unfold maxLen; omega, fun j hj => ?_, fun e he => by simp at he; subst he; exact hxw⟩
    have : j = 0 := by omega
    subst this
    exact ⟨w.heap.size, 0, rfl, by omega, hX2.cell 0, hX2.cell 1, hX2.cell 2, hX2.cell 3⟩
  refine (concatE_any w2.heap.size (w.heap.size + 1) [⟨a1, n1, c1, l1⟩, ⟨some ⟨w.heap.size, 0, none⟩, 1, 1, [x]⟩, ⟨a3, n3, c3, l3⟩] w2 hlt (Nat.le_refl _) ?_ ?_ (by simp [flatS]; omega) (by simp)).mono ?_
  · intro p hp
    simp only [List.mem_cons, List.not_mem_nil, or_false] at hp
    rcases hp with rfl | rfl | rfl
    · exact ⟨e1, z1⟩
    · exact ⟨e2, fun h => by cases h⟩
    · exact ⟨e3, z3⟩
  · intro j hj
    rw [hL.cell j]
    match j, hj with
    | 0, _ => rfl
    | 1, _ => rfl
    | 2, _ => rfl
  · rintro e w' ⟨v, he, hown, hb⟩
    refine ⟨v, he, ?_, hb12.trans (hb.mono (by omega))⟩
    have := hown.mono (base' := w.heap.size) (by omega)
    simpa [flatS, List.append_assoc] using this
theorem put_low {es : List Ent} {x : Ent} {p : Nat} (hp : p ≤ es.length) (hlo : ∀ i, i < p → (E es i).key < x.key) : putE es x = es.take p ++ putE (es.drop p) x := by
  have hstep : ∀ k, k ≤ p → putE es x = es.take k ++ putE (es.drop k) x := by
    intro k
    induction k with
    | zero => intro _; rfl
    | succ k ih => intro hk; exact put_step (by omega) (ih (by omega)) (hlo k (by omega))
  exact hstep p (Nat.le_refl _)
theorem put_there {es : List Ent} {x : Ent} {p : Nat} (hlo : ∀ i, i < p → (E es i).key < x.key) (h : p < es.length ∧ (E es p).key = x.key) : putE es x = es.take p ++ [x] ++ es.drop (p + 1) :=
  put_same h.1 (put_low (by omega) hlo) h.2
theorem put_new {es : List Ent} {x : Ent} {p : Nat} (hp : p ≤ es.length) (hlo : ∀ i, i < p → (E es i).key < x.key) (hhi : ∀ i, p ≤ i → i < es.length → x.key ≤ (E es i).key) (h : ¬ (p < es.length ∧ (E es p).key = x.key)) :
    putE es x = es.take p ++ [x] ++ es.drop p := by
  by_cases hlt : p < es.length
  · have := hhi p (Nat.le_refl _) hlt
    exact put_else hlt (put_low hp hlo) (by omega) (fun e => h ⟨hlt, e⟩)
  · exact put_end (by omega) (put_low hp hlo)
set_option maxHeartbeats 2000000 in
set_option maxRecDepth 100000 in
theorem keyedWith_any (B : Nat) (ao : Option Addr) (n cap : Nat) (es : List Ent) (x : Ent) (w : World) (hx : Ents B w ao n cap es) (hz : ao = none → cap = 0) (hB : B ≤ w.heap.size) (hb : bookOk es = true) (hxw : x.wf) :
    Calls Tryz.prog 51 #[.agg #[.slice ao n cap, .func (.func 85) #[] #[]], .agg #[.int .i64 x.o, .int .i64 x.s, .int .i64 x.a, .int .i64 x.d]] w (NewEs (putE es x) w) := by
  have hx0 := hx.hlen; have hx1 := hx.hcap; have hx2 := hx.hmax
  unfold maxLen at hx2
  have hR := (parts_right (book_right hb)).1
  have hn20 : n ≤ 20 := by have := book_len hb; omega
  have hK := fun w => implKeyOf_any x.o x.s x.a x.d w
  have hkE : keyOf x.o x.s x.a x.d = x.key := rfl
  rw [hkE] at hK
  clear hkE
  have HX := Lib.hid hx0; clear hx0
  obtain ⟨W, hW⟩ : ∃ W, W = (w.alloc (.cells #[.slice ao n cap, .func (.func 85) #[] #[]] 93)).alloc (.cells #[.int .i64 x.o, .int .i64 x.s, .int .i64 x.a, .int .i64 x.d] 47) := ⟨_, rfl⟩
  have hb0 : Below w.heap.size w W := by rw [hW]; exact ((Below.refl _ _).alloc (Nat.le_refl _) _).alloc (by simp) _
  have hk0 : Blk W w.heap.size 93 #[.slice ao n cap, .func (.func 85) #[] #[]] := by rw [hW]; exact (Blk.new _ _ _).alloc _
  have he0 : Blk W (w.heap.size + 1) 47 #[.int .i64 x.o, .int .i64 x.s, .int .i64 x.a, .int .i64 x.d] := by
    rw [hW]
    have := Blk.new (w.alloc (.cells #[.slice ao n cap, .func (.func 85) #[] #[]] 93)) 47 #[.int .i64 x.o, .int .i64 x.s, .int .i64 x.a, .int .i64 x.d]
    simpa using this
  have hkl := hk0.lt
  have hel := he0.lt
  have HDD : ∀ w', Below W.heap.size W w' → Blk w' w.heap.size 93 #[.slice ao n cap, .func (.func 85) #[] #[]] := fun w' h => hk0.below h hkl
  have HEE : ∀ w', Below W.heap.size W w' → Blk w' (w.heap.size + 1) 47 #[.int .i64 x.o, .int .i64 x.s, .int .i64 x.a, .int .i64 x.d] := fun w' h => he0.below h hel
  have HD := Lib.hid HDD; have HE := Lib.hid HEE; clear HDD HEE
  have hs0 := hb0.size
  have hplace := fun wA (h : Below W.heap.size W wA) => place_any B ao n cap es x.key wA ((hx.below hb0 hB (Nat.le_refl B)).below h (by omega) (Nat.le_refl B)) (by have := h.size; omega) (by omega) hR
  have hthere := fun p (hlo : ∀ i, i < p → (E es i).key < x.key) (h : p < es.length ∧ (E es p).key = x.key) => put_there hlo h
  have hnew := fun p (hp : p ≤ es.length) (hlo : ∀ i, i < p → (E es i).key < x.key) (hhi : ∀ i, p ≤ i → i < es.length → x.key ≤ (E es i).key) (h : ¬ (p < es.length ∧ (E es p).key = x.key)) => put_new hp hlo hhi h
  generalize putE es x = res at hthere hnew ⊢
  generalize x.key = kx at hK hplace hthere hnew
  have HP := Lib.hid hplace; have HT := Lib.hid hthere; have HN := Lib.hid hnew; clear hplace hthere hnew hR
  have d0 := hk0.cell 0; have d1 := hk0.cell 1
  have p0 := he0.cell 0; have p1 := he0.cell 1; have p2 := he0.cell 2; have p3 := he0.cell 3
  go_enter Tryz.func51, Tryz.ntmps51
  go_upto_region 1 with fail
  rw [← hW]
  clear hW
  go_wp2_with fail
  go_region_held3 (fun w' => w'.cell? ⟨w.heap.size, 0, none⟩ = some (.slice ao n cap) ∧ w'.cell? ⟨w.heap.size, 1, none⟩ = some (.func (.func 85) #[] #[]) ∧ w'.cell? ⟨w.heap.size + 1, 0, none⟩ = some (.int .i64 x.o) ∧ w'.cell? ⟨w.heap.size + 1, 1, none⟩ = some (.int .i64 x.s) ∧ w'.cell? ⟨w.heap.size + 1, 2, none⟩ = some (.int .i64 x.a) ∧ w'.cell? ⟨w.heap.size + 1, 3, none⟩ = some (.int .i64 x.d))
    (first | exact ⟨(HD.out _ HBB).cell 0, (HD.out _ HBB).cell 1, (HE.out _ HBB).cell 0, (HE.out _ HBB).cell 1, (HE.out _ HBB).cell 2, (HE.out _ HBB).cell 3⟩ | exact ⟨(HD.out _ HBA).cell 0, (HD.out _ HBA).cell 1, (HE.out _ HBA).cell 0, (HE.out _ HBA).cell 1, (HE.out _ HBA).cell 2, (HE.out _ HBA).cell 3⟩ | exact ⟨d0, d1, p0, p1, p2, p3⟩)
    (first
      | (go_at_call 85; refine (hK _).mono ?_; rintro e wA ⟨rfl, hbA⟩; have HBA := (Below.refl W.heap.size W).drew.trans hbA)
      | (go_at_call 86; refine (HP.out _ HBA).mono ?_; rintro e wC ⟨p, rfl, hp, hlo, hhi, hbC⟩; have HBB := HBA.trans (hbC.mono HBA.size); generalize hq : decide (p < es.length ∧ (E es p).key = kx) = q; have HQ := Lib.hid hq; clear hq))
  have hBw := hb0.trans (HBB.mono hs0)
  have hkC := HD.out _ HBB
  have heC := HE.out _ HBB
  have hxC := hx.below hBw hB (Nat.le_refl B)
  have hpn : p ≤ n := by have := HX.out; omega
  have i1 : (0 : Int) ≤ p := by omega
  have i2 : (p : Int) ≤ n := by omega
  have i3 : (p : Int) ≤ cap := by omega
  have i4 : (n : Int) ≤ cap := by omega
  have j0 := hkC.cell 0; have j1 := hkC.cell 1
  have k0 := heC.cell 0; have k1 := heC.cell 1; have k2 := heC.cell 2; have k3 := heC.cell 3
  clear d0 d1 p0 p1 p2 p3
  have hsw := hBw.size
  have hkl2 := hkC.lt
  have hel2 := heC.lt
  have hlen := HX.out
  have HDD2 : ∀ w', Below wC.heap.size wC w' → Blk w' w.heap.size 93 #[.slice ao n cap, .func (.func 85) #[] #[]] := fun w' h => hkC.below h hkl2
  have HEE2 : ∀ w', Below wC.heap.size wC w' → Blk w' (w.heap.size + 1) 47 #[.int .i64 x.o, .int .i64 x.s, .int .i64 x.a, .int .i64 x.d] := fun w' h => heC.below h hel2
  have HD2 := Lib.hid HDD2; have HE2 := Lib.hid HEE2; clear HDD2 HEE2
  have HT1 := hxC.take p hpn
  have HL := Lib.hid hlen; clear hlen
  rcases q with _ | _
  · have hres := Lib.hid (HN.out p hp hlo hhi (of_decide_eq_false HQ.out))
    clear HT HN HQ hlo hhi HP
    by_cases hcp : cap = p
    · have hnp : n = p := by omega
      subst hcp
      subst hnp
      have HT3 : Ents B wC ao 0 0 (es.drop n) := by have := hxC.drop n hpn; simpa using this
      have hd : (es.take n).length + 1 + (es.drop n).length ≤ 1099511627776 := by have h1 := HL.out; rw [List.length_take, List.length_drop]; omega
      go_wp2_with fail
      go_region_held3 (fun w' => w'.cell? ⟨w.heap.size, 0, none⟩ = some (.slice ao n n) ∧ w'.cell? ⟨w.heap.size + 1, 0, none⟩ = some (.int .i64 x.o) ∧ w'.cell? ⟨w.heap.size + 1, 1, none⟩ = some (.int .i64 x.s) ∧ w'.cell? ⟨w.heap.size + 1, 2, none⟩ = some (.int .i64 x.a) ∧ w'.cell? ⟨w.heap.size + 1, 3, none⟩ = some (.int .i64 x.d))
        (first | exact ⟨(HD2.out _ HBC).cell 0, (HE2.out _ HBC).cell 0, (HE2.out _ HBC).cell 1, (HE2.out _ HBC).cell 2, (HE2.out _ HBC).cell 3⟩ | exact ⟨(HD2.out _ (((Below.refl wC.heap.size wC).alloc (Nat.le_refl _) _).alloc (by simp) _)).cell 0, (HE2.out _ (((Below.refl wC.heap.size wC).alloc (Nat.le_refl _) _).alloc (by simp) _)).cell 0, (HE2.out _ (((Below.refl wC.heap.size wC).alloc (Nat.le_refl _) _).alloc (by simp) _)).cell 1, (HE2.out _ (((Below.refl wC.heap.size wC).alloc (Nat.le_refl _) _).alloc (by simp) _)).cell 2, (HE2.out _ (((Below.refl wC.heap.size wC).alloc (Nat.le_refl _) _).alloc (by simp) _)).cell 3⟩ | exact ⟨(HD2.out _ ((Below.refl wC.heap.size wC).alloc (Nat.le_refl _) _)).cell 0, (HE2.out _ ((Below.refl wC.heap.size wC).alloc (Nat.le_refl _) _)).cell 0, (HE2.out _ ((Below.refl wC.heap.size wC).alloc (Nat.le_refl _) _)).cell 1, (HE2.out _ ((Below.refl wC.heap.size wC).alloc (Nat.le_refl _) _)).cell 2, (HE2.out _ ((Below.refl wC.heap.size wC).alloc (Nat.le_refl _) _)).cell 3⟩ | exact ⟨j0, k0, k1, k2, k3⟩)
        (first
          | (go_at_call 87; refine (concatX_any B _ _ _ _ _ _ _ (es.drop n) x wC (by omega) HT1 hz HT3 (fun _ => rfl) hxw hd).mono ?_; rintro e wE ⟨v, rfl, hown, hbE⟩; have HBC := hbE))
      go_wp2_with fail
      go_ret
      exact ⟨_, rfl, by rw [hres.out]; exact hown.mono hsw, hBw.trans (hbE.mono hsw)⟩
    · have HT3 : Ents B wC (ao.map (·.add (p * 4))) (n - p) (cap - p) (es.drop p) := by have := hxC.drop p hpn; rwa [if_neg hcp] at this
      have hz3 : (ao.map (·.add (p * 4))) = none → cap - p = 0 := fun h => by
        cases ao with
        | none => have := hz rfl; omega
        | some a => cases h
      have hd : (es.take p).length + 1 + (es.drop p).length ≤ 1099511627776 := by have h1 := HL.out; rw [List.length_take, List.length_drop]; omega
      go_wp2_with fail
      go_region_held3 (fun w' => w'.cell? ⟨w.heap.size, 0, none⟩ = some (.slice ao n cap) ∧ w'.cell? ⟨w.heap.size + 1, 0, none⟩ = some (.int .i64 x.o) ∧ w'.cell? ⟨w.heap.size + 1, 1, none⟩ = some (.int .i64 x.s) ∧ w'.cell? ⟨w.heap.size + 1, 2, none⟩ = some (.int .i64 x.a) ∧ w'.cell? ⟨w.heap.size + 1, 3, none⟩ = some (.int .i64 x.d))
        (first | exact ⟨(HD2.out _ HBC).cell 0, (HE2.out _ HBC).cell 0, (HE2.out _ HBC).cell 1, (HE2.out _ HBC).cell 2, (HE2.out _ HBC).cell 3⟩ | exact ⟨(HD2.out _ (((Below.refl wC.heap.size wC).alloc (Nat.le_refl _) _).alloc (by simp) _)).cell 0, (HE2.out _ (((Below.refl wC.heap.size wC).alloc (Nat.le_refl _) _).alloc (by simp) _)).cell 0, (HE2.out _ (((Below.refl wC.heap.size wC).alloc (Nat.le_refl _) _).alloc (by simp) _)).cell 1, (HE2.out _ (((Below.refl wC.heap.size wC).alloc (Nat.le_refl _) _).alloc (by simp) _)).cell 2, (HE2.out _ (((Below.refl wC.heap.size wC).alloc (Nat.le_refl _) _).alloc (by simp) _)).cell 3⟩ | exact ⟨(HD2.out _ ((Below.refl wC.heap.size wC).alloc (Nat.le_refl _) _)).cell 0, (HE2.out _ ((Below.refl wC.heap.size wC).alloc (Nat.le_refl _) _)).cell 0, (HE2.out _ ((Below.refl wC.heap.size wC).alloc (Nat.le_refl _) _)).cell 1, (HE2.out _ ((Below.refl wC.heap.size wC).alloc (Nat.le_refl _) _)).cell 2, (HE2.out _ ((Below.refl wC.heap.size wC).alloc (Nat.le_refl _) _)).cell 3⟩ | exact ⟨j0, k0, k1, k2, k3⟩)
        (first
          | (go_at_call 87; refine (concatX_any B _ _ _ _ _ _ _ (es.drop p) x wC (by omega) HT1 hz HT3 hz3 hxw hd).mono ?_; rintro e wE ⟨v, rfl, hown, hbE⟩; have HBC := hbE))
      go_wp2_with fail
      go_ret
      exact ⟨_, rfl, by rw [hres.out]; exact hown.mono hsw, hBw.trans (hbE.mono hsw)⟩
  · have hq := of_decide_eq_true HQ.out
    have hres := Lib.hid (HT.out p hlo hq)
    have hpn2 : p < n := by have := HX.out; omega
    clear HT HN HQ hlo hhi HP hq
    obtain ⟨b, off, rfl, hbB, hc⟩ := hxC.at p hpn2
    clear hc
    have i5 : (p : Int) < n := by omega
    have i6 : (1 : Int) ≤ ((n - p : Nat) : Int) := by omega
    have hcp : ¬ cap = p := by omega
    have hd : (es.take p).length + 1 + (es.drop (p + 1)).length ≤ 1099511627776 := by have h1 := HL.out; rw [List.length_take, List.length_drop]; omega
    have HT2 : Ents B wC (some ⟨b, off + p * 4, none⟩) (n - p) (cap - p) (es.drop p) := by
      have := hxC.drop p hpn
      rw [if_neg hcp] at this
      simp only [Option.map, Addr.add_lit] at this
      exact this
    have HT4 := HT2.drop 1 (by omega)
    rw [List.drop_drop] at HT4
    by_cases hc1 : cap - p = 1
    · have HT3 : Ents B wC (some ⟨b, off + p * 4, none⟩) (n - p - 1) 0 (es.drop (p + 1)) := by
        rw [if_pos hc1] at HT4
        rw [hc1] at HT4
        exact HT4
      clear HT4
      go_wp2_with fail
      go_region_held3 (fun w' => w'.cell? ⟨w.heap.size, 0, none⟩ = some (.slice (some ⟨b, off, none⟩) n cap) ∧ w'.cell? ⟨w.heap.size + 1, 0, none⟩ = some (.int .i64 x.o) ∧ w'.cell? ⟨w.heap.size + 1, 1, none⟩ = some (.int .i64 x.s) ∧ w'.cell? ⟨w.heap.size + 1, 2, none⟩ = some (.int .i64 x.a) ∧ w'.cell? ⟨w.heap.size + 1, 3, none⟩ = some (.int .i64 x.d))
        (first | exact ⟨(HD2.out _ HBC).cell 0, (HE2.out _ HBC).cell 0, (HE2.out _ HBC).cell 1, (HE2.out _ HBC).cell 2, (HE2.out _ HBC).cell 3⟩ | exact ⟨(HD2.out _ (((Below.refl wC.heap.size wC).alloc (Nat.le_refl _) _).alloc (by simp) _)).cell 0, (HE2.out _ (((Below.refl wC.heap.size wC).alloc (Nat.le_refl _) _).alloc (by simp) _)).cell 0, (HE2.out _ (((Below.refl wC.heap.size wC).alloc (Nat.le_refl _) _).alloc (by simp) _)).cell 1, (HE2.out _ (((Below.refl wC.heap.size wC).alloc (Nat.le_refl _) _).alloc (by simp) _)).cell 2, (HE2.out _ (((Below.refl wC.heap.size wC).alloc (Nat.le_refl _) _).alloc (by simp) _)).cell 3⟩ | exact ⟨(HD2.out _ ((Below.refl wC.heap.size wC).alloc (Nat.le_refl _) _)).cell 0, (HE2.out _ ((Below.refl wC.heap.size wC).alloc (Nat.le_refl _) _)).cell 0, (HE2.out _ ((Below.refl wC.heap.size wC).alloc (Nat.le_refl _) _)).cell 1, (HE2.out _ ((Below.refl wC.heap.size wC).alloc (Nat.le_refl _) _)).cell 2, (HE2.out _ ((Below.refl wC.heap.size wC).alloc (Nat.le_refl _) _)).cell 3⟩ | exact ⟨j0, k0, k1, k2, k3⟩)
        (first
          | (go_at_call 87; refine (concatX_any B _ _ _ _ _ _ _ (es.drop (p + 1)) x wC (by omega) HT1 hz HT3 (fun _ => rfl) hxw hd).mono ?_; rintro e wE ⟨v, rfl, hown, hbE⟩; have HBC := hbE))
      go_wp2_with fail
      go_ret
      exact ⟨_, rfl, by rw [hres.out]; exact hown.mono hsw, hBw.trans (hbE.mono hsw)⟩
    · have HT3 : Ents B wC (some ⟨b, off + p * 4 + 4, none⟩) (n - p - 1) (cap - p - 1) (es.drop (p + 1)) := by
        rw [if_neg hc1] at HT4
        simp only [Option.map, Addr.add_lit] at HT4
        exact HT4
      clear HT4
      go_wp2_with fail
      go_region_held3 (fun w' => w'.cell? ⟨w.heap.size, 0, none⟩ = some (.slice (some ⟨b, off, none⟩) n cap) ∧ w'.cell? ⟨w.heap.size + 1, 0, none⟩ = some (.int .i64 x.o) ∧ w'.cell? ⟨w.heap.size + 1, 1, none⟩ = some (.int .i64 x.s) ∧ w'.cell? ⟨w.heap.size + 1, 2, none⟩ = some (.int .i64 x.a) ∧ w'.cell? ⟨w.heap.size + 1, 3, none⟩ = some (.int .i64 x.d))
        (first | exact ⟨(HD2.out _ HBC).cell 0, (HE2.out _ HBC).cell 0, (HE2.out _ HBC).cell 1, (HE2.out _ HBC).cell 2, (HE2.out _ HBC).cell 3⟩ | exact ⟨(HD2.out _ (((Below.refl wC.heap.size wC).alloc (Nat.le_refl _) _).alloc (by simp) _)).cell 0, (HE2.out _ (((Below.refl wC.heap.size wC).alloc (Nat.le_refl _) _).alloc (by simp) _)).cell 0, (HE2.out _ (((Below.refl wC.heap.size wC).alloc (Nat.le_refl _) _).alloc (by simp) _)).cell 1, (HE2.out _ (((Below.refl wC.heap.size wC).alloc (Nat.le_refl _) _).alloc (by simp) _)).cell 2, (HE2.out _ (((Below.refl wC.heap.size wC).alloc (Nat.le_refl _) _).alloc (by simp) _)).cell 3⟩ | exact ⟨(HD2.out _ ((Below.refl wC.heap.size wC).alloc (Nat.le_refl _) _)).cell 0, (HE2.out _ ((Below.refl wC.heap.size wC).alloc (Nat.le_refl _) _)).cell 0, (HE2.out _ ((Below.refl wC.heap.size wC).alloc (Nat.le_refl _) _)).cell 1, (HE2.out _ ((Below.refl wC.heap.size wC).alloc (Nat.le_refl _) _)).cell 2, (HE2.out _ ((Below.refl wC.heap.size wC).alloc (Nat.le_refl _) _)).cell 3⟩ | exact ⟨j0, k0, k1, k2, k3⟩)
        (first
          | (go_at_call 87; refine (concatX_any B _ _ _ _ _ _ _ (es.drop (p + 1)) x wC (by omega) HT1 hz HT3 (fun h => by cases h) hxw hd).mono ?_; rintro e wE ⟨v, rfl, hown, hbE⟩; have HBC := hbE))
      go_wp2_with fail
      go_ret
      exact ⟨_, rfl, by rw [hres.out]; exact hown.mono hsw, hBw.trans (hbE.mono hsw)⟩
end Go.Proofs.YtccoljbnddfmpaaGreatDoor
