/- Texts of this claim, put together. -/
import Derived.Test.YtccoljbnddfmpaaGreatDoorQ1
import Derived.Test.YtccoljbnddfmpaaGreatDoorQ13
import Derived.RangeFuncNested
import Derived.RangeFuncBound
import Derived.RangeFuncCalls
import Derived.RangeFuncLeaves
import Derived.Shelf.Abstract
import Derived.Shelf.RegionOpen
import Derived.OwnWalkIn
import Derived.TacticsInMore
import Derived.LoopNIn
import Derived.LoopIn

namespace Go.Proofs.YtccoljbnddfmpaaGreatDoor
open Go.RowKit Go.Shelf
attribute [local go_sem] Oper.semAt_some
def changes (e : Ent) : List (Int × Int) :=
  if kindOf e.o e.s = 0 then [(e.o, e.a)] else if kindOf e.o e.s = 1 then [(e.o, -e.a), (e.s, e.a)] else [(e.o, -e.a)]
def allChanges (es : List Ent) : List (Int × Int) := es.flatMap changes
theorem allChanges_take {es : List Ent} {i : Nat} (h : i < es.length) : allChanges (es.take (i + 1)) = allChanges (es.take i) ++ changes (E es i) := by
  rw [List.take_succ_eq_append_getElem h, ← E_get h]
  simp [allChanges]
theorem allChanges_split (es : List Ent) (i : Nat) : allChanges (es.take i) ++ allChanges (es.drop i) = allChanges es := by
  unfold allChanges
  rw [← List.flatMap_append, List.take_append_drop]
theorem allChanges_pre (es : List Ent) {i : Nat} (h : i < es.length) : allChanges (es.take i) ++ changes (E es i) <+: allChanges es := by
  rw [← allChanges_take h]
  exact ⟨allChanges (es.drop (i + 1)), allChanges_split es (i + 1)⟩
def encs2 (p : Int × Int) : Array Value := #[.int .i64 p.1, .int .i64 p.2]
structure KeepC (g : Nat) (W W' : World) : Prop where
  size : W.heap.size ≤ W'.heap.size
  same : ∀ (k : Nat) (o : Obj), k ≠ g → W.heap[k]? = some o → o.isCells = true → W'.heap[k]? = some o
theorem KeepC.refl (g : Nat) (W : World) : KeepC g W W := ⟨Nat.le_refl _, fun _ _ _ h _ => h⟩
theorem KeepC.trans {g : Nat} {A B C : World} (h : KeepC g A B) (k : KeepC g B C) : KeepC g A C :=
  ⟨Nat.le_trans h.size k.size, fun j o hj ho hc => k.same j o hj (h.same j o hj ho hc) hc⟩
theorem KeepC.below {g : Nat} {W W' : World} (h : Below W.heap.size W W') : KeepC g W W' :=
  ⟨h.size, fun k _ _ hk _ => (h.block k (Array.getElem?_eq_some_iff.1 hk).1).trans hk⟩
theorem KeepC.setCell {g : Nat} (W : World) (i : Nat) (u : Value) : KeepC g W (W.setCell ⟨g, i, none⟩ u) :=
  ⟨by simp, fun k o hk ho _ => (Below.heap_setCell W ⟨g, i, none⟩ u k hk).trans ho⟩
theorem KeepC.put {g : Nat} {W : World} {l : Nat} {o o' : Obj} (h : W.heap[l]? = some o) (hc : o.isCells = false) : KeepC g W (W.putObj l o') :=
  ⟨by simp [World.putObj], fun k p _ hk hp => by
    have hne : k ≠ l := fun e => by subst e; rw [h] at hk; cases hk; rw [hc] at hp; cases hp
    exact (World.putObj_heap_other hne).trans hk⟩
theorem KeepC.cell {g : Nat} {W W' : World} {p : Addr} {v : Value} (h : KeepC g W W') (hp : p.block ≠ g) (hc : W.cell? p = some v) : W'.cell? p = some v := by
  obtain ⟨o, ho, hk⟩ := cells_of_cell hc
  exact (World.cell?_of_block ((h.same _ o hp ho hk).trans ho.symm)).trans hc
theorem Ents.keepC {B g : Nat} {w w' : World} {ao : Option Addr} {n cap : Nat} {es : List Ent} (h : Ents B w ao n cap es) (hk : KeepC g w w') (hB : B ≤ g) : Ents B w' ao n cap es :=
  ⟨h.hlen, h.hcap, h.hmax, fun j hj => by
    obtain ⟨b, off, e, hlt, h4⟩ := h.cell j hj
    have hne : b ≠ g := by omega
    exact ⟨b, off, e, hlt, hk.cell (p := ⟨b, _, none⟩) hne h4.h0, hk.cell (p := ⟨b, _, none⟩) hne h4.h1, hk.cell (p := ⟨b, _, none⟩) hne h4.h2, hk.cell (p := ⟨b, _, none⟩) hne h4.h3⟩, h.wf⟩
theorem grown_below {w w' : World} (h : Below w.heap.size w w') : w.grownBy w' none := ⟨h.os, h.tape, h.output, h.size, fun k hk _ => h.block k hk⟩
theorem abides_below {β : Type} {B : Nat} {J : β → World → Prop} (hJ : AbidesFrom B J) {s : β} {w w' : World} (h : J s w) (hb : Below w.heap.size w w') : J s w' :=
  hJ s w w' none h (grown_below hb) (fun r e => by cases e)
theorem room_any {F : Fence} (hd : F.depth = none) (k : Nat) : F.room k := fun d h => by rw [hd] at h; cases h
theorem yield_any {F : Fence} (hd : F.depth = none) {m : Nat} (m' : Nat) {P : Program} {l : Nat} {args : Array Value} {W : World} {R : Ending → World → Prop} (h : YieldAt F m P l args W R) : YieldAt F m' P l args W R := by
  obtain ⟨fn, tmps, assign, body, hy, hR⟩ := h
  exact ⟨fn, tmps, assign, body, hy, hR.1, fun c cs _ => hR.2 c cs (room_any hd _)⟩
def Told (g : Nat) (J Jx : List (Int × Int) → World → Prop) (W : World) (xs : List (Int × Int)) (e : Ending) (W' : World) : Prop :=
  (e = .returned (.bool true) ∧ J xs W' ∧ KeepC g W W') ∨ (e = .returned (.bool false) ∧ Jx xs W')
set_option maxRecDepth 100000 in
set_option maxHeartbeats 2000000 in
theorem tellChanges_in (F : Fence) (hd : F.depth = none) (hro : F.round = none) (hfn : ∀ k, F.fn k)
    (hkind : ∀ n o s a d w, CallsIn F n Tryz.prog 96 #[.agg #[.int .i64 o, .int .i64 s, .int .i64 a, .int .i64 d]] w (Says (.int .i64 (kindOf o s)) w))
    (l g N B : Nat) (J Jx : List (Int × Int) → World → Prop) (hJ : AbidesFrom B J)
    (hY : ∀ m pre x W, J pre W → pre.length < N → YieldAt F m Tryz.prog l (encs2 x) W (Told g J Jx W (pre ++ [x])))
    (x : Ent) (ha : 1 ≤ x.a ∧ x.a ≤ 1000000) (n : Nat) (pre : List (Int × Int)) (W : World) (hg : g < W.heap.size) (h0 : J pre W) (hN : pre.length + (changes x).length ≤ N) :
    CallsIn F n Tryz.prog 64 #[.agg #[.int .i64 x.o, .int .i64 x.s, .int .i64 x.a, .int .i64 x.d], .func (.yield l) #[] #[]] W fun e W' =>
      (e = .returned (.bool true) ∧ J (pre ++ changes x) W' ∧ KeepC g W W') ∨ (e = .returned (.bool false) ∧ ∃ q, q <+: changes x ∧ Jx (pre ++ q) W') := by
  have hdd : ∀ k : Nat, (F.depth.isSome = true → 1 ≤ k) := fun k h => by rw [hd] at h; cases h
  obtain ⟨W1, hW1⟩ : ∃ W1, W1 = W.alloc (.cells #[.int .i64 x.o, .int .i64 x.s, .int .i64 x.a, .int .i64 x.d] 47) := ⟨_, rfl⟩
  have hb1 : Below W.heap.size W W1 := by rw [hW1]; exact (Below.refl _ _).alloc (Nat.le_refl _) _
  have hk1 : Blk W1 W.heap.size 47 #[.int .i64 x.o, .int .i64 x.s, .int .i64 x.a, .int .i64 x.d] := by rw [hW1]; exact Blk.new _ _ _
  have hkd := hkind (n - 1) x.o x.s x.a x.d W1
  have e0 := hk1.cell 0; have e1 := hk1.cell 1; have e2 := hk1.cell 2; have e3 := hk1.cell 3
  have a1 := ha.1; have a2 := ha.2
  obtain ⟨cs, hcs⟩ : ∃ cs, cs = changes x := ⟨_, rfl⟩
  rw [← hcs] at hN ⊢
  refine callsIn_of_wp Tryz.func64 rfl (hfn _) ?_ hro
  simp only [Tryz.ntmps64, List.size_toArray, List.length_cons, List.length_nil, Nat.reduceAdd, Nat.reduceSub, Array.replicate_succ, Array.replicate_zero, List.push_toArray, List.append_toArray, List.nil_append, List.cons_append]
  gi_wp2_with fail
  rw [← hW1]
  clear hW1
  gi_wp2_with fail
  gi_at_call 96
  refine hkd.mono ?_
  rintro e W2 ⟨rfl, hb2⟩
  have hk2 := hk1.below hb2 hk1.lt
  have hb := hb1.trans (hb2.mono hb1.size)
  have hJ2 := abides_below hJ h0 hb
  have f0 := hk2.cell 0; have f1 := hk2.cell 1; have f2 := hk2.cell 2; have f3 := hk2.cell 3
  have kb := KeepC.below (g := g) hb
  have hne : W.heap.size ≠ g := by omega
  clear hkd e0 e1 e2 e3 hb2 hb1 hk1 hkind
  have ew : IntKind.i64.wrap (-x.a) = -x.a := by rw [IntKind.wrap_i64]; omega
  unfold changes at hcs
  generalize hkk : kindOf x.o x.s = kk at hcs ⊢
  have hkk3 : kk = 0 ∨ kk = 1 ∨ kk = 2 := by
    rw [← hkk]
    unfold kindOf
    split
    · omega
    · split <;> omega
  clear hkk
  rcases hkk3 with rfl | rfl | rfl
  · have hcs' : cs = [(x.o, x.a)] := hcs
    obtain ⟨fn, tmps, assign, body, hy, hR⟩ := hY (n - 1) pre (x.o, x.a) W2 hJ2 (by rw [hcs'] at hN; simp at hN; omega)
    dsimp only [encs2] at hy
    clear hcs
    gi_wp2
    refine hR.mono ?_
    rintro e W3 (⟨rfl, h3, k3⟩ | ⟨rfl, h3⟩)
    · gi_wp2
      go_ret
      exact .inl ⟨rfl, by rw [hcs']; exact h3, kb.trans k3⟩
    · gi_wp2
      go_ret
      exact .inr ⟨rfl, _, List.prefix_refl _, by rw [hcs']; exact h3⟩
  · have hcs' : cs = [(x.o, -x.a), (x.s, x.a)] := hcs
    have hN' : pre.length + 2 ≤ N := by rw [hcs'] at hN; simpa using hN
    obtain ⟨fn, tmps, assign, body, hy, hR⟩ := hY (n - 1) pre (x.o, -x.a) W2 hJ2 (by omega)
    dsimp only [encs2] at hy
    clear hcs
    gi_wp2_with fail
    refine hR.mono ?_
    clear hR hy
    rintro e W3 (⟨rfl, h3, k3⟩ | ⟨rfl, h3⟩)
    · have g1 := k3.cell (p := ⟨W.heap.size, 1, none⟩) hne f1
      have g2 := k3.cell (p := ⟨W.heap.size, 2, none⟩) hne f2
      clear f0 f1 f2 f3 hk2
      obtain ⟨fn2, tmps2, assign2, body2, hy2, hR2⟩ := hY (n - 1) _ (x.s, x.a) W3 h3 (by rw [List.length_append]; simp; omega)
      dsimp only [encs2] at hy2
      gi_wp2_with fail
      refine hR2.mono ?_
      clear hR2 hy2
      rintro e W4 (⟨rfl, h4, k4⟩ | ⟨rfl, h4⟩)
      · gi_wp2
        go_ret
        exact .inl ⟨rfl, by rw [hcs']; simpa using h4, (kb.trans k3).trans k4⟩
      · gi_wp2
        go_ret
        exact .inr ⟨rfl, _, List.prefix_refl _, by rw [hcs']; simpa using h4⟩
    · gi_wp2
      go_ret
      exact .inr ⟨rfl, [(x.o, -x.a)], by rw [hcs']; exact ⟨[(x.s, x.a)], rfl⟩, h3⟩
  · have hcs' : cs = [(x.o, -x.a)] := hcs
    obtain ⟨fn, tmps, assign, body, hy, hR⟩ := hY (n - 1) pre (x.o, -x.a) W2 hJ2 (by rw [hcs'] at hN; simp at hN; omega)
    dsimp only [encs2] at hy
    clear hcs
    gi_wp2
    refine hR.mono ?_
    rintro e W3 (⟨rfl, h3, k3⟩ | ⟨rfl, h3⟩)
    · gi_wp2
      go_ret
      exact .inl ⟨rfl, by rw [hcs']; exact h3, kb.trans k3⟩
    · gi_wp2
      go_ret
      exact .inr ⟨rfl, _, List.prefix_refl _, by rw [hcs']; exact h3⟩
set_option maxRecDepth 100000 in
set_option maxHeartbeats 2000000 in
theorem changes_stops (F : Fence) (hd : F.depth = none) (hro : F.round = none) (hfn : ∀ k, F.fn k)
    (hkind : ∀ n o s a d w, CallsIn F n Tryz.prog 96 #[.agg #[.int .i64 o, .int .i64 s, .int .i64 a, .int .i64 d]] w (Says (.int .i64 (kindOf o s)) w))
    (n0 g B Bn : Nat) (ao : Option Addr) (n cap : Nat) (es : List Ent) (w : World) (hx : Ents B w ao n cap es) (hB : B ≤ g) (hg : g < w.heap.size)
    (hbn : w.cell? ⟨Bn, 0, none⟩ = some (.slice ao n cap)) (hlt : Bn < w.heap.size) (hok : ∀ i, i < n → 1 ≤ (E es i).a ∧ (E es i).a ≤ 1000000) :
    SeqStopsK F n0 Tryz.prog 63 #[.pointer (some ⟨Bn, 0, none⟩)] encs2 (KeepC g) (fun xs => xs = allChanges es) (fun pre => pre <+: allChanges es) (allChanges es).length w := fun l J Jx W hW hJ _ hY0 h0 => by
  have hY : ∀ m pre x W, J pre W → pre.length < (allChanges es).length → YieldAt F m Tryz.prog l (encs2 x) W (Told g J Jx W (pre ++ [x])) := fun m pre x W h1 h2 => yield_any hd m (hY0 pre x W h1 h2)
  clear hY0
  have hdd : ∀ k : Nat, (F.depth.isSome = true → 1 ≤ k) := fun k h => by rw [hd] at h; cases h
  have hx0 := hx.hlen; have hx1 := hx.hcap; have hx2 := hx.hmax
  unfold maxLen at hx2
  have hbn1 := (hW.cell (p := ⟨Bn, 0, none⟩) hlt).trans hbn
  have hxW := hx.below hW (by omega) (Nat.le_refl B)
  have hsW := hW.size
  have HX := Lib.hid hx0; have HO := Lib.hid hok; clear hx0 hok
  refine callsIn_of_wp Tryz.func63 rfl (hfn _) ?_ hro
  simp only [Tryz.ntmps63, List.size_toArray, List.length_cons, List.length_nil, Nat.reduceAdd, Nat.reduceSub, Array.replicate_succ, Array.replicate_zero, List.push_toArray, List.append_toArray, List.nil_append, List.cons_append]
  gi_wp2
  gi_loopw [7] (fun si wr => ∃ i : Nat, i ≤ n ∧ si = .int .i64 i ∧ Ents B wr ao n cap es ∧ g < wr.heap.size ∧ J (allChanges (es.take i)) wr) (fun si _ => n - (intOf si).toNat)
  case atStart => exact ⟨0, Nat.zero_le _, rfl, hxW, by omega, by simpa [allChanges] using h0⟩
  case round =>
    obtain ⟨i, hi, rfl, hxr, hgr, hJr⟩ := hrel
    by_cases hin : i < n
    · obtain ⟨b, off, rfl, hbB, hc⟩ := hxr.at i hin
      obtain ⟨c0, c1, c2, c3⟩ := hc i hin
      have hrange := HO.out i hin
      have hpre := allChanges_pre es (i := i) (by have := HX.out; omega)
      have htake := allChanges_take (es := es) (i := i) (by have := HX.out; omega)
      clear hc
      generalize E es i = x at c0 c1 c2 c3 hrange hpre htake
      have i1 : (0 : Int) ≤ i := by omega
      have i2 : (i : Int) < n := by omega
      have i3 : (i : Int) ≤ cap := by omega
      obtain ⟨W1, hW1⟩ : ∃ W1, W1 = wr.alloc (.cells #[.int .i64 x.o, .int .i64 x.s, .int .i64 x.a, .int .i64 x.d] 47) := ⟨_, rfl⟩
      have hb1 : Below wr.heap.size wr W1 := by rw [hW1]; exact (Below.refl _ _).alloc (Nat.le_refl _) _
      have hk1 : Blk W1 wr.heap.size 47 #[.int .i64 x.o, .int .i64 x.s, .int .i64 x.a, .int .i64 x.d] := by rw [hW1]; exact Blk.new _ _ _
      have hJ1 := abides_below hJ hJr hb1
      have hs1 := hb1.size
      have kb := KeepC.below (g := g) hb1
      have hlen := hpre.length_le
      rw [List.length_append] at hlen
      have ht := tellChanges_in F hd hro hfn hkind l g (allChanges es).length W.heap.size J Jx hJ hY x hrange (n0 - 1) _ W1 (by omega) hJ1 hlen
      rw [← htake] at ht hpre
      have e0 := hk1.cell 0; have e1 := hk1.cell 1; have e2 := hk1.cell 2; have e3 := hk1.cell 3
      have HT := Lib.hid htake; have HP := Lib.hid hpre; clear htake hpre
      gi_wp2_with fail
      rw [← hW1]
      clear hW1
      gi_wp2_with fail
      gi_at_call 64
      refine ht.mono ?_
      clear ht
      rintro e W2 (⟨rfl, h2, k2⟩ | ⟨rfl, q, hq, h2⟩)
      · have hx2 := hxr.keepC (kb.trans k2) hB
        have hs2 := k2.size
        gi_wp2
        go_roundw
        case rel => exact ⟨i + 1, by omega, by go_num, hx2, by omega, h2⟩
        case measure => simp [intOf]; omega
      · gi_wp2
        refine bodyPost_ret (results_none rfl _ _ _) rfl ?_
        exact ⟨⟨_, rfl⟩, .inr ⟨_, ((List.prefix_append_right_inj _).2 hq).trans (HT.out ▸ HP.out), h2⟩⟩
    · have ei : i = n := by omega
      subst ei
      have hall : es.take i = es := List.take_of_length_le (by have := HX.out; omega)
      rw [hall] at hJr
      gi_wp2
      go_end0
      exact ⟨⟨_, rfl⟩, .inl ⟨_, rfl, hJr⟩⟩
end Go.Proofs.YtccoljbnddfmpaaGreatDoor

namespace Go.Proofs.YtccoljbnddfmpaaGreatDoor
open Go.RowKit Go.Shelf
attribute [local go_sem] Oper.semAt_some
def netStep (node acc : Int) (p : Int × Int) : Int := if p.1 = node then IntKind.i64.wrap (acc + p.2) else acc
def net (node : Int) (xs : List (Int × Int)) : Int := xs.foldl (netStep node) 0
theorem net_snoc (node : Int) (xs : List (Int × Int)) (p : Int × Int) : net node (xs ++ [p]) = netStep node (net node xs) p := by simp [net, List.foldl_append]
theorem net_entry {e : Ent} {node acc : Int} {k : Nat} (hok : e.ok = true) (hn : 0 ≤ node ∧ node ≤ 3) (hs : Small acc k) (hk : k ≤ 20) :
    (changes e).foldl (netStep node) acc = heldStep node acc e := by
  have hh := Ent.ok_all hok
  unfold Small at hs
  have w1 : IntKind.i64.wrap (acc + e.a) = acc + e.a := by rw [IntKind.wrap_i64]; omega
  have w2 : IntKind.i64.wrap (acc + -e.a) = acc - e.a := by rw [IntKind.wrap_i64]; omega
  unfold changes kindOf heldStep
  by_cases h4 : e.s = 4
  · rw [if_pos h4]
    simp only [show ¬ ((2 : Int) = 0) by decide, show ¬ ((2 : Int) = 1) by decide, if_false, List.foldl_cons, List.foldl_nil, netStep, w2]
    rw [if_neg (show ¬ e.s = node by omega)]
  · rw [if_neg h4]
    by_cases ho : e.s = e.o
    · rw [if_pos ho, if_pos rfl]
      simp only [List.foldl_cons, List.foldl_nil, netStep, w1, ho]
      split <;> rfl
    · rw [if_neg ho, if_neg (show ¬ ((1 : Int) = 0) by decide), if_pos rfl]
      simp only [List.foldl_cons, List.foldl_nil, netStep]
      by_cases h1 : e.o = node
      · rw [if_pos h1, w2, if_neg (show ¬ e.s = node by omega), if_neg (show ¬ e.s = node by omega), if_pos h1]
      · rw [if_neg h1, w1]
        split
        · rfl
        · rfl
theorem net_held {es : List Ent} (h : bookOk es = true) {node : Int} (hn : 0 ≤ node ∧ node ≤ 3) : net node (allChanges es) = held es node := by
  have hr := book_right h
  have hl := book_len h
  have : ∀ k, k ≤ es.length → net node (allChanges (es.take k)) = held (es.take k) node ∧ Small (held (es.take k) node) k := by
    intro k
    induction k with
    | zero => intro _; exact ⟨rfl, by simp [Small, held]⟩
    | succ k ih =>
      intro hk
      obtain ⟨h1, h2⟩ := ih (by omega)
      have hok := (hr k (by omega)).1
      have hh := Ent.ok_all hok
      rw [held_take (by omega)]
      refine ⟨?_, small_step h2 ⟨hh.2.2.2.2.1, hh.2.2.2.2.2.1⟩⟩
      rw [← net_entry hok hn h2 (by omega), ← h1, allChanges_take (by omega)]
      simp [net, List.foldl_append]
  have hf := (this es.length (Nat.le_refl _)).1
  rwa [List.take_length] at hf
theorem Blk.turned {W W' : World} {row : Option Nat} {g : Nat} {t : TypeId} {cs : Array Value} (h : Blk W g t cs) (hg : W.grownBy W' row) (hr : ∀ r, row = some r → ∃ o : Obj, W.heap[r]? = some o ∧ o.isCells = false) : Blk W' g t cs :=
  (grownBy_keeps_cells hg hr (show W.heap[g]? = some (.cells cs t (0, 0)) from h) rfl).trans h
theorem Blk.putObj {W : World} {g l : Nat} {t : TypeId} {cs : Array Value} {o : Obj} (h : Blk W g t cs) (hl : W.heap[l]? = some o) (ho : o.isCells = false) (o' : Obj) : Blk (W.putObj l o') g t cs :=
  h.turned (grownBy_putObj' W l o') (fun r e => by cases e; exact ⟨o, hl, ho⟩)
set_option maxHeartbeats 400000 in
theorem changesOf_any (ao : Option Addr) (n cap : Nat) (w : World) :
    Calls Tryz.prog 37 #[.slice ao n cap] w fun e w' =>
      e = .returned (.func (.func 63) #[] #[.pointer (some ⟨w.heap.size, 0, none⟩)]) ∧ w' = w.alloc (.cells #[.slice ao n cap] 24) := by
  go_enter Tryz.func37, Tryz.ntmps37
  go_wp2
  go_ret
  exact ⟨rfl, rfl⟩
set_option maxRecDepth 100000 in
set_option maxHeartbeats 2000000 in
theorem heldBy_wide (B : Nat) (ao : Option Addr) (n cap : Nat) (es : List Ent) (node : Int) (w : World) (hx : Ents B w ao n cap es) (hB : B ≤ w.heap.size) (hok : bookOk es = true) (hn : inB node 0 3 = true) :
    CallsIn Fence.wide 9 Tryz.prog 14 #[.slice ao n cap, .int .i64 node] w (Says (.int .i64 (held es node)) w) := by
  have hbound : 0 ≤ node ∧ node ≤ 3 := by simpa [inB] using hn
  obtain ⟨res, hres⟩ : ∃ res, net node (allChanges es) = res := ⟨_, rfl⟩
  have hv : held es node = res := by rw [← hres, net_held hok hbound]
  rw [hv]
  have hr : ∀ i, i < n → 1 ≤ (E es i).a ∧ (E es i).a ≤ 1000000 := fun i hi => by
    have h1 := Ent.ok_all (book_right hok i (by have := hx.hlen; omega)).1
    exact ⟨h1.2.2.2.2.1, h1.2.2.2.2.2.1⟩
  obtain ⟨W1, hW1⟩ : ∃ W1, W1 = w.alloc (.cells #[.int .i64 node] 2) := ⟨_, rfl⟩
  have hb0 : Below w.heap.size w W1 := by rw [hW1]; exact (Below.refl _ _).alloc (Nat.le_refl _) _
  have k1 : Blk W1 w.heap.size 2 #[.int .i64 node] := by rw [hW1]; exact Blk.new _ _ _
  have h2 := callsIn_wide (n := 8).2 (isNode_any node W1)
  have h3 := callsIn_wide (n := 8).2 (implBookOk_any B ao n cap es _ (hx.below hb0 hB (Nat.le_refl B)) (by have := hb0.size; omega))
  rw [hn] at h2
  rw [hok] at h3
  have HV := Lib.hid hv; have HR := Lib.hid hr; have HRES := Lib.hid hres
  clear hv hr hn hok hres
  have e0 := k1.cell 0
  refine callsIn_of_wp_marks Tryz.func14 rfl trivial ?_ rfl
  simp only [Tryz.ntmps14, List.size_toArray, List.length_cons, List.length_nil, Nat.reduceAdd, Nat.reduceSub, Array.replicate_succ, Array.replicate_zero, List.push_toArray, List.append_toArray, List.nil_append, List.cons_append]
  gi_wp2_with fail
  rw [← hW1]
  clear hW1
  gi_wp2_with fail
  refine ⟨trivial, h2.mono ?_⟩
  rintro e w' ⟨rfl, rfl⟩
  gi_wp2_with fail
  refine ⟨trivial, h3.mono ?_⟩
  rintro e w2 ⟨rfl, hb2⟩
  have k2 := k1.below hb2 k1.lt
  have hbw := hb0.trans (hb2.mono hb0.size)
  have hs2 := hbw.size
  have hl2 := k2.lt
  obtain ⟨W3, hW3⟩ : ∃ W3, W3 = w2.alloc (.cells #[.int .i64 0] 2) := ⟨_, rfl⟩
  have hb3 : Below w2.heap.size w2 W3 := by rw [hW3]; exact (Below.refl _ _).alloc (Nat.le_refl _) _
  have k3 : Blk W3 w2.heap.size 2 #[.int .i64 0] := by rw [hW3]; exact Blk.new _ _ _
  have h4 := callsIn_wide (n := 8).2 (changesOf_any ao n cap W3)
  clear h2 h3 k1 e0 hb0
  gi_wp2_with fail
  rw [← hW3]
  clear hW3
  gi_wp2_with fail
  refine ⟨trivial, h4.mono ?_⟩
  rintro e w4 ⟨rfl, hw4⟩
  have hs3 := hb3.size
  have hl3 := k3.lt
  have hb4 : Below W3.heap.size W3 w4 := by rw [hw4]; exact (Below.refl _ _).alloc (Nat.le_refl _) _
  have kb : Blk w4 W3.heap.size 24 #[.slice ao n cap] := by rw [hw4]; exact Blk.new _ _ _
  have kh := k3.below hb4 hl3
  have kn := (k2.below hb3 hl2).below hb4 (by omega)
  have hs4 := hb4.size
  have hlb := kb.lt
  have hbw4 := (hbw.trans (hb3.mono hs2)).trans (hb4.mono (by omega))
  have hx4 := hx.below hbw4 hB (Nat.le_refl B)
  have eb := kb.cell 0
  clear hw4 h4 k2 k3 hb2 hb3
  gi_wp2_with fail
  refine wpIn_rangeFunc_ownF rfl (by decide) (gf := 63) (lb := #[.pointer (some ⟨W3.heap.size, 0, none⟩)]) rfl trivial (enters_of Tryz.func63 (by kernel_rfl) rfl)
    (changes_stops Fence.wide rfl rfl (fun _ => trivial) (fun _ o s a d w => callsIn_wide.2 (kindOf_any o s a d w)) (9 - 1) w2.heap.size B W3.heap.size ao n cap es w4 hx4 (by omega) (by omega) eb hlb HR.out)
    KeepC.trans (fun W l o o' _ h hc _ => KeepC.put h hc) (Below.refl _ _) (fun _ => rfl)
    (fun pre W => (Blk W w.heap.size 2 #[.int .i64 node] ∧ Blk W w2.heap.size 2 #[.int .i64 (net node pre)]) ∧ Below w.heap.size w W)
    (fun _ _ _ => False)
    (OwnFrom.and (fun s A B row hs hg hr => ⟨hs.1.turned hg (fun r e => (hr r e).2), hs.2.turned hg (fun r e => (hr r e).2)⟩) (ownFrom_below (Nat.le_refl _) (by omega)))
    (fun _ _ _ _ _ hs _ _ => hs)
    ⟨⟨kn, kh⟩, hbw4⟩
    (fun x => { tmps := #[.slice ao n cap, .int .i64 node, undef, .pointer (some ⟨w.heap.size, 0, none⟩), .int .i64 0, .pointer (some ⟨w2.heap.size, 0, none⟩), .int .i64 x.1, .int .i64 x.2, .int .i64 node, .bool true, .bool false, .bool false, .slice ao n cap, .bool true, .bool false, .bool false, .slice ao n cap,
      .func (.func 63) #[] #[.pointer (some ⟨W3.heap.size, 0, none⟩)], .int .i64 x.1, .int .i64 x.2, undef, undef, undef, undef, undef, undef, undef], defers := [] }) ?assign ?body ?done ?stop
  case assign =>
    rintro l ⟨who, ch⟩ W K hK
    dsimp only [encs2] at hK ⊢
    gi_wp2
    exact hK
  case body =>
    rintro l pre ⟨who, ch⟩ W ⟨⟨kn', kh'⟩, hbel⟩ _
    have c0 := kn'.cell 0; have c1 := kh'.cell 0; have c2 := kh'.frozen 0
    have hsz := hbel.size
    have hnet := net_snoc node pre (who, ch)
    unfold netStep at hnet
    dsimp only at hnet ⊢
    by_cases hw : who = node
    · have hw' : (who == node) = true := by simpa using hw
      rw [if_pos hw] at hnet
      have HN := Lib.hid hnet; clear hnet hw
      gi_wp2
      refine ⟨KeepsOthers.setCell _ _ _, KeepC.setCell _ _ _, ⟨kn'.far (p := ⟨w2.heap.size, 0, none⟩) (by show w.heap.size ≠ w2.heap.size; omega) _, ?_⟩, hbel.setCell (p := ⟨w2.heap.size, 0, none⟩) (by show w.heap.size ≤ w2.heap.size; omega) _⟩
      rw [HN.out]
      rw [IntWalk.i64_left]
      exact kh'.set_ 0 (.int .i64 (wrap64 (net node pre + ch)))
    · have hw' : (who == node) = false := by simpa using hw
      rw [if_neg hw] at hnet
      have HN := Lib.hid hnet; clear hnet hw
      gi_wp2
      exact ⟨KeepsOthers.refl _, KeepC.refl _ _, ⟨kn', by rw [HN.out]; exact kh'⟩, hbel⟩
  case done =>
    rintro D ys W hD rfl ⟨⟨_, kh'⟩, hbel⟩ hK
    rw [HRES.out] at kh'
    have c1 := kh'.cell 0
    gi_wp2
    refine ⟨by simp, .inl ⟨_, _, rfl, run_takeDeferred hK, ?_⟩⟩
    exact ⟨_, results_tmp rfl _ _ _, rfl, hbel.trans (belowK_b (w := w) (Nat.le_refl _) W D _ _ (by omega) hK rfl rfl)⟩
  case stop =>
    rintro D c pre W _ _ h _
    exact h.elim
set_option maxHeartbeats 1000000 in
theorem implHeldBy_any (B : Nat) (ao : Option Addr) (n cap : Nat) (es : List Ent) (node : Int) (w : World) (hx : Ents B w ao n cap es) (hB : B ≤ w.heap.size) :
    Calls Tryz.prog 14 #[.slice ao n cap, .int .i64 node] w (Says (.int .i64 (heldBy es node)) w) := by
  cases hn : inB node 0 3 with
  | false =>
    have h2 := isNode_any node (w.alloc (.cells #[.int .i64 node] 2))
    rw [hn] at h2
    rw [heldBy_no (.inr hn)]
    clear hn
    go_enter Tryz.func14, Tryz.ntmps14
    go_wp2_with fail
    refine h2.mono ?_
    rintro e w1 ⟨rfl, rfl⟩
    go_wp2_with fail
    go_ret
    exact ⟨rfl, (Below.refl _ _).alloc (Nat.le_refl _) _⟩
  | true =>
    cases hok : bookOk es with
    | true =>
      rw [heldBy_yes hok hn]
      exact callsIn_wide.1 (heldBy_wide B ao n cap es node w hx hB hok hn)
    | false =>
      have hb0 : Below w.heap.size w (w.alloc (.cells #[.int .i64 node] 2)) := (Below.refl _ _).alloc (Nat.le_refl _) _
      have h2 := isNode_any node (w.alloc (.cells #[.int .i64 node] 2))
      have h3 := implBookOk_any B ao n cap es _ (hx.below hb0 hB (Nat.le_refl B)) (by simp; omega)
      rw [hn] at h2
      rw [hok] at h3
      rw [heldBy_no (.inl hok)]
      clear hn hok
      go_enter Tryz.func14, Tryz.ntmps14
      go_wp2_with fail
      refine h2.mono ?_
      rintro e w1 ⟨rfl, rfl⟩
      go_wp2_with fail
      refine h3.mono ?_
      rintro e w2 ⟨rfl, hb2⟩
      go_wp2_with fail
      go_ret
      exact ⟨rfl, hb0.trans (hb2.mono (by simp))⟩
end Go.Proofs.YtccoljbnddfmpaaGreatDoor
