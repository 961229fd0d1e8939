/-
  impl.tellChanges, impl.changesOf and the iterator that it hands back: what an entry changes, of whom.
-/
import Derived.Test.YtdinfpgnfofpbaaAllOf
import Derived.RangeFuncNested
import Derived.RangeFuncBound
import Derived.RangeFuncCalls
import Derived.RangeFuncLeaves
import Derived.Shelf.Abstract
import Derived.Shelf.RegionOpen
import Derived.OwnWalkIn
import Derived.TacticsInMore
import Derived.LoopNIn
import Derived.LoopIn
namespace Go.Proofs.Ytdinfpgnfofpbaa
open Go.RowKit Go.Shelf
attribute [local go_sem] Oper.semAt_some

/-- What an entry changes: of whom, by how much. -/
def changes (e : Ent) : List (Int × Int) :=
  if kindOf e.o e.s = 0 then [(e.o, e.a)] else if kindOf e.o e.s = 1 then [(e.o, -e.a), (e.s, e.a)] else [(e.o, -e.a)]
def allChanges (es : List Ent) : List (Int × Int) := es.flatMap changes
theorem allChanges_take {es : List Ent} {i : Nat} (h : i < es.length) : allChanges (es.take (i + 1)) = allChanges (es.take i) ++ changes (E es i) := by
  rw [List.take_succ_eq_append_getElem h, ← E_get h]
  simp [allChanges]
theorem allChanges_split (es : List Ent) (i : Nat) : allChanges (es.take i) ++ allChanges (es.drop i) = allChanges es := by
  unfold allChanges
  rw [← List.flatMap_append, List.take_append_drop]
theorem allChanges_pre (es : List Ent) {i : Nat} (h : i < es.length) : allChanges (es.take i) ++ changes (E es i) <+: allChanges es := by
  rw [← allChanges_take h]
  exact ⟨allChanges (es.drop (i + 1)), allChanges_split es (i + 1)⟩
def encs2 (p : Int × Int) : Array Value := #[.int .i64 p.1, .int .i64 p.2]

/-- Whatever is cells lies as it lay, but for block g. -/
structure KeepC (g : Nat) (W W' : World) : Prop where
  size : W.heap.size ≤ W'.heap.size
  same : ∀ (k : Nat) (o : Obj), k ≠ g → W.heap[k]? = some o → o.isCells = true → W'.heap[k]? = some o
theorem KeepC.refl (g : Nat) (W : World) : KeepC g W W := ⟨Nat.le_refl _, fun _ _ _ h _ => h⟩
theorem KeepC.trans {g : Nat} {A B C : World} (h : KeepC g A B) (k : KeepC g B C) : KeepC g A C :=
  ⟨Nat.le_trans h.size k.size, fun j o hj ho hc => k.same j o hj (h.same j o hj ho hc) hc⟩
theorem KeepC.below {g : Nat} {W W' : World} (h : Below W.heap.size W W') : KeepC g W W' :=
  ⟨h.size, fun k _ _ hk _ => (h.block k (Array.getElem?_eq_some_iff.1 hk).1).trans hk⟩
theorem KeepC.setCell {g : Nat} (W : World) (i : Nat) (u : Value) : KeepC g W (W.setCell ⟨g, i, none⟩ u) :=
  ⟨by simp, fun k o hk ho _ => (Below.heap_setCell W ⟨g, i, none⟩ u k hk).trans ho⟩
theorem KeepC.put {g : Nat} {W : World} {l : Nat} {o o' : Obj} (h : W.heap[l]? = some o) (hc : o.isCells = false) : KeepC g W (W.putObj l o') :=
  ⟨by simp [World.putObj], fun k p _ hk hp => by
    have hne : k ≠ l := fun e => by subst e; rw [h] at hk; cases hk; rw [hc] at hp; cases hp
    exact (World.putObj_heap_other hne).trans hk⟩
theorem KeepC.cell {g : Nat} {W W' : World} {p : Addr} {v : Value} (h : KeepC g W W') (hp : p.block ≠ g) (hc : W.cell? p = some v) : W'.cell? p = some v := by
  obtain ⟨o, ho, hk⟩ := cells_of_cell hc
  exact (World.cell?_of_block ((h.same _ o hp ho hk).trans ho.symm)).trans hc
theorem Ents.keepC {B g : Nat} {w w' : World} {ao : Option Addr} {n cap : Nat} {es : List Ent} (h : Ents B w ao n cap es) (hk : KeepC g w w') (hB : B ≤ g) : Ents B w' ao n cap es :=
  ⟨h.hlen, h.hcap, h.hmax, fun j hj => by
    obtain ⟨b, off, e, hlt, h4⟩ := h.cell j hj
    have hne : b ≠ g := by omega
    exact ⟨b, off, e, hlt, hk.cell (p := ⟨b, _, none⟩) hne h4.h0, hk.cell (p := ⟨b, _, none⟩) hne h4.h1, hk.cell (p := ⟨b, _, none⟩) hne h4.h2, hk.cell (p := ⟨b, _, none⟩) hne h4.h3⟩, h.wf⟩

theorem grown_below {w w' : World} (h : Below w.heap.size w w') : w.grownBy w' none := ⟨h.os, h.tape, h.output, h.size, fun k hk _ => h.block k hk⟩
theorem abides_below {β : Type} {B : Nat} {J : β → World → Prop} (hJ : AbidesFrom B J) {s : β} {w w' : World} (h : J s w) (hb : Below w.heap.size w w') : J s w' :=
  hJ s w w' none h (grown_below hb) (fun r e => by cases e)

/-- No depth is asked: a round at one depth is a round at any. -/
theorem room_any {F : Fence} (hd : F.depth = none) (k : Nat) : F.room k := fun d h => by rw [hd] at h; cases h
theorem yield_any {F : Fence} (hd : F.depth = none) {m : Nat} (m' : Nat) {P : Program} {l : Nat} {args : Array Value} {W : World} {R : Ending → World → Prop} (h : YieldAt F m P l args W R) : YieldAt F m' P l args W R := by
  obtain ⟨fn, tmps, assign, body, hy, hR⟩ := h
  exact ⟨fn, tmps, assign, body, hy, hR.1, fun c cs _ => hR.2 c cs (room_any hd _)⟩

/-- What a call of tell says: more is to be told and J holds, or it is not and Jx holds. -/
def Told (g : Nat) (J Jx : List (Int × Int) → World → Prop) (W : World) (xs : List (Int × Int)) (e : Ending) (W' : World) : Prop :=
  (e = .returned (.bool true) ∧ J xs W' ∧ KeepC g W W') ∨ (e = .returned (.bool false) ∧ Jx xs W')

set_option maxRecDepth 100000 in
set_option maxHeartbeats 2000000 in
theorem tellChanges_in (F : Fence) (hd : F.depth = none) (hro : F.round = none) (hfn : ∀ k, F.fn k)
    (hkind : ∀ n o s a d w, CallsIn F n Try.prog 32 #[.agg #[.int .i64 o, .int .i64 s, .int .i64 a, .int .i64 d]] w (Says (.int .i64 (kindOf o s)) w))
    (l g N B : Nat) (J Jx : List (Int × Int) → World → Prop) (hJ : AbidesFrom B J)
    (hY : ∀ m pre x W, J pre W → pre.length < N → YieldAt F m Try.prog l (encs2 x) W (Told g J Jx W (pre ++ [x])))
    (x : Ent) (ha : 1 ≤ x.a ∧ x.a ≤ 1000000) (n : Nat) (pre : List (Int × Int)) (W : World) (hg : g < W.heap.size) (h0 : J pre W) (hN : pre.length + (changes x).length ≤ N) :
    CallsIn F n Try.prog 30 #[.agg #[.int .i64 x.o, .int .i64 x.s, .int .i64 x.a, .int .i64 x.d], .func (.yield l) #[] #[]] W fun e W' =>
      (e = .returned (.bool true) ∧ J (pre ++ changes x) W' ∧ KeepC g W W') ∨ (e = .returned (.bool false) ∧ ∃ q, q <+: changes x ∧ Jx (pre ++ q) W') := by
  have hdd : ∀ k : Nat, (F.depth.isSome = true → 1 ≤ k) := fun k h => by rw [hd] at h; cases h
  obtain ⟨W1, hW1⟩ : ∃ W1, W1 = W.alloc (.cells #[.int .i64 x.o, .int .i64 x.s, .int .i64 x.a, .int .i64 x.d] 31) := ⟨_, rfl⟩
  have hb1 : Below W.heap.size W W1 := by rw [hW1]; exact (Below.refl _ _).alloc (Nat.le_refl _) _
  have hk1 : Blk W1 W.heap.size 31 #[.int .i64 x.o, .int .i64 x.s, .int .i64 x.a, .int .i64 x.d] := by rw [hW1]; exact Blk.new _ _ _
  have hkd := hkind (n - 1) x.o x.s x.a x.d W1
  have e0 := hk1.cell 0; have e1 := hk1.cell 1; have e2 := hk1.cell 2; have e3 := hk1.cell 3
  have a1 := ha.1; have a2 := ha.2
  obtain ⟨cs, hcs⟩ : ∃ cs, cs = changes x := ⟨_, rfl⟩
  rw [← hcs] at hN ⊢
  refine callsIn_of_wp Try.func30 rfl (hfn _) ?_ hro
  simp only [Try.ntmps30, List.size_toArray, List.length_cons, List.length_nil, Nat.reduceAdd, Nat.reduceSub, Array.replicate_succ, Array.replicate_zero, List.push_toArray, List.append_toArray, List.nil_append, List.cons_append]
  gi_wp2_with fail
  rw [← hW1]
  clear hW1
  gi_wp2_with fail
  gi_at_call 32
  refine hkd.mono ?_
  rintro e W2 ⟨rfl, hb2⟩
  have hk2 := hk1.below hb2 hk1.lt
  have hb := hb1.trans (hb2.mono hb1.size)
  have hJ2 := abides_below hJ h0 hb
  have f0 := hk2.cell 0; have f1 := hk2.cell 1; have f2 := hk2.cell 2; have f3 := hk2.cell 3
  have kb := KeepC.below (g := g) hb
  have hne : W.heap.size ≠ g := by omega
  clear hkd e0 e1 e2 e3 hb2 hb1 hk1 hkind
  have ew : IntKind.i64.wrap (-x.a) = -x.a := by rw [IntKind.wrap_i64]; omega
  unfold changes at hcs
  generalize hkk : kindOf x.o x.s = kk at hcs ⊢
  have hkk3 : kk = 0 ∨ kk = 1 ∨ kk = 2 := by
    rw [← hkk]
    unfold kindOf
    split
    · omega
    · split <;> omega
  clear hkk
  rcases hkk3 with rfl | rfl | rfl
  · have hcs' : cs = [(x.o, x.a)] := hcs
    obtain ⟨fn, tmps, assign, body, hy, hR⟩ := hY (n - 1) pre (x.o, x.a) W2 hJ2 (by rw [hcs'] at hN; simp at hN; omega)
    dsimp only [encs2] at hy
    clear hcs
    gi_wp2
    refine hR.mono ?_
    rintro e W3 (⟨rfl, h3, k3⟩ | ⟨rfl, h3⟩)
    · gi_wp2
      go_ret
      exact .inl ⟨rfl, by rw [hcs']; exact h3, kb.trans k3⟩
    · gi_wp2
      go_ret
      exact .inr ⟨rfl, _, List.prefix_refl _, by rw [hcs']; exact h3⟩
  · have hcs' : cs = [(x.o, -x.a), (x.s, x.a)] := hcs
    have hN' : pre.length + 2 ≤ N := by rw [hcs'] at hN; simpa using hN
    obtain ⟨fn, tmps, assign, body, hy, hR⟩ := hY (n - 1) pre (x.o, -x.a) W2 hJ2 (by omega)
    dsimp only [encs2] at hy
    clear hcs
    gi_wp2_with fail
    refine hR.mono ?_
    clear hR hy
    rintro e W3 (⟨rfl, h3, k3⟩ | ⟨rfl, h3⟩)
    · have g1 := k3.cell (p := ⟨W.heap.size, 1, none⟩) hne f1
      have g2 := k3.cell (p := ⟨W.heap.size, 2, none⟩) hne f2
      clear f0 f1 f2 f3 hk2
      obtain ⟨fn2, tmps2, assign2, body2, hy2, hR2⟩ := hY (n - 1) _ (x.s, x.a) W3 h3 (by rw [List.length_append]; simp; omega)
      dsimp only [encs2] at hy2
      gi_wp2_with fail
      refine hR2.mono ?_
      clear hR2 hy2
      rintro e W4 (⟨rfl, h4, k4⟩ | ⟨rfl, h4⟩)
      · gi_wp2
        go_ret
        exact .inl ⟨rfl, by rw [hcs']; simpa using h4, (kb.trans k3).trans k4⟩
      · gi_wp2
        go_ret
        exact .inr ⟨rfl, _, List.prefix_refl _, by rw [hcs']; simpa using h4⟩
    · gi_wp2
      go_ret
      exact .inr ⟨rfl, [(x.o, -x.a)], by rw [hcs']; exact ⟨[(x.s, x.a)], rfl⟩, h3⟩
  · have hcs' : cs = [(x.o, -x.a)] := hcs
    obtain ⟨fn, tmps, assign, body, hy, hR⟩ := hY (n - 1) pre (x.o, -x.a) W2 hJ2 (by rw [hcs'] at hN; simp at hN; omega)
    dsimp only [encs2] at hy
    clear hcs
    gi_wp2
    refine hR.mono ?_
    rintro e W3 (⟨rfl, h3, k3⟩ | ⟨rfl, h3⟩)
    · gi_wp2
      go_ret
      exact .inl ⟨rfl, by rw [hcs']; exact h3, kb.trans k3⟩
    · gi_wp2
      go_ret
      exact .inr ⟨rfl, _, List.prefix_refl _, by rw [hcs']; exact h3⟩

set_option maxRecDepth 100000 in
set_option maxHeartbeats 2000000 in
/-- The iterator over what a book's entries change. -/
theorem changes_stops (F : Fence) (hd : F.depth = none) (hro : F.round = none) (hfn : ∀ k, F.fn k)
    (hkind : ∀ n o s a d w, CallsIn F n Try.prog 32 #[.agg #[.int .i64 o, .int .i64 s, .int .i64 a, .int .i64 d]] w (Says (.int .i64 (kindOf o s)) w))
    (n0 g B Bn : Nat) (ao : Option Addr) (n cap : Nat) (es : List Ent) (w : World) (hx : Ents B w ao n cap es) (hB : B ≤ g) (hg : g < w.heap.size)
    (hbn : w.cell? ⟨Bn, 0, none⟩ = some (.slice ao n cap)) (hlt : Bn < w.heap.size) (hok : ∀ i, i < n → 1 ≤ (E es i).a ∧ (E es i).a ≤ 1000000) :
    SeqStopsK F n0 Try.prog 29 #[.pointer (some ⟨Bn, 0, none⟩)] encs2 (KeepC g) (fun xs => xs = allChanges es) (fun pre => pre <+: allChanges es) (allChanges es).length w := fun l J Jx W hW hJ _ hY0 h0 => by
  have hY : ∀ m pre x W, J pre W → pre.length < (allChanges es).length → YieldAt F m Try.prog l (encs2 x) W (Told g J Jx W (pre ++ [x])) := fun m pre x W h1 h2 => yield_any hd m (hY0 pre x W h1 h2)
  clear hY0
  have hdd : ∀ k : Nat, (F.depth.isSome = true → 1 ≤ k) := fun k h => by rw [hd] at h; cases h
  have hx0 := hx.hlen; have hx1 := hx.hcap; have hx2 := hx.hmax
  unfold maxLen at hx2
  have hbn1 := (hW.cell (p := ⟨Bn, 0, none⟩) hlt).trans hbn
  have hxW := hx.below hW (by omega) (Nat.le_refl B)
  have hsW := hW.size
  have HX := Lib.hid hx0; have HO := Lib.hid hok; clear hx0 hok
  refine callsIn_of_wp Try.func29 rfl (hfn _) ?_ hro
  simp only [Try.ntmps29, List.size_toArray, List.length_cons, List.length_nil, Nat.reduceAdd, Nat.reduceSub, Array.replicate_succ, Array.replicate_zero, List.push_toArray, List.append_toArray, List.nil_append, List.cons_append]
  gi_wp2
  gi_loopw [7] (fun si wr => ∃ i : Nat, i ≤ n ∧ si = .int .i64 i ∧ Ents B wr ao n cap es ∧ g < wr.heap.size ∧ J (allChanges (es.take i)) wr) (fun si _ => n - (intOf si).toNat)
  case atStart => exact ⟨0, Nat.zero_le _, rfl, hxW, by omega, by simpa [allChanges] using h0⟩
  case round =>
    obtain ⟨i, hi, rfl, hxr, hgr, hJr⟩ := hrel
    by_cases hin : i < n
    · obtain ⟨b, off, rfl, hbB, hc⟩ := hxr.at i hin
      obtain ⟨c0, c1, c2, c3⟩ := hc i hin
      have hrange := HO.out i hin
      have hpre := allChanges_pre es (i := i) (by have := HX.out; omega)
      have htake := allChanges_take (es := es) (i := i) (by have := HX.out; omega)
      clear hc
      generalize E es i = x at c0 c1 c2 c3 hrange hpre htake
      have i1 : (0 : Int) ≤ i := by omega
      have i2 : (i : Int) < n := by omega
      have i3 : (i : Int) ≤ cap := by omega
      obtain ⟨W1, hW1⟩ : ∃ W1, W1 = wr.alloc (.cells #[.int .i64 x.o, .int .i64 x.s, .int .i64 x.a, .int .i64 x.d] 31) := ⟨_, rfl⟩
      have hb1 : Below wr.heap.size wr W1 := by rw [hW1]; exact (Below.refl _ _).alloc (Nat.le_refl _) _
      have hk1 : Blk W1 wr.heap.size 31 #[.int .i64 x.o, .int .i64 x.s, .int .i64 x.a, .int .i64 x.d] := by rw [hW1]; exact Blk.new _ _ _
      have hJ1 := abides_below hJ hJr hb1
      have hs1 := hb1.size
      have kb := KeepC.below (g := g) hb1
      have hlen := hpre.length_le
      rw [List.length_append] at hlen
      have ht := tellChanges_in F hd hro hfn hkind l g (allChanges es).length W.heap.size J Jx hJ hY x hrange (n0 - 1) _ W1 (by omega) hJ1 hlen
      rw [← htake] at ht hpre
      have e0 := hk1.cell 0; have e1 := hk1.cell 1; have e2 := hk1.cell 2; have e3 := hk1.cell 3
      have HT := Lib.hid htake; have HP := Lib.hid hpre; clear htake hpre
      gi_wp2_with fail
      rw [← hW1]
      clear hW1
      gi_wp2_with fail
      gi_at_call 30
      refine ht.mono ?_
      clear ht
      rintro e W2 (⟨rfl, h2, k2⟩ | ⟨rfl, q, hq, h2⟩)
      · have hx2 := hxr.keepC (kb.trans k2) hB
        have hs2 := k2.size
        gi_wp2
        go_roundw
        case rel => exact ⟨i + 1, by omega, by go_num, hx2, by omega, h2⟩
        case measure => simp [intOf]; omega
      · gi_wp2
        refine bodyPost_ret (results_none rfl _ _ _) rfl ?_
        exact ⟨⟨_, rfl⟩, .inr ⟨_, ((List.prefix_append_right_inj _).2 hq).trans (HT.out ▸ HP.out), h2⟩⟩
    · have ei : i = n := by omega
      subst ei
      have hall : es.take i = es := List.take_of_length_le (by have := HX.out; omega)
      rw [hall] at hJr
      gi_wp2
      go_end0
      exact ⟨⟨_, rfl⟩, .inl ⟨_, rfl, hJr⟩⟩

end Go.Proofs.Ytdinfpgnfofpbaa
