/-
  impl.HeldBy.
-/
import Derived.Test.YtdinfpgnfofpbaaChanges
namespace Go.Proofs.Ytdinfpgnfofpbaa
open Go.RowKit Go.Shelf
attribute [local go_sem] Oper.semAt_some

def netStep (node acc : Int) (p : Int × Int) : Int := if p.1 = node then IntKind.i64.wrap (acc + p.2) else acc
def net (node : Int) (xs : List (Int × Int)) : Int := xs.foldl (netStep node) 0
theorem net_snoc (node : Int) (xs : List (Int × Int)) (p : Int × Int) : net node (xs ++ [p]) = netStep node (net node xs) p := by simp [net, List.foldl_append]

theorem net_entry {e : Ent} {node acc : Int} {k : Nat} (hok : e.ok = true) (hn : 0 ≤ node ∧ node ≤ 3) (hs : Small acc k) (hk : k ≤ 20) :
    (changes e).foldl (netStep node) acc = heldStep node acc e := by
  have hh := Ent.ok_all hok
  unfold Small at hs
  have w1 : IntKind.i64.wrap (acc + e.a) = acc + e.a := by rw [IntKind.wrap_i64]; omega
  have w2 : IntKind.i64.wrap (acc + -e.a) = acc - e.a := by rw [IntKind.wrap_i64]; omega
  unfold changes kindOf heldStep
  by_cases h4 : e.s = 4
  · rw [if_pos h4]
    simp only [show ¬ ((2 : Int) = 0) by decide, show ¬ ((2 : Int) = 1) by decide, if_false, List.foldl_cons, List.foldl_nil, netStep, w2]
    rw [if_neg (show ¬ e.s = node by omega)]
  · rw [if_neg h4]
    by_cases ho : e.s = e.o
    · rw [if_pos ho, if_pos rfl]
      simp only [List.foldl_cons, List.foldl_nil, netStep, w1, ho]
      split <;> rfl
    · rw [if_neg ho, if_neg (show ¬ ((1 : Int) = 0) by decide), if_pos rfl]
      simp only [List.foldl_cons, List.foldl_nil, netStep]
      by_cases h1 : e.o = node
      · rw [if_pos h1, w2, if_neg (show ¬ e.s = node by omega), if_neg (show ¬ e.s = node by omega), if_pos h1]
      · rw [if_neg h1, w1]
        split
        · rfl
        · rfl

theorem net_held {es : List Ent} (h : bookOk es = true) {node : Int} (hn : 0 ≤ node ∧ node ≤ 3) : net node (allChanges es) = held es node := by
  have hr := book_right h
  have hl := book_len h
  have : ∀ k, k ≤ es.length → net node (allChanges (es.take k)) = held (es.take k) node ∧ Small (held (es.take k) node) k := by
    intro k
    induction k with
    | zero => intro _; exact ⟨rfl, by simp [Small, held]⟩
    | succ k ih =>
      intro hk
      obtain ⟨h1, h2⟩ := ih (by omega)
      have hok := (hr k (by omega)).1
      have hh := Ent.ok_all hok
      rw [held_take (by omega)]
      refine ⟨?_, small_step h2 ⟨hh.2.2.2.2.1, hh.2.2.2.2.2.1⟩⟩
      rw [← net_entry hok hn h2 (by omega), ← h1, allChanges_take (by omega)]
      simp [net, List.foldl_append]
  have hf := (this es.length (Nat.le_refl _)).1
  rwa [List.take_length] at hf

theorem Blk.turned {W W' : World} {row : Option Nat} {g : Nat} {t : TypeId} {cs : Array Value} (h : Blk W g t cs) (hg : W.grownBy W' row) (hr : ∀ r, row = some r → ∃ o : Obj, W.heap[r]? = some o ∧ o.isCells = false) : Blk W' g t cs :=
  (grownBy_keeps_cells hg hr (show W.heap[g]? = some (.cells cs t (0, 0)) from h) rfl).trans h
theorem Blk.putObj {W : World} {g l : Nat} {t : TypeId} {cs : Array Value} {o : Obj} (h : Blk W g t cs) (hl : W.heap[l]? = some o) (ho : o.isCells = false) (o' : Obj) : Blk (W.putObj l o') g t cs :=
  h.turned (grownBy_putObj' W l o') (fun r e => by cases e; exact ⟨o, hl, ho⟩)

set_option maxHeartbeats 400000 in
theorem changesOf_any (ao : Option Addr) (n cap : Nat) (w : World) :
    Calls Try.prog 27 #[.slice ao n cap] w fun e w' =>
      e = .returned (.func (.func 29) #[] #[.pointer (some ⟨w.heap.size, 0, none⟩)]) ∧ w' = w.alloc (.cells #[.slice ao n cap] 25) := by
  go_enter Try.func27, Try.ntmps27
  go_wp2
  go_ret
  exact ⟨rfl, rfl⟩

set_option maxRecDepth 100000 in
set_option maxHeartbeats 2000000 in
theorem heldBy_wide (B : Nat) (ao : Option Addr) (n cap : Nat) (es : List Ent) (node : Int) (w : World) (hx : Ents B w ao n cap es) (hB : B ≤ w.heap.size) (hok : bookOk es = true) (hn : inB node 0 3 = true) :
    CallsIn Fence.wide 9 Try.prog 22 #[.slice ao n cap, .int .i64 node] w (Says (.int .i64 (held es node)) w) := by
  have hbound : 0 ≤ node ∧ node ≤ 3 := by simpa [inB] using hn
  obtain ⟨res, hres⟩ : ∃ res, net node (allChanges es) = res := ⟨_, rfl⟩
  have hv : held es node = res := by rw [← hres, net_held hok hbound]
  rw [hv]
  have hr : ∀ i, i < n → 1 ≤ (E es i).a ∧ (E es i).a ≤ 1000000 := fun i hi => by
    have h1 := Ent.ok_all (book_right hok i (by have := hx.hlen; omega)).1
    exact ⟨h1.2.2.2.2.1, h1.2.2.2.2.2.1⟩
  obtain ⟨W1, hW1⟩ : ∃ W1, W1 = w.alloc (.cells #[.int .i64 node] 2) := ⟨_, rfl⟩
  have hb0 : Below w.heap.size w W1 := by rw [hW1]; exact (Below.refl _ _).alloc (Nat.le_refl _) _
  have k1 : Blk W1 w.heap.size 2 #[.int .i64 node] := by rw [hW1]; exact Blk.new _ _ _
  have h2 := callsIn_wide (n := 8).2 (isNode_any node W1)
  have h3 := callsIn_wide (n := 8).2 (implBookOk_any B ao n cap es _ (hx.below hb0 hB (Nat.le_refl B)) (by have := hb0.size; omega))
  rw [hn] at h2
  rw [hok] at h3
  have HV := Lib.hid hv; have HR := Lib.hid hr; have HRES := Lib.hid hres
  clear hv hr hn hok hres
  have e0 := k1.cell 0
  refine callsIn_of_wp_marks Try.func22 rfl trivial ?_ rfl
  simp only [Try.ntmps22, List.size_toArray, List.length_cons, List.length_nil, Nat.reduceAdd, Nat.reduceSub, Array.replicate_succ, Array.replicate_zero, List.push_toArray, List.append_toArray, List.nil_append, List.cons_append]
  gi_wp2_with fail
  rw [← hW1]
  clear hW1
  gi_wp2_with fail
  refine ⟨trivial, h2.mono ?_⟩
  rintro e w' ⟨rfl, rfl⟩
  gi_wp2_with fail
  refine ⟨trivial, h3.mono ?_⟩
  rintro e w2 ⟨rfl, hb2⟩
  have k2 := k1.below hb2 k1.lt
  have hbw := hb0.trans (hb2.mono hb0.size)
  have hs2 := hbw.size
  have hl2 := k2.lt
  obtain ⟨W3, hW3⟩ : ∃ W3, W3 = w2.alloc (.cells #[.int .i64 0] 2) := ⟨_, rfl⟩
  have hb3 : Below w2.heap.size w2 W3 := by rw [hW3]; exact (Below.refl _ _).alloc (Nat.le_refl _) _
  have k3 : Blk W3 w2.heap.size 2 #[.int .i64 0] := by rw [hW3]; exact Blk.new _ _ _
  have h4 := callsIn_wide (n := 8).2 (changesOf_any ao n cap W3)
  clear h2 h3 k1 e0 hb0
  gi_wp2_with fail
  rw [← hW3]
  clear hW3
  gi_wp2_with fail
  refine ⟨trivial, h4.mono ?_⟩
  rintro e w4 ⟨rfl, hw4⟩
  have hs3 := hb3.size
  have hl3 := k3.lt
  have hb4 : Below W3.heap.size W3 w4 := by rw [hw4]; exact (Below.refl _ _).alloc (Nat.le_refl _) _
  have kb : Blk w4 W3.heap.size 25 #[.slice ao n cap] := by rw [hw4]; exact Blk.new _ _ _
  have kh := k3.below hb4 hl3
  have kn := (k2.below hb3 hl2).below hb4 (by omega)
  have hs4 := hb4.size
  have hlb := kb.lt
  have hbw4 := (hbw.trans (hb3.mono hs2)).trans (hb4.mono (by omega))
  have hx4 := hx.below hbw4 hB (Nat.le_refl B)
  have eb := kb.cell 0
  clear hw4 h4 k2 k3 hb2 hb3
  gi_wp2_with fail
  refine wpIn_rangeFunc_ownF rfl (by decide) (gf := 29) (lb := #[.pointer (some ⟨W3.heap.size, 0, none⟩)]) rfl trivial (enters_of Try.func29 (by kernel_rfl) rfl)
    (changes_stops Fence.wide rfl rfl (fun _ => trivial) (fun _ o s a d w => callsIn_wide.2 (kindOf_any o s a d w)) (9 - 1) w2.heap.size B W3.heap.size ao n cap es w4 hx4 (by omega) (by omega) eb hlb HR.out)
    KeepC.trans (fun W l o o' _ h hc _ => KeepC.put h hc) (Below.refl _ _) (fun _ => rfl)
    (fun pre W => (Blk W w.heap.size 2 #[.int .i64 node] ∧ Blk W w2.heap.size 2 #[.int .i64 (net node pre)]) ∧ Below w.heap.size w W)
    (fun _ _ _ => False)
    (OwnFrom.and (fun s A B row hs hg hr => ⟨hs.1.turned hg (fun r e => (hr r e).2), hs.2.turned hg (fun r e => (hr r e).2)⟩) (ownFrom_below (Nat.le_refl _) (by omega)))
    (fun _ _ _ _ _ hs _ _ => hs)
    ⟨⟨kn, kh⟩, hbw4⟩
    (fun x => { tmps := #[.slice ao n cap, .int .i64 node, undef, .pointer (some ⟨w.heap.size, 0, none⟩), .int .i64 0, .pointer (some ⟨w2.heap.size, 0, none⟩), .int .i64 x.1, .int .i64 x.2, .int .i64 node, .bool true, .bool false, .bool false, .slice ao n cap, .bool true, .bool false, .bool false, .slice ao n cap,
      .func (.func 29) #[] #[.pointer (some ⟨W3.heap.size, 0, none⟩)], .int .i64 x.1, .int .i64 x.2, undef, undef, undef, undef, undef, undef, undef], defers := [] }) ?assign ?body ?done ?stop
  case assign =>
    rintro l ⟨who, ch⟩ W K hK
    dsimp only [encs2] at hK ⊢
    gi_wp2
    exact hK
  case body =>
    rintro l pre ⟨who, ch⟩ W ⟨⟨kn', kh'⟩, hbel⟩ _
    have c0 := kn'.cell 0; have c1 := kh'.cell 0; have c2 := kh'.frozen 0
    have hsz := hbel.size
    have hnet := net_snoc node pre (who, ch)
    unfold netStep at hnet
    dsimp only at hnet ⊢
    by_cases hw : who = node
    · have hw' : (who == node) = true := by simpa using hw
      rw [if_pos hw] at hnet
      have HN := Lib.hid hnet; clear hnet hw
      gi_wp2
      refine ⟨KeepsOthers.setCell _ _ _, KeepC.setCell _ _ _, ⟨kn'.far (p := ⟨w2.heap.size, 0, none⟩) (by show w.heap.size ≠ w2.heap.size; omega) _, ?_⟩, hbel.setCell (p := ⟨w2.heap.size, 0, none⟩) (by show w.heap.size ≤ w2.heap.size; omega) _⟩
      rw [HN.out]
      rw [IntWalk.i64_left]
      exact kh'.set_ 0 (.int .i64 (wrap64 (net node pre + ch)))
    · have hw' : (who == node) = false := by simpa using hw
      rw [if_neg hw] at hnet
      have HN := Lib.hid hnet; clear hnet hw
      gi_wp2
      exact ⟨KeepsOthers.refl _, KeepC.refl _ _, ⟨kn', by rw [HN.out]; exact kh'⟩, hbel⟩
  case done =>
    rintro D ys W hD rfl ⟨⟨_, kh'⟩, hbel⟩ hK
    rw [HRES.out] at kh'
    have c1 := kh'.cell 0
    gi_wp2
    refine ⟨by simp, .inl ⟨_, _, rfl, run_takeDeferred hK, ?_⟩⟩
    exact ⟨_, results_tmp rfl _ _ _, rfl, hbel.trans (belowK_b (w := w) (Nat.le_refl _) W D _ _ (by omega) hK rfl rfl)⟩
  case stop =>
    rintro D c pre W _ _ h _
    exact h.elim

set_option maxHeartbeats 1000000 in
theorem implHeldBy_any (B : Nat) (ao : Option Addr) (n cap : Nat) (es : List Ent) (node : Int) (w : World) (hx : Ents B w ao n cap es) (hB : B ≤ w.heap.size) :
    Calls Try.prog 22 #[.slice ao n cap, .int .i64 node] w (Says (.int .i64 (heldBy es node)) w) := by
  cases hn : inB node 0 3 with
  | false =>
    have h2 := isNode_any node (w.alloc (.cells #[.int .i64 node] 2))
    rw [hn] at h2
    rw [heldBy_no (.inr hn)]
    clear hn
    go_enter Try.func22, Try.ntmps22
    go_wp2_with fail
    refine h2.mono ?_
    rintro e w1 ⟨rfl, rfl⟩
    go_wp2_with fail
    go_ret
    exact ⟨rfl, (Below.refl _ _).alloc (Nat.le_refl _) _⟩
  | true =>
    cases hok : bookOk es with
    | true =>
      rw [heldBy_yes hok hn]
      exact callsIn_wide.1 (heldBy_wide B ao n cap es node w hx hB hok hn)
    | false =>
      have hb0 : Below w.heap.size w (w.alloc (.cells #[.int .i64 node] 2)) := (Below.refl _ _).alloc (Nat.le_refl _) _
      have h2 := isNode_any node (w.alloc (.cells #[.int .i64 node] 2))
      have h3 := implBookOk_any B ao n cap es _ (hx.below hb0 hB (Nat.le_refl B)) (by simp; omega)
      rw [hn] at h2
      rw [hok] at h3
      rw [heldBy_no (.inl hok)]
      clear hn hok
      go_enter Try.func22, Try.ntmps22
      go_wp2_with fail
      refine h2.mono ?_
      rintro e w1 ⟨rfl, rfl⟩
      go_wp2_with fail
      refine h3.mono ?_
      rintro e w2 ⟨rfl, hb2⟩
      go_wp2_with fail
      go_ret
      exact ⟨rfl, hb0.trans (hb2.mono (by simp))⟩

end Go.Proofs.Ytdinfpgnfofpbaa
