/- Texts of this claim, put together. -/
import Derived.Test.YtoniahfdjhhalaaGreatP1
import Derived.Test.YtoniahfdjhhalaaGreatP6
import Derived.Test.YtoniahfdjhhalaaGreatP10
import Derived.Test.YtoniahfdjhhalaaGreatP15

namespace Go.Proofs.YtoniahfdjhhalaaGreat
open Go.RowKit
def deedOk (k n t m : Int) : Bool := inB n 0 3 && inB m 1 1000000 && (if k = 1 ∨ k = 3 then t == 0 else if k = 2 then inB t 0 3 && !(t == n) else false)
def slotOf (k n t : Int) : Int := if k = 1 then n else if k = 2 then t else 4
theorem deedOk_n {k n t m : Int} (h : inB n 0 3 = false) : deedOk k n t m = false := by simp [deedOk, h]
theorem deedOk_m {k n t m : Int} (h : inB m 1 1000000 = false) : deedOk k n t m = false := by simp [deedOk, h]
theorem deedOk_at {k n t m : Int} (h : inB n 0 3 = true) (h2 : inB m 1 1000000 = true) : deedOk k n t m = (if k = 1 ∨ k = 3 then t == 0 else if k = 2 then inB t 0 3 && !(t == n) else false) := by simp [deedOk, h, h2]
set_option maxHeartbeats 2000000 in
set_option maxRecDepth 100000 in
theorem specDeedOk_any (k n t m : Int) (w : World) :
    Calls Tryz.prog 76 #[.agg #[.int .i64 k, .int .i64 n, .int .i64 t, .int .i64 m]] w (Says (.bool (deedOk k n t m)) w) := by
  have h1 := fun w => l3Node_any n w
  have h2 := fun w => l1In_any m 1 1000000 w
  have h3 := fun w => l3Node_any t w
  have hb0 : Below w.heap.size w (w.alloc (.cells #[.int .i64 k, .int .i64 n, .int .i64 t, .int .i64 m] 60)) := (Below.refl _ _).alloc (Nat.le_refl _) _
  have e1 : inB n 0 3 = false → deedOk k n t m = false := deedOk_n
  have e2 : inB m 1 1000000 = false → deedOk k n t m = false := deedOk_m
  have e3 : inB n 0 3 = true → inB m 1 1000000 = true → deedOk k n t m = (if k = 1 ∨ k = 3 then t == 0 else if k = 2 then inB t 0 3 && !(t == n) else false) := deedOk_at
  generalize deedOk k n t m = r at e1 e2 e3
  generalize inB n 0 3 = b1 at h1 e1 e3
  generalize inB m 1 1000000 = b2 at h2 e2 e3
  generalize inB t 0 3 = b3 at h3 e3
  rcases b1 with _ | _
  · have hr := e1 rfl
    subst hr
    clear e1 e2 e3
    go_enter Tryz.func76, Tryz.ntmps76
    go_wp2_with fail
    refine (h1 _).mono ?_
    rintro e w' ⟨rfl, rfl⟩
    go_wp2_with fail
    go_ret
    exact ⟨rfl, hb0⟩
  rcases b2 with _ | _
  · have hr := e2 rfl
    subst hr
    clear e1 e2 e3
    go_enter Tryz.func76, Tryz.ntmps76
    go_wp2_with fail
    refine (h1 _).mono ?_
    rintro e w' ⟨rfl, rfl⟩
    go_wp2_with fail
    refine (h2 _).mono ?_
    rintro e w' ⟨rfl, rfl⟩
    go_wp2_with fail
    go_ret
    exact ⟨rfl, hb0⟩
  have hr := e3 rfl rfl
  clear e1 e2 e3
  by_cases k1 : k = 1
  · subst k1
    rw [if_pos (.inl rfl)] at hr
    have HR := Lib.hid hr; clear hr
    go_enter Tryz.func76, Tryz.ntmps76
    go_wp2_with fail
    refine (h1 _).mono ?_
    rintro e w' ⟨rfl, rfl⟩
    go_wp2_with fail
    refine (h2 _).mono ?_
    rintro e w' ⟨rfl, rfl⟩
    go_wp2_with fail
    go_ret
    exact ⟨ret_bool HR.out.symm, hb0⟩
  by_cases k3 : k = 3
  · subst k3
    rw [if_pos (.inr rfl)] at hr
    have HR := Lib.hid hr; clear hr k1
    go_enter Tryz.func76, Tryz.ntmps76
    go_wp2_with fail
    refine (h1 _).mono ?_
    rintro e w' ⟨rfl, rfl⟩
    go_wp2_with fail
    refine (h2 _).mono ?_
    rintro e w' ⟨rfl, rfl⟩
    go_wp2_with fail
    go_ret
    exact ⟨ret_bool HR.out.symm, hb0⟩
  rw [if_neg (fun h => h.elim k1 k3)] at hr
  have k1' : (k == 1) = false := by simpa using k1
  have k3' : (k == 3) = false := by simpa using k3
  by_cases k2 : k = 2
  · subst k2
    rw [if_pos rfl] at hr
    have HR := Lib.hid hr; clear hr k1 k3 k1' k3'
    go_enter Tryz.func76, Tryz.ntmps76
    go_wp2_with fail
    refine (h1 _).mono ?_
    rintro e w' ⟨rfl, rfl⟩
    go_wp2_with fail
    refine (h2 _).mono ?_
    rintro e w' ⟨rfl, rfl⟩
    go_wp2_with fail
    refine (h3 _).mono ?_
    rintro e w' ⟨rfl, rfl⟩
    rcases b3 with _ | _
    · go_wp2_with fail
      go_ret
      exact ⟨ret_bool HR.out.symm, hb0⟩
    · go_wp2_with fail
      go_ret
      exact ⟨ret_bool (by rw [HR.out]; simp [bne]), hb0⟩
  · rw [if_neg k2] at hr
    have k2' : (k == 2) = false := by simpa using k2
    subst hr
    clear k1 k2 k3
    go_enter Tryz.func76, Tryz.ntmps76
    go_wp2_with fail
    refine (h1 _).mono ?_
    rintro e w' ⟨rfl, rfl⟩
    go_wp2_with fail
    refine (h2 _).mono ?_
    rintro e w' ⟨rfl, rfl⟩
    go_wp2_with fail
    go_ret
    exact ⟨rfl, hb0⟩
set_option maxHeartbeats 1000000 in
theorem l8Slot_any (k n t m : Int) (w : World) :
    Calls Tryz.prog 91 #[.agg #[.int .i64 k, .int .i64 n, .int .i64 t, .int .i64 m]] w (Says (.int .i64 (slotOf k n t)) w) := by
  have hb0 : Below w.heap.size w (w.alloc (.cells #[.int .i64 k, .int .i64 n, .int .i64 t, .int .i64 m] 60)) := (Below.refl _ _).alloc (Nat.le_refl _) _
  by_cases k1 : k = 1
  · subst k1
    have hv : slotOf 1 n t = n := rfl
    rw [hv]
    go_enter Tryz.func91, Tryz.ntmps91
    go_wp2
    go_ret
    exact ⟨rfl, hb0⟩
  · have k1' : (k == 1) = false := by simpa using k1
    by_cases k2 : k = 2
    · subst k2
      have hv : slotOf 2 n t = t := rfl
      rw [hv]
      clear k1 k1'
      go_enter Tryz.func91, Tryz.ntmps91
      go_wp2
      go_ret
      exact ⟨rfl, hb0⟩
    · have k2' : (k == 2) = false := by simpa using k2
      have hv : slotOf k n t = 4 := by rw [slotOf, if_neg k1, if_neg k2]
      rw [hv]
      clear k1 k2 hv
      go_enter Tryz.func91, Tryz.ntmps91
      go_wp2
      go_ret
      exact ⟨rfl, hb0⟩
def ND (nds : List Nd) (j : Nat) : Nd := nds.getD j zeroNd
theorem ND_get {nds : List Nd} {j : Nat} (h : j < nds.length) : ND nds j = nds[j] := by simp [ND, List.getD, h]
def NodeC (B : Nat) (w : World) (b o : Nat) (nd : Nd) : Prop := ∃ ab nb cb aa na ca,
  w.cell? ⟨b, o, none⟩ = some (.int .i64 nd.me) ∧ w.cell? ⟨b, o + 1, none⟩ = some (.slice ab nb cb) ∧ w.cell? ⟨b, o + 2, none⟩ = some (.slice aa na ca) ∧
  Ents B w ab nb cb nd.book ∧ (ab = none → cb = 0) ∧ Rws B w aa na ca nd.acks
theorem NodeC.below {B B' C b o : Nat} {w w' : World} {nd : Nd} (h : NodeC B w b o nd) (hb : Below C w w') (hbC : b < C) (hC : B ≤ C) (hB : B ≤ B') : NodeC B' w' b o nd := by
  obtain ⟨ab, nb, cb, aa, na, ca, h0, h1, h2, he, hz, hr⟩ := h
  exact ⟨ab, nb, cb, aa, na, ca, (hb.cell (p := ⟨b, o, none⟩) hbC).trans h0, (hb.cell (p := ⟨b, o + 1, none⟩) hbC).trans h1, (hb.cell (p := ⟨b, o + 2, none⟩) hbC).trans h2, he.below hb hC hB, hz, hr.below hb hC hB⟩
structure Nds (B : Nat) (w : World) (ao : Option Addr) (n cap : Nat) (nds : List Nd) : Prop where
  hlen : nds.length = n
  hcap : n ≤ cap
  hmax : cap ≤ maxLen
  cell : ∀ j, j < n → ∃ b off, ao = some ⟨b, off, none⟩ ∧ b < B ∧ NodeC B w b (off + j * 3) (ND nds j)
theorem Nds.below {B B' C : Nat} {w w' : World} {ao : Option Addr} {n cap : Nat} {nds : List Nd} (h : Nds B w ao n cap nds) (hb : Below C w w') (hC : B ≤ C) (hB : B ≤ B') : Nds B' w' ao n cap nds :=
  ⟨h.hlen, h.hcap, h.hmax, fun j hj => by
    obtain ⟨b, off, e, hlt, hc⟩ := h.cell j hj
    exact ⟨b, off, e, by omega, hc.below hb (by omega) hC hB⟩⟩
theorem Nds.at {B : Nat} {w : World} {ao : Option Addr} {n cap : Nat} {nds : List Nd} (h : Nds B w ao n cap nds) (k : Nat) (hk : k < n) :
    ∃ b off, ao = some ⟨b, off, none⟩ ∧ b < B ∧ ∀ j, j < n → NodeC B w b (off + j * 3) (ND nds j) := by
  obtain ⟨b, off, e, hb, _⟩ := h.cell k hk
  refine ⟨b, off, e, hb, fun j hj => ?_⟩
  obtain ⟨b', off', e', _, hc⟩ := h.cell j hj
  rw [e] at e'
  cases e'
  exact hc
def flightOk (fl : List (List Int)) : Bool := decide (fl.length ≤ 30) && fl.all bytesOk
theorem flight_many {fl : List (List Int)} (h : 30 < fl.length) : flightOk fl = false := by
  unfold flightOk
  rw [decide_eq_false (by omega), Bool.false_and]
theorem flight_stop {fl : List (List Int)} {k : Nat} (h : k < fl.length) (hf : bytesOk (RW fl k) = false) : flightOk fl = false := by
  have : fl.all bytesOk = false := by
    rw [List.all_eq_false]
    exact ⟨RW fl k, by rw [RW_get h]; exact List.getElem_mem _, by rw [hf]; simp⟩
  simp [flightOk, this]
theorem flight_end {fl : List (List Int)} (h0 : fl.length ≤ 30) (h : ∀ j, j < fl.length → bytesOk (RW fl j) = true) : flightOk fl = true := by
  have : fl.all bytesOk = true := by
    rw [List.all_eq_true]
    intro r hr
    obtain ⟨i, hi, rfl⟩ := List.mem_iff_getElem.1 hr
    have := h i hi
    rwa [RW_get hi] at this
  simp [flightOk, this, h0]
def NodesUp (nds : List Nd) (k : Nat) : Prop := ∀ i : Nat, i < k → nodeOk (ND nds i).me (ND nds i).book (ND nds i).acks = true ∧ (ND nds i).me = i
instance (nds : List Nd) (k : Nat) : Decidable (NodesUp nds k) := by unfold NodesUp; infer_instance
def netOk (nds : List Nd) (fl : List (List Int)) : Bool := decide (1 ≤ nds.length ∧ nds.length ≤ 4) && flightOk fl && decide (NodesUp nds nds.length)
set_option maxHeartbeats 1000000 in
set_option maxRecDepth 100000 in
theorem l16Flight_any (B : Nat) (ao : Option Addr) (n cap : Nat) (rows : List (List Int)) (w : World) (hx : Rws B w ao n cap rows) :
    Calls Tryz.prog 49 #[.slice ao n cap] w (fun e w' => e = .returned (.bool (flightOk rows)) ∧ Drew w w') := by
  have hx0 := hx.hlen; have hx1 := hx.hcap; have hx2 := hx.hmax
  unfold maxLen at hx2
  subst hx0
  obtain ⟨r, hr⟩ : ∃ r, flightOk rows = r := ⟨_, rfl⟩
  have HR := Lib.hid hr
  rw [hr]
  clear hr
  by_cases hbig : 30 < rows.length
  · have hrf : r = false := by rw [← HR.out]; exact flight_many hbig
    subst hrf
    have i1 : (30 : Int) < rows.length := by omega
    go_enter Tryz.func49, Tryz.ntmps49
    go_wp2
    go_ret
    exact ⟨rfl, Drew.refl _⟩
  · have i1 : ¬ (30 : Int) < rows.length := by omega
    go_enter Tryz.func49, Tryz.ntmps49
    go_wp2
    go_loopw [3] (fun s3 wr => ∃ k : Nat, k ≤ rows.length ∧ s3 = .int .i64 k ∧ Hid (∀ j, j < k → bytesOk (RW rows j) = true) ∧ Drew w wr) (fun s3 _ => rows.length - (intOf s3).toNat)
    case atStart => exact ⟨0, Nat.zero_le _, rfl, Lib.hid (fun j hj => absurd hj (by omega)), Drew.refl _⟩
    case round =>
      obtain ⟨k, hk, rfl, hall, hdr⟩ := hrel
      have hxr := hx.below (hdr.below B) (Nat.le_refl B) (Nat.le_refl B)
      by_cases hlt : k < rows.length
      · obtain ⟨b, off, rfl, hb, hc⟩ := hxr.at k hlt
        obtain ⟨a, m, c, c0, hi, -⟩ := hc k hlt
        clear hc
        have hv := specBytesOk_any B a m c (RW rows k) wr hi
        have hstop : bytesOk (RW rows k) = false → r = false := fun h => by rw [← HR.out]; exact flight_stop hlt h
        have hgo : bytesOk (RW rows k) = true → ∀ j, j < k + 1 → bytesOk (RW rows j) = true := fun h j hj => by
          by_cases e : j = k
          · subst e; exact h
          · exact hall.out j (by omega)
        generalize bytesOk (RW rows k) = v at hv hstop hgo
        have HS := Lib.hid hstop; have HG := Lib.hid hgo; clear hstop hgo
        have i0 : (0 : Int) ≤ k := by omega
        have i2 : (k : Int) < rows.length := by omega
        go_wp2_with fail
        refine hv.mono ?_
        rintro e w2 ⟨rfl, rfl⟩
        have hdd := hdr
        rcases v with _ | _
        · have hrf := HS.out (by first | rfl | trivial)
          subst hrf
          clear HS HG
          go_wp2
          go_ret
          exact ⟨rfl, hdd⟩
        · have hn := Lib.hid (HG.out (by first | rfl | trivial))
          clear HS HG hv
          go_wp2
          go_roundw
          case rel => exact ⟨k + 1, by omega, by go_num, hn, hdd⟩
          case measure => simp [intOf]; omega
      · have ek : k = rows.length := by omega
        subst ek
        have hre : r = true := by rw [← HR.out]; exact flight_end (by omega) hall.out
        subst hre
        go_wp2
        go_ret
        exact ⟨rfl, hdr⟩
theorem net_few {nds : List Nd} {fl : List (List Int)} (h : ¬ (1 ≤ nds.length ∧ nds.length ≤ 4)) : netOk nds fl = false := by
  unfold netOk
  rw [decide_eq_false h]
  simp
theorem net_flight {nds : List Nd} {fl : List (List Int)} (h : flightOk fl = false) : netOk nds fl = false := by simp [netOk, h]
theorem net_stop {nds : List Nd} {fl : List (List Int)} {k : Nat} (hk : k < nds.length) (h : ¬ (nodeOk (ND nds k).me (ND nds k).book (ND nds k).acks = true ∧ (ND nds k).me = k)) : netOk nds fl = false := by
  have : decide (NodesUp nds nds.length) = false := decide_eq_false (fun hu => h (hu k hk))
  simp [netOk, this]
theorem net_end {nds : List Nd} {fl : List (List Int)} (h1 : 1 ≤ nds.length ∧ nds.length ≤ 4) (h2 : flightOk fl = true) (h3 : NodesUp nds nds.length) : netOk nds fl = true := by
  simp [netOk, h2, h1, h3]
theorem nodesUp_succ {nds : List Nd} {k : Nat} (h : NodesUp nds k) (hk : nodeOk (ND nds k).me (ND nds k).book (ND nds k).acks = true ∧ (ND nds k).me = k) : NodesUp nds (k + 1) := fun i hi => by
  by_cases e : i = k
  · subst e; exact hk
  · exact h i (by omega)
set_option linter.unusedSimpArgs false in
set_option maxHeartbeats 4000000 in
set_option maxRecDepth 100000 in
theorem specNetOk_any (B : Nat) (an : Option Addr) (nn cn : Nat) (nds : List Nd) (af : Option Addr) (nf cf : Nat) (fl : List (List Int)) (w : World) (hx : Nds B w an nn cn nds) (hy : Rws B w af nf cf fl) (hB : B ≤ w.heap.size) :
    Calls Tryz.prog 37 #[.agg #[.slice an nn cn, .slice af nf cf]] w (Says (.bool (netOk nds fl)) w) := by
  have hx0 := hx.hlen; have hx1 := hx.hcap; have hx2 := hx.hmax
  unfold maxLen at hx2
  subst hx0
  obtain ⟨wb, hwb⟩ : ∃ wb, wb = w.alloc (.cells #[.slice an nds.length cn, .slice af nf cf] 33) := ⟨_, rfl⟩
  obtain ⟨g, hg⟩ : ∃ g, g = w.heap.size := ⟨_, rfl⟩
  have hbox : Blk wb g 33 #[.slice an nds.length cn, .slice af nf cf] := by rw [hwb, hg]; exact Blk.new _ _ _
  have hb0 : Below w.heap.size w wb := by rw [hwb]; exact (Below.refl _ _).alloc (Nat.le_refl _) _
  have hs0 := hb0.size
  have hsb := hbox.lt
  have HBOX : Hid (∀ w', Below wb.heap.size wb w' → Blk w' g 33 #[.slice an nds.length cn, .slice af nf cf]) := Lib.hid (fun w' h => hbox.below h hsb)
  have HA : Hid (∀ w', Below wb.heap.size wb w' → Below w.heap.size w w') := Lib.hid (fun w' h => hb0.trans (h.mono hs0))
  have hfl := l16Flight_any B af nf cf fl wb (hy.below hb0 hB (Nat.le_refl B))
  obtain ⟨r, hr⟩ : ∃ r, netOk nds fl = r := ⟨_, rfl⟩
  have e1 : ¬ (1 ≤ nds.length ∧ nds.length ≤ 4) → r = false := fun h => by rw [← hr]; exact net_few h
  have e2 : flightOk fl = false → r = false := fun h => by rw [← hr]; exact net_flight h
  have e3 : ∀ k, k < nds.length → ¬ (nodeOk (ND nds k).me (ND nds k).book (ND nds k).acks = true ∧ (ND nds k).me = k) → r = false := fun k hk h => by rw [← hr]; exact net_stop hk h
  have e4 : 1 ≤ nds.length ∧ nds.length ≤ 4 → flightOk fl = true → NodesUp nds nds.length → r = true := fun h1 h2 h3 => by rw [← hr]; exact net_end h1 h2 h3
  rw [hr]
  clear hr hy
  generalize flightOk fl = b2 at hfl e2 e4
  have E1 := Lib.hid e1; have E2 := Lib.hid e2; have E3 := Lib.hid e3; have E4 := Lib.hid e4; clear e1 e2 e3 e4
  have d0 := hbox.cell 0; have d1 := hbox.cell 1
  by_cases hlo : nds.length < 1
  · have hrf := E1.out (by omega)
    subst hrf
    have i1 : (nds.length : Int) < 1 := by omega
    clear E1 E2 E3 E4
    go_enter Tryz.func37, Tryz.ntmps37
    go_upto_region 1 with fail
    rw [← hwb, ← hg]
    clear hwb hg
    go_wp2_with fail
    go_ret
    exact ⟨rfl, hb0⟩
  by_cases hhi : 4 < nds.length
  · have hrf := E1.out (by omega)
    subst hrf
    have i1 : ¬ (nds.length : Int) < 1 := by omega
    have i2 : (4 : Int) < nds.length := by omega
    clear E1 E2 E3 E4
    go_enter Tryz.func37, Tryz.ntmps37
    go_upto_region 1 with fail
    rw [← hwb, ← hg]
    clear hwb hg
    go_wp2_with fail
    go_ret
    exact ⟨rfl, hb0⟩
  have i1 : ¬ (nds.length : Int) < 1 := by omega
  have i2 : ¬ (4 : Int) < nds.length := by omega
  go_enter Tryz.func37, Tryz.ntmps37
  go_upto_region 1 with fail
  rw [← hwb, ← hg]
  clear hwb hg
  go_wp2_with fail
  refine hfl.mono ?_
  rintro e w1 ⟨rfl, hdr⟩
  have hb1 : Below wb.heap.size wb w1 := hdr.below _
  rcases b2 with _ | _
  · have hrf := E2.out (by first | rfl | trivial)
    subst hrf
    clear E1 E2 E3 E4
    go_wp2_with fail
    go_ret
    exact ⟨rfl, HA.out _ hb1⟩
  · have E5 : Hid (NodesUp nds nds.length → r = true) := Lib.hid (fun h => E4.out ⟨by omega, by omega⟩ (by first | rfl | trivial) h)
    clear E1 E2 E4 hfl d0 d1
    go_wp2_with fail
    go_loopw [3] (fun s3 wr => ∃ k : Nat, k ≤ nds.length ∧ s3 = .int .i64 k ∧ Hid (NodesUp nds k) ∧ Below wb.heap.size wb wr) (fun s3 _ => nds.length - (intOf s3).toNat)
    case atStart => exact ⟨0, Nat.zero_le _, rfl, Lib.hid (fun i hi => absurd hi (by omega)), hb1⟩
    case round =>
      obtain ⟨k, hk, rfl, hup, hbel⟩ := hrel
      have hboxr := HBOX.out wr hbel
      have d0 := hboxr.cell 0
      by_cases hlt : k < nds.length
      · have hxr := hx.below (HA.out wr hbel) hB (Nat.le_refl B)
        obtain ⟨b, off, rfl, hb, hc⟩ := hxr.at k hlt
        obtain ⟨ab, nb, cb, aa, na, ca, c0, c1, c2, he, hz, hrw⟩ := hc k hlt
        have hgo := fun h => nodesUp_succ hup.out (k := k) h
        have hstop := E3.out k hlt
        have hno := specNodeOk_any B (ND nds k).me ab nb cb (ND nds k).book aa na ca (ND nds k).acks wr he hrw (by have := (HA.out wr hbel).size; omega)
        have hbwr : b < wr.heap.size := by have := (HA.out wr hbel).size; omega
        clear hc
        generalize nodeOk (ND nds k).me (ND nds k).book (ND nds k).acks = v at hno hgo hstop
        generalize (ND nds k).me = me at c0 hno hgo hstop
        have HG := Lib.hid hgo; have HST := Lib.hid hstop; clear hgo hstop
        have i0 : (0 : Int) ≤ k := by omega
        have i3 : (k : Int) < nds.length := by omega
        go_wp2_with fail
        refine hno.mono ?_
        rintro e w2 ⟨rfl, hb2⟩
        have hbel2 := hbel.trans (hb2.mono hbel.size)
        have hbox2 := HBOX.out w2 hbel2
        have m0 := (hb2.cell (p := ⟨b, off + k * 3, none⟩) hbwr).trans c0
        clear d0 c0 c1 c2 hno
        have d0 := hbox2.cell 0
        rcases v with _ | _
        · have hrf := HST.out (by simp)
          subst hrf
          clear HG HST
          go_wp2_with fail
          go_ret
          exact ⟨rfl, HA.out _ hbel2⟩
        · by_cases hme : me = k
          · have hme' : (me != (k : Int)) = false := by simpa using hme
            have hn := Lib.hid (HG.out ⟨by first | rfl | trivial, hme⟩)
            have HME := Lib.hid hme
            clear HG HST hme
            go_wp2_with fail
            go_roundw
            case rel => exact ⟨k + 1, by omega, by go_num, hn, hbel2⟩
            case measure => simp [intOf]; omega
          · have hme' : (me != (k : Int)) = true := by simpa using hme
            have hrf := HST.out (fun h => hme h.2)
            subst hrf
            clear HG HST hme
            go_wp2_with fail
            go_ret
            exact ⟨rfl, HA.out _ hbel2⟩
      · have ek : k = nds.length := by omega
        subst ek
        have hrt := E5.out hup.out
        subst hrt
        clear E5 E3
        go_wp2_with fail
        go_ret
        exact ⟨rfl, HA.out _ hbel⟩
end Go.Proofs.YtoniahfdjhhalaaGreat
