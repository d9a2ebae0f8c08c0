/-
  Ref1: the checks of the reference.
-/
import Derived.Test.YtbieglmpkljjjaaValid
namespace Go.Proofs.Ytbieglmpkljjjaa
open Go.RowKit

set_option maxHeartbeats 400000 in
theorem isSort_any (N : Nat) (v : Value) (B : KB) (y : Int) (w : World) (h : BookAt N w v B) :
    Calls Try.prog 39 #[v, .int .i64 y] w fun e w' => e = .returned (.bool (decide (0 ≤ y) && decide (y < B.ns))) ∧ Below w.heap.size w w' := by
  have h' := h
  obtain ⟨_, a1, z1, a2, z2, a3, z3, rfl, _⟩ := h'
  obtain ⟨ws, hws, HB, hsz, hblk⟩ := box1 w (.cells #[.slice a1 B.nv z1, .slice a2 B.ns z2, .slice a3 B.D.n z3] 26)
  have q0 := cell_blk hblk 0 rfl
  have q1 := cell_blk hblk 1 rfl
  have q2 := cell_blk hblk 2 rfl
  have HBK := Lib.hid (h.go HB.out)
  have HB0 : Hid (Below ws.heap.size ws ws) := Below.refl _ _
  have HNS : Hid (N ≤ ws.heap.size) := HBK.out.1
  have hlens := h.lens
  obtain ⟨hlv, hls, hln⟩ := hlens
  clear hblk h
  have HE : Hid ((decide (0 ≤ y) && decide (y ≤ (B.ns : Int) - 1)) = (decide (0 ≤ y) && decide (y < (B.ns : Int)))) := by unfold Hid; rw [Bool.eq_iff_iff]; simp; omega
  go_enter Try.func39, Try.ntmps39
  go_wp2_with (go_at_call 66; refine (rwithin_any _ _ _ _).mono ?_; rintro e w' ⟨rfl, rfl⟩)
  go_ret
  exact ⟨ret_bool (by first | exact HE.out | (rw [← HE.out]; rfl)), HB.out⟩

set_option maxHeartbeats 400000 in
theorem isNodeNo_any (N : Nat) (v : Value) (B : KB) (y : Int) (w : World) (h : BookAt N w v B) :
    Calls Try.prog 21 #[v, .int .i64 y] w fun e w' => e = .returned (.bool (decide (0 ≤ y) && decide (y < B.D.n))) ∧ Below w.heap.size w w' := by
  have h' := h
  obtain ⟨_, a1, z1, a2, z2, a3, z3, rfl, _⟩ := h'
  obtain ⟨ws, hws, HB, hsz, hblk⟩ := box1 w (.cells #[.slice a1 B.nv z1, .slice a2 B.ns z2, .slice a3 B.D.n z3] 26)
  have q0 := cell_blk hblk 0 rfl
  have q1 := cell_blk hblk 1 rfl
  have q2 := cell_blk hblk 2 rfl
  have HBK := Lib.hid (h.go HB.out)
  have HB0 : Hid (Below ws.heap.size ws ws) := Below.refl _ _
  have HNS : Hid (N ≤ ws.heap.size) := HBK.out.1
  have hlens := h.lens
  obtain ⟨hlv, hls, hln⟩ := hlens
  clear hblk h
  have HE : Hid ((decide (0 ≤ y) && decide (y ≤ (B.D.n : Int) - 1)) = (decide (0 ≤ y) && decide (y < (B.D.n : Int)))) := by unfold Hid; rw [Bool.eq_iff_iff]; simp; omega
  go_enter Try.func21, Try.ntmps21
  go_wp2_with (go_at_call 66; refine (rwithin_any _ _ _ _).mono ?_; rintro e w' ⟨rfl, rfl⟩)
  go_ret
  exact ⟨ret_bool (by first | exact HE.out | (rw [← HE.out]; rfl)), HB.out⟩

theorem isSort_eq (N : Nat) (v : Value) (B : KB) (y : Int) (r : Bool) (w : World) (h : BookAt N w v B) (hr : (decide (0 ≤ y) && decide (y < B.ns)) = r) :
    Calls Try.prog 39 #[v, .int .i64 y] w fun e w' => e = .returned (.bool r) ∧ Below w.heap.size w w' := by
  subst hr; exact isSort_any N v B y w h
theorem isNodeNo_eq (N : Nat) (v : Value) (B : KB) (y : Int) (r : Bool) (w : World) (h : BookAt N w v B) (hr : (decide (0 ≤ y) && decide (y < B.D.n)) = r) :
    Calls Try.prog 21 #[v, .int .i64 y] w fun e w' => e = .returned (.bool r) ∧ Below w.heap.size w w' := by
  subst hr; exact isNodeNo_any N v B y w h

/-- IsFruit of the reference, of whatever numbers -/
def rX (nv : Nat) (V : Nat → Int) (n : Nat) (x : Nat → Int) : Bool := decide (n = nv) && allB n fun i => decide (0 ≤ x i) && decide (x i ≤ IntKind.i64.wrap (V i - 1))
theorem rX_ok {nv : Nat} {V : Nat → Int} {n : Nat} {x : Nat → Int} (h : ∀ i, i < nv → 2 ≤ V i ∧ V i ≤ 3) : rX nv V n x = okX nv V n x := by
  unfold rX okX
  by_cases hn : n = nv
  · subst hn
    congr 1
    rw [Bool.eq_iff_iff, allB_true, allB_true]
    have key : ∀ i, i < n → (decide (0 ≤ x i) && decide (x i ≤ IntKind.i64.wrap (V i - 1))) = (decide (0 ≤ x i) && decide (x i < V i)) := fun i hi => by
      have := h i hi
      rw [IntWalk.i64_in _ (by omega)]
      rw [Bool.eq_iff_iff]; simp; omega
    exact ⟨fun g i hi => by rw [← key i hi]; exact g i hi, fun g i hi => by rw [key i hi]; exact g i hi⟩
  · rw [decide_eq_false hn]; rfl

set_option maxHeartbeats 800000 in
theorem isFruit_any (N : Nat) (v u : Value) (B : KB) (n : Nat) (x : Nat → Int) (w : World) (h : BookAt N w v B) (hu : IntsAt N w u n x) :
    Calls Try.prog 16 #[v, u] w fun e w' => e = .returned (.bool (rX B.nv B.V n x)) ∧ Below w.heap.size w w' := by
  have hn := hu.len
  obtain ⟨au, cu, rfl, _, _⟩ := id hu
  have hN := h.1
  have h' := h
  obtain ⟨_, a1, z1, a2, z2, a3, z3, rfl, _⟩ := h'
  obtain ⟨ws, hws, HB, hsz, hblk⟩ := box1 w (.cells #[.slice a1 B.nv z1, .slice a2 B.ns z2, .slice a3 B.D.n z3] 26)
  have q0 := cell_blk hblk 0 rfl
  have q1 := cell_blk hblk 1 rfl
  have q2 := cell_blk hblk 2 rfl
  have HBK := Lib.hid (h.go HB.out)
  have HB0 : Hid (Below ws.heap.size ws ws) := Below.refl _ _
  have HNS : Hid (N ≤ ws.heap.size) := HBK.out.1
  have hlens := h.lens
  obtain ⟨hlv, hls, hln⟩ := hlens
  clear hblk h
  have HX := Lib.hid (hu.go hN HB.out)
  clear hu
  by_cases hnv : n = B.nv
  case neg =>
    have hE : ((n : Int) != (B.nv : Int)) = true := by simp; omega
    have H : Hid (rX B.nv B.V n x = false) := by unfold Hid rX; rw [decide_eq_false hnv]; rfl
    clear hnv
    go_enter Try.func16, Try.ntmps16
    go_wp2
    go_ret
    exact ⟨ret_bool H.out.symm, HB.out⟩
  have hE : ((n : Int) != (B.nv : Int)) = false := by simp; omega
  have HE := Lib.hid hnv
  have HF : Hid (∀ k, k < n → (decide (0 ≤ x k) && decide (x k ≤ IntKind.i64.wrap (B.V k - 1))) = false → rX B.nv B.V n x = false) := fun k hk hf => by unfold rX; rw [allB_succ_false hk hf, Bool.and_false]
  clear hnv
  go_enter Try.func16, Try.ntmps16
  go_wp2
  clear hws
  go_loopw [5] (fun i wr => ∃ k : Nat, k ≤ n ∧ i = .int .i64 k ∧ Hid (∀ j, j < k → (decide (0 ≤ x j) && decide (x j ≤ IntKind.i64.wrap (B.V j - 1))) = true) ∧ Drawn ws wr) (fun i _ => n - (intOf i).toNat)
  case atStart => exact ⟨0, Nat.zero_le _, rfl, fun j hj => absurd hj (Nat.not_lt_zero j), Drawn.refl _⟩
  case round =>
    obtain ⟨k, hk, rfl, hj, hq⟩ := hrel
    replace q0 := hq.cell q0
    replace q1 := hq.cell q1
    replace q2 := hq.cell q2
    by_cases hkn : k < n
    · obtain ⟨b, off, rfl, _, hr⟩ := HX.out.cells (by omega)
      have hcell := hq.cell (hr k hkn)
      obtain ⟨b1, off1, rfl, hb1, hr1⟩ := HBK.out.vals.cells (by have := HE.out; omega)
      have hcell1 := hq.cell (hr1 k (by have := HE.out; omega))
      have hkv : (k : Int) < (B.nv : Int) := by have := HE.out; omega
      clear hr hr1
      have HQ := Lib.hid hq
      clear hq
      cases hfb : (decide (0 ≤ x k) && decide (x k ≤ IntKind.i64.wrap (B.V k - 1))) with
      | true =>
        have HFB := Lib.hid hfb
        clear hfb
        go_wp2
        go_quiet ((go_at_call 66; exact Calls.quiet_of_same (rwithin_eq _ _ _ _ _ HFB.out)))
        go_wp2
        go_roundw
        case rel => exact ⟨k + 1, by omega, by go_num, lt_succ hj.out HFB.out, HQ.out.more _⟩
        case measure => simp [intOf]; omega
      | false =>
        have HFB := Lib.hid hfb
        clear hfb
        go_wp2
        go_quiet ((go_at_call 66; exact Calls.quiet_of_same (rwithin_eq _ _ _ _ _ HFB.out)))
        go_wp2
        go_ret
        exact ⟨ret_bool (HF.out k hkn HFB.out).symm, HB.out.trans ((HQ.out.more _).below _)⟩
    · have Hk : Hid (k = n) := by show k = n; omega
      go_wp2
      go_ret
      exact ⟨ret_bool (by unfold rX; rw [allB_true.2 (fun i hi => hj.out i (by rw [Hk.out]; exact hi))]; simp [HE.out]), HB.out.trans (hq.below _)⟩

end Go.Proofs.Ytbieglmpkljjjaa

namespace Go.Proofs.Ytbieglmpkljjjaa
open Go.RowKit

/-- isNode of the reference is okNode -/
def rNode (nv : Nat) (V : Nat → Int) (ns : Nat) (D : Nd) (i : Nat) : Bool :=
  if D.M i = -1 then decide (D.q i = 0) && (decide (D.S i = -1) || (decide (0 ≤ D.S i) && decide (D.S i < ns)))
  else (decide (0 ≤ D.M i) && decide (D.M i < nv)) && decide (D.S i = -1) && decide ((D.q i : Int) = V (D.M i).toNat) && allB (D.q i) fun j => decide ((i : Int) < D.T i j) && decide (D.T i j < D.n)
theorem rNode_eq (nv : Nat) (V : Nat → Int) (ns : Nat) (D : Nd) (i : Nat) : rNode nv V ns D i = okNode nv V ns D i := by
  unfold rNode okNode okAsk okEnd
  by_cases h : D.M i = -1
  · have h0 : ¬ (0 : Int) ≤ D.M i := by omega
    rw [if_pos h, decide_eq_false h0, decide_eq_true h]
    simp only [Bool.false_and, Bool.false_or, Bool.true_and]
    rw [Bool.and_comm]
  · rw [if_neg h, decide_eq_false h]
    simp only [Bool.false_and, Bool.or_false]

set_option maxHeartbeats 3200000 in
theorem isNode_any (N : Nat) (v u : Value) (B : KB) (D : Nd) (i : Nat) (w : World) (h : BookAt N w v B) (hu : NodesAt N w u D) (hi : i < D.n) :
    Calls Try.prog 89 #[v, u, .int .i64 i] w fun e w' => e = .returned (.bool (okNode B.nv B.V B.ns D i)) ∧ Below w.heap.size w w' := by
  have hlD := hu.len
  obtain ⟨au, cu, rfl, _, _⟩ := id hu
  have hN := h.1
  have h' := h
  obtain ⟨_, a1, z1, a2, z2, a3, z3, rfl, _⟩ := h'
  obtain ⟨ws, hws, HB, hsz, hblk⟩ := box1 w (.cells #[.slice a1 B.nv z1, .slice a2 B.ns z2, .slice a3 B.D.n z3] 26)
  have q0 := cell_blk hblk 0 rfl
  have q1 := cell_blk hblk 1 rfl
  have q2 := cell_blk hblk 2 rfl
  have HBK := Lib.hid (h.go HB.out)
  have HB0 : Hid (Below ws.heap.size ws ws) := Below.refl _ _
  have HNS : Hid (N ≤ ws.heap.size) := HBK.out.1
  have hlens := h.lens
  obtain ⟨hlv, hls, hln⟩ := hlens
  clear hblk h
  obtain ⟨bn, on, rfl, hbn, hrn⟩ := (hu.go hN HB.out).cells (by omega)
  obtain ⟨ai, ci, hm, hs, hn, hints⟩ := hrn i hi
  have hii : (i : Int) < (D.n : Int) := by omega
  have hbw : bn < ws.heap.size := Nat.lt_of_lt_of_le hbn HBK.out.1
  have hlq : D.q i ≤ 140737488351232 := hints.len
  obtain ⟨wn, hwn, HBn, hszn, hblkn⟩ := box1 ws (.cells #[.int .i64 (D.M i), .int .i64 (D.S i), .slice ai (D.q i) ci] 41)
  have n0 := cell_blk hblkn 0 rfl
  have n1 := cell_blk hblkn 1 rfl
  have n2 := cell_blk hblkn 2 rfl
  have HB1 := Lib.hid (bel HB0.out HBn.out)
  have cc1 := (old_of HB1.out).1
  have hsz1 := Nat.lt_of_lt_of_le hsz HB1.out.size
  have HI := Lib.hid (hints.go HNS.out HBn.out)
  clear hblkn hu hrn hints
  rw [← rNode_eq]
  by_cases hM : D.M i = -1
  · have hme : (D.M i == -1) = true := by simp [hM]
    have HG : Hid (rNode B.nv B.V B.ns D i = (decide (D.q i = 0) && (decide (D.S i = -1) || (decide (0 ≤ D.S i) && decide (D.S i < B.ns))))) := if_pos hM
    clear hM
    cases hqe : ((D.q i : Int) == 0)
    all_goals
      have HQ : Hid (decide (D.q i = 0) = _) := (show decide (D.q i = 0) = decide ((D.q i : Int) = 0) by simp).trans hqe
      cases hse : (D.S i == -1)
      all_goals
        have HS : Hid (decide (D.S i = -1) = _) := hse
        cases hwi : (decide (0 ≤ D.S i) && decide (D.S i < (B.ns : Int)))
        all_goals
          have HW := Lib.hid hwi
          clear hwi
          go_enter Try.func89, Try.ntmps89
          go_wp2_with (go_at_call 39; refine (isSort_eq N _ B _ _ _ (HBK.out.go HB1.out) HW.out).mono ?_; rintro e w2 ⟨rfl, hb2⟩; (try clear c1); have HB2 := Lib.hid (bel HB1.out hb2); have c2 := (old_of HB2.out).1; clear hb2)
          go_ret
          exact ⟨ret_bool (by rw [HG.out, HQ.out, HS.out, HW.out]; rfl), by first | exact fin HB.out HB2.out | exact fin HB.out HB1.out⟩
  have hme : (D.M i == -1) = false := by simp [hM]
  have HG : Hid (rNode B.nv B.V B.ns D i = ((decide (0 ≤ D.M i) && decide (D.M i < B.nv)) && decide (D.S i = -1) && decide ((D.q i : Int) = B.V (D.M i).toNat) && allB (D.q i) fun j => decide ((i : Int) < D.T i j) && decide (D.T i j < D.n))) := if_neg hM
  clear hM
  have HQ : Hid (D.q i = D.q i) := rfl
  obtain ⟨M, hMM⟩ : ∃ M, D.M i = M := ⟨_, rfl⟩
  rw [hMM] at hm n0 hme hwn
  have HMM := Lib.hid hMM
  have hwr : IntKind.i64.wrap ((B.nv : Int) - 1) = (B.nv : Int) - 1 := IntWalk.i64_in _ (by omega)
  cases hwi : (decide (0 ≤ M) && decide (M ≤ (B.nv : Int) - 1)) with
  | false =>
    have HW := Lib.hid hwi
    have H : Hid (rNode B.nv B.V B.ns D i = false) := by
      unfold Hid; rw [HG.out, HMM.out, show (decide (0 ≤ M) && decide (M < (B.nv : Int))) = false by rw [← hwi, Bool.eq_iff_iff]; simp; omega]; rfl
    clear hwi hMM
    go_enter Try.func89, Try.ntmps89
    go_wp2
    (try rw [hwn])
    clear hwn hws
    go_quiet ((go_at_call 66; exact Calls.quiet_of_same (rwithin_eq _ _ _ _ _ HW.out)))
    go_wp2
    go_ret
    exact ⟨ret_bool H.out.symm, below_drewN (fin HB.out HB1.out) _⟩
  | true =>
    have HW := Lib.hid hwi
    have hM0 : 0 ≤ M ∧ M ≤ (B.nv : Int) - 1 := by simpa using hwi
    obtain ⟨m, rfl⟩ : ∃ m : Nat, M = m := ⟨M.toNat, by omega⟩
    have hmn : m < B.nv := by omega
    have hmi : (m : Int) < (B.nv : Int) := by omega
    obtain ⟨b1, off1, rfl, hb1, hr1⟩ := HBK.out.vals.cells (by omega)
    have hcell1 := hr1 m hmn
    have hb1w : b1 < ws.heap.size := Nat.lt_of_lt_of_le hb1 HBK.out.1
    clear hwi hM0 hr1 hMM
    by_cases hs' : D.S i = -1
    case neg =>
      have hse : (D.S i != -1) = true := by simp [hs']
      have H : Hid (rNode B.nv B.V B.ns D i = false) := by unfold Hid; rw [HG.out, decide_eq_false hs']; simp
      clear hs'
      go_enter Try.func89, Try.ntmps89
      go_wp2
      (try rw [hwn])
      clear hwn hws
      go_quiet ((go_at_call 66; exact Calls.quiet_of_same (rwithin_eq _ _ _ _ _ HW.out)))
      go_wp2
      go_ret
      exact ⟨ret_bool H.out.symm, below_drewN (fin HB.out HB1.out) _⟩
    have hse : (D.S i != -1) = false := by simp [hs']
    have HSE := Lib.hid hs'
    clear hs'
    by_cases hq : (D.q i : Int) = B.V m
    case neg =>
      have hqe : ((D.q i : Int) != B.V m) = true := by simpa using hq
      have H : Hid (rNode B.nv B.V B.ns D i = false) := by
        unfold Hid; rw [HG.out, HMM.out, Int.toNat_natCast, decide_eq_false hq]; simp
      clear hq
      go_enter Try.func89, Try.ntmps89
      go_wp2
      (try rw [hwn])
      clear hwn hws
      go_quiet ((go_at_call 66; exact Calls.quiet_of_same (rwithin_eq _ _ _ _ _ HW.out)))
      go_wp2
      go_ret
      exact ⟨ret_bool H.out.symm, below_drewN (fin HB.out HB1.out) _⟩
    have hqe : ((D.q i : Int) != B.V m) = false := by simpa using hq
    have HGG : Hid (rNode B.nv B.V B.ns D i = allB (D.q i) fun j => decide ((i : Int) < D.T i j) && decide (D.T i j < D.n)) := by
      unfold Hid; rw [HG.out, HMM.out, Int.toNat_natCast]
      simp [HSE.out, hmn, hq]
    clear hq
    go_enter Try.func89, Try.ntmps89
    go_wp2
    (try rw [hwn])
    clear hwn hws
    go_quiet ((go_at_call 66; exact Calls.quiet_of_same (rwithin_eq _ _ _ _ _ HW.out)))
    clear hwr
    go_wp2
    go_loop [8] (fun t => ∃ k : Nat, k ≤ D.q i ∧ t = .int .i64 k ∧ Hid (∀ j, j < k → (decide ((i : Int) < D.T i j) && decide (D.T i j < D.n)) = true)) (fun t => D.q i - (intOf t).toNat)
    case atStart => exact ⟨0, Nat.zero_le _, rfl, fun j hj => absurd hj (Nat.not_lt_zero j)⟩
    case round =>
      obtain ⟨k, hk, rfl, hj⟩ := hrel
      by_cases hkq : k < D.q i
      · obtain ⟨b2, off2, rfl, hb2, hr2⟩ := HI.out.cells (by omega)
        have hcell2 := hr2 k hkq
        have HT : Hid ((decide ((i : Int) < D.T i k) && decide (D.T i k < D.n)) = false → rNode B.nv B.V B.ns D i = false) := fun hf => by rw [HGG.out]; exact allB_succ_false hkq hf
        have HTE : Hid ((decide ((i : Int) + 1 ≤ D.T i k) && decide (D.T i k ≤ (D.n : Int) - 1)) = (decide ((i : Int) < D.T i k) && decide (D.T i k < D.n))) := by unfold Hid; rw [Bool.eq_iff_iff]; simp; omega
        clear hr2
        cases hfb : (decide ((i : Int) < D.T i k) && decide (D.T i k < D.n)) with
        | true =>
          have HFB := Lib.hid hfb
          clear hfb
          go_wp2_with (go_at_call 66; refine (rwithin_eq _ _ _ _ _ (HTE.out.trans HFB.out)).mono ?_; rintro e w' ⟨rfl, rfl⟩)
          go_round
          case rel => exact ⟨k + 1, by omega, by go_num, lt_succ hj.out HFB.out⟩
          case measure => simp [intOf]; omega
        | false =>
          have HFB := Lib.hid hfb
          clear hfb
          go_wp2_with (go_at_call 66; refine (rwithin_eq _ _ _ _ _ (HTE.out.trans HFB.out)).mono ?_; rintro e w' ⟨rfl, rfl⟩)
          go_ret
          exact ⟨ret_bool (HT.out HFB.out).symm, below_drewN (fin HB.out HB1.out) _⟩
      · have Hk : Hid (k = D.q i) := by show k = _; omega
        go_wp2
        go_ret
        exact ⟨ret_bool (by rw [HGG.out, allB_true.2 (fun i hi => hj.out i (by rw [Hk.out]; exact hi))]), below_drewN (fin HB.out HB1.out) _⟩

end Go.Proofs.Ytbieglmpkljjjaa

namespace Go.Proofs.Ytbieglmpkljjjaa
open Go.RowKit

set_option maxHeartbeats 1600000 in
theorem areNodes_any (N : Nat) (v u : Value) (B : KB) (D : Nd) (most : Nat) (hmost : most ≤ 1000) (w : World) (h : BookAt N w v B) (hu : NodesAt N w u D) :
    Calls Try.prog 37 #[v, u, .int .i64 most] w fun e w' => e = .returned (.bool (okN B.nv B.V B.ns D most)) ∧ Below w.heap.size w w' := by
  have hlD := hu.len
  obtain ⟨au, cu, rfl, _, _⟩ := id hu
  have hN := h.1
  have h' := h
  obtain ⟨_, a1, z1, a2, z2, a3, z3, rfl, _⟩ := h'
  obtain ⟨ws, hws, HB, hsz, hblk⟩ := box1 w (.cells #[.slice a1 B.nv z1, .slice a2 B.ns z2, .slice a3 B.D.n z3] 26)
  have q0 := cell_blk hblk 0 rfl
  have q1 := cell_blk hblk 1 rfl
  have q2 := cell_blk hblk 2 rfl
  have HBK := Lib.hid (h.go HB.out)
  have HB0 : Hid (Below ws.heap.size ws ws) := Below.refl _ _
  have HNS : Hid (N ≤ ws.heap.size) := HBK.out.1
  have hlens := h.lens
  obtain ⟨hlv, hls, hln⟩ := hlens
  clear hblk h
  have HD := Lib.hid (hu.go hN HB.out)
  clear hu
  cases hwi : (decide ((1 : Int) ≤ (D.n : Int)) && decide ((D.n : Int) ≤ (most : Int))) with
  | false =>
    have HW := Lib.hid hwi
    have H : Hid (okN B.nv B.V B.ns D most = false) := by
      unfold Hid okN; rw [show (decide (1 ≤ D.n) && decide (D.n ≤ most)) = false by rw [← hwi, Bool.eq_iff_iff]; simp; omega]; rfl
    clear hwi
    go_enter Try.func37, Try.ntmps37
    go_wp2_with (go_at_call 66; refine (rwithin_eq _ _ _ _ _ HW.out).mono ?_; rintro e w' ⟨rfl, rfl⟩)
    go_ret
    exact ⟨ret_bool H.out.symm, HB.out⟩
  | true =>
    have HW := Lib.hid hwi
    have HA : Hid (okN B.nv B.V B.ns D most = allB D.n fun i => okNode B.nv B.V B.ns D i) := by
      unfold Hid okN; rw [show (decide (1 ≤ D.n) && decide (D.n ≤ most)) = true by rw [← hwi, Bool.eq_iff_iff]; simp; omega]; rfl
    clear hwi
    go_enter Try.func37, Try.ntmps37
    go_wp2_with (go_at_call 66; refine (rwithin_eq _ _ _ _ _ HW.out).mono ?_; rintro e wq ⟨rfl, hwq⟩; rw [hwq]; clear hwq wq)
    clear hws
    go_loopw [7] (fun i wr => ∃ k : Nat, k ≤ D.n ∧ i = .int .i64 k ∧ Hid (∀ j, j < k → okNode B.nv B.V B.ns D j = true) ∧ Hid (Below ws.heap.size ws wr)) (fun i _ => D.n - (intOf i).toNat)
    case atStart => exact ⟨0, Nat.zero_le _, rfl, fun j hj => absurd hj (Nat.not_lt_zero j), HB0⟩
    case round =>
      obtain ⟨k, hk, rfl, hj, HB1⟩ := hrel
      have c1 := (old_of HB1.out).1
      have hsz1 := Nat.lt_of_lt_of_le hsz HB1.out.size
      by_cases hkn : k < D.n
      · have HKN := Lib.hid hkn
        cases hfb : okNode B.nv B.V B.ns D k
        all_goals
          have HFB := Lib.hid hfb
          clear hfb
          go_wp2_with (go_at_call 89; refine (isNode_any N _ _ B D k _ (HBK.out.go HB1.out) (HD.out.go HNS.out HB1.out) HKN.out).mono ?_; rintro e w2 ⟨rfl, hb2⟩; rw [HFB.out]; (try clear c1); have HB2 := Lib.hid (bel HB1.out hb2); have c2 := (old_of HB2.out).1; clear hb2)
        · go_ret
          exact ⟨ret_bool (by rw [HA.out]; exact (allB_succ_false HKN.out HFB.out).symm), fin HB.out HB2.out⟩
        · go_roundw
          case rel => exact ⟨k + 1, by omega, by go_num, lt_succ hj.out HFB.out, HB2⟩
          case measure => simp [intOf]; omega
      · have Hk : Hid (k = D.n) := by show k = _; omega
        go_wp2
        go_ret
        exact ⟨ret_bool (by rw [HA.out, allB_true.2 (fun i hi => hj.out i (by rw [Hk.out]; exact hi))]), fin HB.out HB1.out⟩

theorem chk_no {B : KB} (h : okKB B = false) : chk B = 20 := by unfold chk; rw [h]; rfl
theorem chk_yes {B : KB} (h : okKB B = true) : chk B = 0 := by unfold chk; rw [h]; rfl
theorem no_V {B : KB} (h : okV B.nv B.V = false) : okKB B = false := by unfold okKB; rw [h]; rfl
theorem no_S {B : KB} (h : okS B = false) : okKB B = false := by unfold okKB; rw [h]; simp
theorem no_N {B : KB} (h : okN B.nv B.V B.ns B.D 20 = false) : okKB B = false := by unfold okKB; rw [h]; simp

set_option maxHeartbeats 3200000 in
theorem rCheck_any (N : Nat) (v : Value) (B : KB) (w : World) (h : BookAt N w v B) :
    Calls Try.prog 47 #[v] w fun e w' => e = .returned (.int .i64 (chk B)) ∧ Below w.heap.size w w' := by
  have h' := h
  obtain ⟨_, a1, z1, a2, z2, a3, z3, rfl, _⟩ := h'
  obtain ⟨ws, hws, HB, hsz, hblk⟩ := box1 w (.cells #[.slice a1 B.nv z1, .slice a2 B.ns z2, .slice a3 B.D.n z3] 26)
  have q0 := cell_blk hblk 0 rfl
  have q1 := cell_blk hblk 1 rfl
  have q2 := cell_blk hblk 2 rfl
  have HBK := Lib.hid (h.go HB.out)
  have HB0 : Hid (Below ws.heap.size ws ws) := Below.refl _ _
  have HNS : Hid (N ≤ ws.heap.size) := HBK.out.1
  have hlens := h.lens
  obtain ⟨hlv, hls, hln⟩ := hlens
  clear hblk h
  cases hwi : (decide ((1 : Int) ≤ (B.nv : Int)) && decide ((B.nv : Int) ≤ (5 : Int))) with
  | false =>
    have HW := Lib.hid hwi
    have H : Hid (chk B = 20) := chk_no (no_V (by
      unfold okV; rw [show (decide (1 ≤ B.nv) && decide (B.nv ≤ 5)) = false by rw [← hwi, Bool.eq_iff_iff]; simp; omega]; rfl))
    clear hwi
    go_enter Try.func47, Try.ntmps47
    go_wp2_with (go_at_call 66; refine (rwithin_eq _ _ _ _ _ HW.out).mono ?_; rintro e w' ⟨rfl, rfl⟩)
    go_ret
    exact ⟨ret_int H.out.symm, HB.out⟩
  | true =>
  have HW := Lib.hid hwi
  have hnv5 : B.nv ≤ 5 := by simp at hwi; omega
  have HV : Hid (okV B.nv B.V = allB B.nv fun i => decide (2 ≤ B.V i) && decide (B.V i ≤ 3)) := by
    unfold Hid okV; rw [show (decide (1 ≤ B.nv) && decide (B.nv ≤ 5)) = true by rw [← hwi, Bool.eq_iff_iff]; simp; omega]; rfl
  clear hwi
  by_cases h8 : B.ns ≤ 8
  case neg =>
    have h8' : (8 : Int) < B.ns := by omega
    have H : Hid (chk B = 20) := chk_no (no_S (by unfold okS; rw [decide_eq_false h8]; rfl))
    clear h8
    go_enter Try.func47, Try.ntmps47
    go_wp2_with (go_at_call 66; refine (rwithin_eq _ _ _ _ _ HW.out).mono ?_; rintro e w' ⟨rfl, rfl⟩)
    go_ret
    exact ⟨ret_int H.out.symm, HB.out⟩
  have h8' : (B.ns : Int) ≤ 8 := by omega
  have HS : Hid (okS B = allB B.ns fun i => okX B.nv B.V (B.L i) (B.X i)) := by unfold Hid okS; rw [decide_eq_true h8]; rfl
  have H8 := Lib.hid h8
  clear h8
  go_enter Try.func47, Try.ntmps47
  go_wp2_with (go_at_call 66; refine (rwithin_eq _ _ _ _ _ HW.out).mono ?_; rintro e wq ⟨rfl, hwq⟩; rw [hwq]; clear hwq wq)
  clear hws
  go_loop [3] (fun i => ∃ k : Nat, k ≤ B.nv ∧ i = .int .i64 k ∧ Hid (∀ j, j < k → (decide (2 ≤ B.V j) && decide (B.V j ≤ 3)) = true)) (fun i => B.nv - (intOf i).toNat)
  case atStart => exact ⟨0, Nat.zero_le _, rfl, fun j hj => absurd hj (Nat.not_lt_zero j)⟩
  case round =>
    obtain ⟨k, hk, rfl, hj⟩ := hrel
    by_cases hkn : k < B.nv
    · obtain ⟨b1, off1, rfl, hb1, hr1⟩ := HBK.out.vals.cells (by omega)
      have hcell1 := hr1 k hkn
      have HKN := Lib.hid hkn
      clear hr1
      cases hfb : (decide (2 ≤ B.V k) && decide (B.V k ≤ 3)) with
      | true =>
        have HFB := Lib.hid hfb
        clear hfb
        go_wp2_with (go_at_call 66; refine (rwithin_eq _ _ _ _ _ HFB.out).mono ?_; rintro e w' ⟨rfl, rfl⟩)
        go_round
        case rel => exact ⟨k + 1, by omega, by go_num, lt_succ hj.out HFB.out⟩
        case measure => simp [intOf]; omega
      | false =>
        have HFB := Lib.hid hfb
        clear hfb
        go_wp2_with (go_at_call 66; refine (rwithin_eq _ _ _ _ _ HFB.out).mono ?_; rintro e w' ⟨rfl, rfl⟩)
        go_ret
        exact ⟨ret_int (chk_no (no_V (by rw [HV.out]; exact allB_succ_false HKN.out HFB.out))).symm, HB.out⟩
    · have HVT : Hid (okV B.nv B.V = true) := by unfold Hid; rw [HV.out, allB_true]; exact fun i hi => hj.out i (by omega)
      have HVV : Hid (∀ i, i < B.nv → 2 ≤ B.V i ∧ B.V i ≤ 3) := fun i hi => by have := hj.out i (by omega); simpa using this
      go_wp2
      go_loopw [4] (fun i wr => ∃ k : Nat, k ≤ B.ns ∧ i = .int .i64 k ∧ Hid (∀ j, j < k → okX B.nv B.V (B.L j) (B.X j) = true) ∧ Hid (Below ws.heap.size ws wr)) (fun i _ => B.ns - (intOf i).toNat)
      case atStart => exact ⟨0, Nat.zero_le _, rfl, fun j hj => absurd hj (Nat.not_lt_zero j), HB0⟩
      case round =>
        obtain ⟨l, hl, rfl, hj2, HB1⟩ := hrel
        have c1 := (old_of HB1.out).1
        have hsz1 := Nat.lt_of_lt_of_le hsz HB1.out.size
        have HBr : Hid (Below wr.heap.size wr wr) := Below.refl _ _
        by_cases hln : l < B.ns
        · obtain ⟨b2, off2, rfl, hb2, hr2⟩ := (HBK.out.go HB1.out).sorts.cells (by omega)
          obtain ⟨ai, ci, hcell2, hints⟩ := hr2 l hln
          have HI := Lib.hid hints
          have HKN := Lib.hid hln
          have hbw : b2 < wr.heap.size := Nat.lt_of_lt_of_le hb2 (HBK.out.go HB1.out).1
          have HBk1 := Lib.hid (HBK.out.go HB1.out)
          have HN1 : Hid (N ≤ wr.heap.size) := HBk1.out.1
          clear hr2 hints
          cases hfb : okX B.nv B.V (B.L l) (B.X l)
          all_goals
            have HFB : Hid (rX B.nv B.V (B.L l) (B.X l) = _) := (rX_ok HVV.out).trans hfb
            have HFX := Lib.hid hfb
            clear hfb
            have Srd := old_of HBr.out.drew; have HBrd := Srd.2
            go_wp2
            go_region_held3 (fun w' => (∀ b o, b < wr.heap.size → w'.cell? ⟨b, o, none⟩ = wr.cell? ⟨b, o, none⟩) ∧ Hid (Below wr.heap.size wr w')) (assumption) (first
              | (go_at_call 16; refine (isFruit_any N _ _ B _ _ _ (HBk1.out.go HBrd.out) (HI.out.go HN1.out HBrd.out)).mono ?_; rintro e w2 ⟨rfl, hb2'⟩; rw [HFB.out]; have S2 := old_of (bel HBrd.out hb2'); have HB2 := S2.2; clear hb2'))
            have HB2 := S2.2
            have HB3 := Lib.hid (bel HB1.out HB2.out)
            have c3 := (old_of HB3.out).1
            clear S2 Srd c1
            go_wp2
          · go_ret
            exact ⟨ret_int (chk_no (no_S (by rw [HS.out]; exact allB_succ_false HKN.out HFX.out))).symm, fin HB.out HB3.out⟩
          · go_roundw
            case rel => exact ⟨l + 1, by omega, by go_num, lt_succ hj2.out HFX.out, HB3⟩
            case measure => simp [intOf]; omega
        · have HST : Hid (okS B = true) := by unfold Hid; rw [HS.out, allB_true]; exact fun i hi => hj2.out i (by omega)
          have HC : Hid (chk B = if okN B.nv B.V B.ns B.D 20 then 0 else 20) := by unfold Hid chk okKB; rw [HVT.out, HST.out]; rfl
          have HD := Lib.hid HBK.out.nodes
          cases hfb : okN B.nv B.V B.ns B.D 20
          all_goals
            have HFB := Lib.hid hfb
            clear hfb
            go_wp2_with (go_at_call 37; refine (areNodes_any N _ _ B B.D 20 (by decide) _ (HBK.out.go HB1.out) (HD.out.go HNS.out HB1.out)).mono ?_; rintro e w2 ⟨rfl, hb2⟩; rw [HFB.out]; (try clear c1); have HB2 := Lib.hid (bel HB1.out hb2); have c2 := (old_of HB2.out).1; clear hb2)
            go_ret
            exact ⟨ret_int (by rw [HC.out, HFB.out]; rfl), fin HB.out HB2.out⟩

/-- what ask says -/
def eAsk (B : KB) (is : Bool) : Int := if okKB B then (if is then 0 else 1) else 20

set_option maxHeartbeats 800000 in
theorem ask_any (N : Nat) (v : Value) (B : KB) (is : Bool) (w : World) (h : BookAt N w v B) :
    Calls Try.prog 94 #[v, .bool is] w fun e w' => e = .returned (.int .i64 (eAsk B is)) ∧ Below w.heap.size w w' := by
  have h' := h
  obtain ⟨_, a1, z1, a2, z2, a3, z3, rfl, _⟩ := h'
  obtain ⟨ws, hws, HB, hsz, hblk⟩ := box1 w (.cells #[.slice a1 B.nv z1, .slice a2 B.ns z2, .slice a3 B.D.n z3] 26)
  have q0 := cell_blk hblk 0 rfl
  have q1 := cell_blk hblk 1 rfl
  have q2 := cell_blk hblk 2 rfl
  have HBK := Lib.hid (h.go HB.out)
  have HB0 : Hid (Below ws.heap.size ws ws) := Below.refl _ _
  have HNS : Hid (N ≤ ws.heap.size) := HBK.out.1
  have hlens := h.lens
  obtain ⟨hlv, hls, hln⟩ := hlens
  clear hblk h
  cases hv : okKB B with
  | false =>
    have HC : Hid (chk B = 20) := chk_no hv
    have HR : Hid (eAsk B is = 20) := by unfold Hid eAsk; rw [hv]; rfl
    clear hv
    go_enter Try.func94, Try.ntmps94
    go_wp2_with (go_at_call 47; refine (rCheck_any N _ B _ (HBK.out.go HB0.out)).mono ?_; rintro e w1 ⟨rfl, hb1⟩; rw [HC.out]; (try clear c0); have HB1 := Lib.hid (bel HB0.out hb1); have c1 := (old_of HB1.out).1; clear hb1)
    go_ret
    exact ⟨ret_int HR.out.symm, fin HB.out HB1.out⟩
  | true =>
    have HC : Hid (chk B = 0) := chk_yes hv
    have HR : Hid (eAsk B is = if is then 0 else 1) := by unfold Hid eAsk; rw [hv]; rfl
    clear hv
    cases is
    all_goals
      go_enter Try.func94, Try.ntmps94
      go_wp2_with (go_at_call 47; refine (rCheck_any N _ B _ (HBK.out.go HB0.out)).mono ?_; rintro e w1 ⟨rfl, hb1⟩; rw [HC.out]; (try clear c0); have HB1 := Lib.hid (bel HB0.out hb1); have c1 := (old_of HB1.out).1; clear hb1)
      go_ret
      exact ⟨ret_int (by rw [HR.out]; rfl), fin HB.out HB1.out⟩

end Go.Proofs.Ytbieglmpkljjjaa

namespace Go.Proofs.Ytbieglmpkljjjaa
open Go.RowKit

def ints (l : List Nat) : List Int := l.map Int.ofNat
theorem ints_len (l : List Nat) : (ints l).length = l.length := by simp [ints]
theorem ints_snoc (l : List Nat) (k : Nat) : ints (l ++ [k]) = ints l ++ [(k : Int)] := by simp [ints]

theorem own_one (w : World) (n : Nat) : OwnI w.heap.size (w.alloc (.cells #[.int .i64 n] 3)) (.slice (some ⟨w.heap.size, 0, none⟩) 1 1) [(n : Int)] :=
  ⟨rfl, .inr ⟨_, 1, _, rfl, Nat.le_refl _, World.alloc_heap_new _ _, Nat.le_refl _, by decide, rfl, rfl⟩⟩

set_option maxHeartbeats 3200000 in
theorem walkOf_any (N : Nat) (v u : Value) (D : Nd) (nv : Nat) (V : Nat → Int) (ns n : Nat) (x : Nat → Int) (w : World) (hv : NodesAt N w v D) (hu : IntsAt N w u n x) (hN : N ≤ w.heap.size) (hD : GoodN nv V ns D) (hx : GoodX nv V n x) (h1000 : D.n ≤ 1000) :
    Calls Try.prog 23 #[v, u] w (GivesI w.heap.size w (ints (walk D x))) := by
  obtain ⟨i0, hi, hz0, hz1, hz2⟩ := info_parts Try.infoInt
  obtain ⟨_, cv, rfl, _, _⟩ := id hv
  obtain ⟨bn, on, rfl, hbn, hrn⟩ := hv.cells hD.n1
  obtain ⟨au, cu, rfl, _, _⟩ := id hu
  have HD := Lib.hid hD
  have HX := Lib.hid hx
  have HU := Lib.hid hu
  have HR := Lib.hid hrn
  have HW0 : Hid (walk D x = [] ++ wk D x 0) := walk_wk D x
  have H0 := Lib.hid (own_one w 0)
  have HB0 : Hid (Below w.heap.size w (w.alloc (.cells #[.int .i64 0] 3))) := below_alloc (Nat.le_refl _) _
  clear hD hx hu hv hrn
  go_enter Try.func23, Try.ntmps23
  go_wp2
  go_loopw [5, 6] (fun o i wr => ∃ k : Nat, ∃ pre : List Nat, i = .int .i64 k ∧ Hid (k < D.n ∧ walk D x = pre ++ wk D x k) ∧ Hid (OwnI w.heap.size wr o (ints pre ++ [(k : Int)])) ∧ Hid (Below w.heap.size w wr)) (fun _ i _ => D.n - (intOf i).toNat)
  case atStart => exact ⟨0, [], rfl, ⟨HD.out.n1, HW0.out⟩, H0, HB0⟩
  case round =>
    obtain ⟨k, pre, rfl, hk, ho, HB1⟩ := hrel
    obtain ⟨ai, ci, hm, hs, hn, hints⟩ := HR.out k hk.out.1
    have hkl : k < D.n := hk.out.1
    have hki : (k : Int) < (D.n : Int) := by omega
    have hbw : bn < w.heap.size := by omega
    have c1 := (old_of HB1.out).1
    have hszr := HB1.out.size
    by_cases hM : D.M k = -1
    · have hme : (D.M k != -1) = false := by simp [hM]
      have HE : Hid (ints pre ++ [(k : Int)] = ints (walk D x)) := by unfold Hid; rw [hk.out.2, wk_stop HD.out hkl hM]; simp [ints]
      clear hM
      go_wp2
      go_ret
      exact ⟨_, rfl, by rw [← HE.out]; exact ho.out, HB1.out⟩
    · have hme : (D.M k != -1) = true := by simp [hM]
      obtain ⟨g1, g2, g3, g4, g5⟩ := nxt_ok HD.out HX.out hkl hM
      have hlen : Hid (pre.length + (D.n - k) ≥ 0) := Nat.zero_le _
      obtain ⟨a1, a2, _⟩ := HD.out.ask k hkl hM
      obtain ⟨m, hmm⟩ : ∃ m : Nat, D.M k = m := ⟨(D.M k).toNat, by omega⟩
      rw [hmm] at hm hme g3 g4 g5 a2
      rw [Int.toNat_natCast] at g3 g4 g5
      have hmn : m < n := by have := HX.out.n; omega
      have hmi : (m : Int) < (n : Int) := by omega
      obtain ⟨bu, ou, rfl, hbu, hru⟩ := HU.out.cells (by omega)
      have hcu := hru m hmn
      obtain ⟨t, hxt⟩ : ∃ t : Nat, x m = t := ⟨(x m).toNat, (Int.toNat_of_nonneg g4).symm⟩
      rw [hxt] at hcu g3 g4 g5
      rw [Int.toNat_natCast] at g3 g5
      have hti : (t : Int) < (D.q k : Int) := by omega
      obtain ⟨bt, ot, rfl, hbt, hrt⟩ := hints.cells (by omega)
      have hct := hrt t g3
      rw [g5] at hct
      have hbuw : bu < w.heap.size := by omega
      have hbtw : bt < w.heap.size := by omega
      have HP : Hid (walk D x = (pre ++ [k]) ++ wk D x (nxt D x k)) := by unfold Hid; rw [hk.out.2, wk_go HD.out HX.out hkl hM, List.append_assoc]; rfl
      have HIS : Hid (ints (pre ++ [k]) = ints pre ++ [(k : Int)]) := ints_snoc _ _
      have hplen : (ints pre ++ [(k : Int)]).length ≤ 1000 := by
        have e1 : (walk D x).length ≤ D.n := walk_len HD.out HX.out
        rw [HP.out] at e1
        simp [ints] at e1 ⊢; omega
      have HPL := Lib.hid hplen
      have hown := ho.out
      have HNX := Lib.hid g1
      have HNX2 := Lib.hid g2
      clear hints hru hrt hM hmm hxt g5 g4 a1 a2 hplen
      generalize nxt D x k = y at *
      generalize hl : ints pre ++ [(k : Int)] = l at *
      have HL := Lib.hid hl
      clear hl
      go_wp2
      go_quiet (fail)
      have hown2 := own_below hown (below_drewN (Below.refl _ _) nq)
      have hplen := HPL.out
      go_wp2_with (at_builtin; refine wpList_append_own _ rfl _ _ 22 rfl w.heap.size 3 i0 (.int .i64 0) 1 8 Try.underlying22 hi hz0 hz1 hz2 rfl (by decide) _ _ _ rfl (hown2.alloc _) ⟨wr.heap.size, 0, none⟩ 1 1 [.int .i64 y] rfl rfl (cell_one_new _ _ _) (by simp [Value.oneCell']) (by unfold maxLen; omega) (by omega) (by simp; omega) ?_; intro v' w2 hown3 hgrow _)
      go_roundw
      case rel => exact ⟨y, pre ++ [k], rfl, ⟨HNX2.out, HP.out⟩, by unfold Hid; rw [HIS.out]; unfold OwnI; rw [List.length_append, List.map_append]; exact hown3, ((below_drewN HB1.out nq).alloc (by simp; omega) _).grown hgrow (by simp; omega) (fun j e => (hown2.lt j e).1)⟩
      case measure => simp [intOf]; have := HNX.out; omega

end Go.Proofs.Ytbieglmpkljjjaa

namespace Go.Proofs.Ytbieglmpkljjjaa
open Go.RowKit

theorem wk_last {nv : Nat} {V : Nat → Int} {ns : Nat} {D : Nd} {n : Nat} {x : Nat → Int} (hD : GoodN nv V ns D) (hx : GoodX nv V n x) : ∀ (f i : Nat), D.n - i ≤ f → i < D.n → ∃ pre k, wk D x i = pre ++ [k] ∧ k < D.n ∧ D.M k = -1 := by
  intro f
  induction f with
  | zero => intro i _ _; omega
  | succ f ih =>
    intro i hf hi
    by_cases hm : D.M i = -1
    · exact ⟨[], i, by rw [wk_stop hD hi hm]; rfl, hi, hm⟩
    · obtain ⟨h1, h2, _⟩ := nxt_ok hD hx hi hm
      obtain ⟨pre, k, e, hk, hkm⟩ := ih (nxt D x i) (by omega) h2
      exact ⟨i :: pre, k, by rw [wk_go hD hx hi hm, e]; rfl, hk, hkm⟩
theorem walk_last {nv : Nat} {V : Nat → Int} {ns : Nat} {D : Nd} {n : Nat} {x : Nat → Int} (hD : GoodN nv V ns D) (hx : GoodX nv V n x) : ∃ pre k, walk D x = pre ++ [k] ∧ k < D.n ∧ D.M k = -1 ∧ lastOf (walk D x) = k ∧ endOf D x = D.S k := by
  obtain ⟨pre, k, e, hk, hm⟩ := wk_last hD hx D.n 0 (by omega) hD.n1
  rw [← walk_wk] at e
  have : lastOf (walk D x) = k := by rw [e]; simp [lastOf]
  exact ⟨pre, k, e, hk, hm, this, by unfold endOf; rw [this]⟩
theorem ints_last (pre : List Nat) (k : Nat) : (ints (pre ++ [k])).getD pre.length 0 = (k : Int) := by simp [ints, List.getD]

set_option maxHeartbeats 1600000 in
theorem endOf_any (N : Nat) (v u : Value) (D : Nd) (nv : Nat) (V : Nat → Int) (ns n : Nat) (x : Nat → Int) (w : World) (hv : NodesAt N w v D) (hu : IntsAt N w u n x) (hN : N ≤ w.heap.size) (hD : GoodN nv V ns D) (hx : GoodX nv V n x) (h1000 : D.n ≤ 1000) :
    Calls Try.prog 25 #[v, u] w fun e w' => e = .returned (.int .i64 (endOf D x)) ∧ Below w.heap.size w w' := by
  obtain ⟨_, cv, rfl, _, _⟩ := id hv
  obtain ⟨bn, on, rfl, hbn, hrn⟩ := hv.cells hD.n1
  obtain ⟨pre, k, hwk, hk, hkm, hl, he⟩ := walk_last hD hx
  obtain ⟨ai, ci, hm, hs, hn, hints⟩ := hrn k hk
  have hlen : (walk D x).length = pre.length + 1 := by rw [hwk]; simp
  have hle := walk_len hD hx
  have HV := Lib.hid hv
  have HU := Lib.hid hu
  have HD := Lib.hid hD
  have HX := Lib.hid hx
  have HE := Lib.hid he
  have HLEN := Lib.hid hlen
  have HWK := Lib.hid hwk
  have hbw : bn < w.heap.size := by omega
  have hki : (k : Int) < (D.n : Int) := by omega
  have hpl : pre.length < 1000 := by omega
  clear hv hu hD hx hrn hints hl he hm hn hwk hlen hkm
  have hil : Hid ((ints (walk D x)).length = pre.length + 1) := by unfold Hid; rw [ints_len, HLEN.out]
  go_enter Try.func25, Try.ntmps25
  go_wp2_with (go_at_call 23; refine (walkOf_any N _ _ D nv V ns n x _ HV.out HU.out hN HD.out HX.out h1000).mono ?_; rintro e w1 ⟨v1, rfl, ho, hb1⟩; have HI := ho.ints (by rw [hil.out]; omega); rw [hil.out] at HI; obtain ⟨_, cw, rfl, _, _⟩ := id HI; obtain ⟨bw, ow, rfl, hbw1, hrw⟩ := HI.cells (by omega); have hlast := hrw pre.length (by omega); rw [HWK.out, ints_last] at hlast; have hs1 := (hb1.cell (p := ⟨bn, on + k * 3 + 1, none⟩) hbw).trans hs; have HB1 := Lib.hid hb1; clear hb1 ho HI hrw hs)
  go_ret
  exact ⟨ret_int HE.out.symm, HB1.out⟩

end Go.Proofs.Ytbieglmpkljjjaa

namespace Go.Proofs.Ytbieglmpkljjjaa
open Go.RowKit

def eWalk (B : KB) (n : Nat) (x : Nat → Int) : List Int × Int := if okKB B then (if okX B.nv B.V n x then (ints (walk B.D x), 0) else ([], 1)) else ([], 20)
def eEnd (B : KB) (n : Nat) (x : Nat → Int) : Int × Int := if okKB B then (if okX B.nv B.V n x then (endOf B.D x, 0) else (0, 1)) else (0, 20)
theorem okB_V {B : KB} (h : okKB B = true) : ∀ i, i < B.nv → 2 ≤ B.V i ∧ B.V i ≤ 3 := (goodB h).V

theorem own_nil (N : Nat) (w : World) : OwnI N w (.slice none 0 0) [] := World.ownsRow_nil _ _ _ _

set_option maxHeartbeats 1600000 in
theorem rWalk_any (N : Nat) (v u : Value) (B : KB) (n : Nat) (x : Nat → Int) (w : World) (h : BookAt N w v B) (hu : IntsAt N w u n x) :
    Calls Try.prog 48 #[v, u] w (GivesIE w.heap.size w (eWalk B n x).1 (eWalk B n x).2) := by
  obtain ⟨au, cu, rfl, _, _⟩ := id hu
  have hN := h.1
  have h' := h
  obtain ⟨_, a1, z1, a2, z2, a3, z3, rfl, _⟩ := h'
  obtain ⟨ws, hws, HB, hsz, hblk⟩ := box1 w (.cells #[.slice a1 B.nv z1, .slice a2 B.ns z2, .slice a3 B.D.n z3] 26)
  have q0 := cell_blk hblk 0 rfl
  have q1 := cell_blk hblk 1 rfl
  have q2 := cell_blk hblk 2 rfl
  have HBK := Lib.hid (h.go HB.out)
  have HB0 : Hid (Below ws.heap.size ws ws) := Below.refl _ _
  have HNS : Hid (N ≤ ws.heap.size) := HBK.out.1
  have hlens := h.lens
  obtain ⟨hlv, hls, hln⟩ := hlens
  clear hblk h
  have HX := Lib.hid (hu.go hN HB.out)
  clear hu
  have S0d := old_of HB0.out.drew; have HB0d := S0d.2
  cases hv : okKB B with
  | false =>
    have HA : Hid (∀ r, eAsk B r = 20) := fun r => by unfold eAsk; rw [hv]; rfl
    have HE : Hid (eWalk B n x = ([], 20)) := by unfold Hid eWalk; rw [hv]; rfl
    clear hv
    go_enter Try.func48, Try.ntmps48
    go_wp2
    clear hws
    go_region_held3 (fun w' => (∀ b o, b < ws.heap.size → w'.cell? ⟨b, o, none⟩ = ws.cell? ⟨b, o, none⟩) ∧ Hid (Below ws.heap.size ws w')) (assumption) (first
      | (go_at_call 16; refine (isFruit_any N _ _ B n x _ (HBK.out.go HB0d.out) (HX.out.go HNS.out HB0d.out)).mono ?_; rintro e w1 ⟨rfl, hb1⟩; have S1 := old_of (bel HB0d.out hb1); have HB1 := S1.2; clear hb1)
      | (go_at_call 94; refine (ask_any N _ B _ _ (HBK.out.go HB1.out)).mono ?_; rintro e w2 ⟨rfl, hb2⟩; rw [HA.out]; have S2 := old_of (bel HB1.out hb2); have HB2 := S2.2; clear hb2))
    have HB2 := S2.2; have c2 := S2.1; clear S2 S0d
    go_wp2
    go_ret2
    exact ⟨.slice none 0 0, by rw [HE.out]; rfl, by rw [HE.out]; exact own_nil _ _, fin HB.out HB2.out⟩
  | true =>
    have HVV : Hid (rX B.nv B.V n x = okX B.nv B.V n x) := rX_ok (okB_V hv)
    have HG := Lib.hid (goodB hv)
    cases hx : okX B.nv B.V n x with
    | false =>
      have HXX : Hid (rX B.nv B.V n x = false) := HVV.out.trans hx
      have HA : Hid (eAsk B false = 1) := by unfold Hid eAsk; rw [hv]; rfl
      have HE : Hid (eWalk B n x = ([], 1)) := by unfold Hid eWalk; rw [hv, hx]; rfl
      clear hv hx
      go_enter Try.func48, Try.ntmps48
      go_wp2
      clear hws
      go_region_held3 (fun w' => (∀ b o, b < ws.heap.size → w'.cell? ⟨b, o, none⟩ = ws.cell? ⟨b, o, none⟩) ∧ Hid (Below ws.heap.size ws w')) (assumption) (first
        | (go_at_call 16; refine (isFruit_any N _ _ B n x _ (HBK.out.go HB0d.out) (HX.out.go HNS.out HB0d.out)).mono ?_; rintro e w1 ⟨rfl, hb1⟩; rw [HXX.out]; have S1 := old_of (bel HB0d.out hb1); have HB1 := S1.2; clear hb1)
        | (go_at_call 94; refine (ask_any N _ B _ _ (HBK.out.go HB1.out)).mono ?_; rintro e w2 ⟨rfl, hb2⟩; rw [HA.out]; have S2 := old_of (bel HB1.out hb2); have HB2 := S2.2; clear hb2))
      have HB2 := S2.2; have c2 := S2.1; clear S2 S0d
      go_wp2
      go_ret2
      exact ⟨.slice none 0 0, by rw [HE.out]; rfl, by rw [HE.out]; exact own_nil _ _, fin HB.out HB2.out⟩
    | true =>
      have HXX : Hid (rX B.nv B.V n x = true) := HVV.out.trans hx
      have HA : Hid (eAsk B true = 0) := by unfold Hid eAsk; rw [hv]; rfl
      have HE : Hid (eWalk B n x = (ints (walk B.D x), 0)) := by unfold Hid eWalk; rw [hv, hx]; rfl
      have HGX := Lib.hid (goodX hx)
      have HND := Lib.hid HBK.out.nodes
      clear hv hx
      go_enter Try.func48, Try.ntmps48
      go_wp2
      clear hws
      go_region_held3 (fun w' => (∀ b o, b < ws.heap.size → w'.cell? ⟨b, o, none⟩ = ws.cell? ⟨b, o, none⟩) ∧ Hid (Below ws.heap.size ws w')) (assumption) (first
        | (go_at_call 16; refine (isFruit_any N _ _ B n x _ (HBK.out.go HB0d.out) (HX.out.go HNS.out HB0d.out)).mono ?_; rintro e w1 ⟨rfl, hb1⟩; rw [HXX.out]; have S1 := old_of (bel HB0d.out hb1); have HB1 := S1.2; clear hb1)
        | (go_at_call 94; refine (ask_any N _ B _ _ (HBK.out.go HB1.out)).mono ?_; rintro e w2 ⟨rfl, hb2⟩; rw [HA.out]; have S2 := old_of (bel HB1.out hb2); have HB2 := S2.2; clear hb2))
      have HB2 := S2.2; have c2 := S2.1; clear S2 S0d
      go_wp2_with (go_at_call 23; refine (walkOf_any N _ _ B.D B.nv B.V B.ns n x _ (HND.out.go HNS.out HB2.out) (HX.out.go HNS.out HB2.out) (Nat.le_trans HNS.out HB2.out.size) HG.out.D HGX.out (by have := HG.out.nn; omega)).mono ?_; rintro e w3 ⟨v3, rfl, ho, hb3⟩; have HO := Lib.hid ho; clear ho; (try clear c2); have HB3 := Lib.hid (bel HB2.out hb3); have c3 := (old_of HB3.out).1; clear hb3)
      go_ret2
      exact ⟨v3, by rw [HE.out]; rfl, by rw [HE.out]; exact own_mono HO.out (Nat.le_trans HB.out.size HB2.out.size), fin HB.out HB3.out⟩

set_option maxHeartbeats 1600000 in
theorem rEnd_any (N : Nat) (v u : Value) (B : KB) (n : Nat) (x : Nat → Int) (w : World) (h : BookAt N w v B) (hu : IntsAt N w u n x) :
    Calls Try.prog 49 #[v, u] w fun e w' => e = .returned (.tuple #[.int .i64 (eEnd B n x).1, .int .i64 (eEnd B n x).2]) ∧ Below w.heap.size w w' := by
  obtain ⟨au, cu, rfl, _, _⟩ := id hu
  have hN := h.1
  have h' := h
  obtain ⟨_, a1, z1, a2, z2, a3, z3, rfl, _⟩ := h'
  obtain ⟨ws, hws, HB, hsz, hblk⟩ := box1 w (.cells #[.slice a1 B.nv z1, .slice a2 B.ns z2, .slice a3 B.D.n z3] 26)
  have q0 := cell_blk hblk 0 rfl
  have q1 := cell_blk hblk 1 rfl
  have q2 := cell_blk hblk 2 rfl
  have HBK := Lib.hid (h.go HB.out)
  have HB0 : Hid (Below ws.heap.size ws ws) := Below.refl _ _
  have HNS : Hid (N ≤ ws.heap.size) := HBK.out.1
  have hlens := h.lens
  obtain ⟨hlv, hls, hln⟩ := hlens
  clear hblk h
  have HX := Lib.hid (hu.go hN HB.out)
  clear hu
  have S0d := old_of HB0.out.drew; have HB0d := S0d.2
  cases hv : okKB B with
  | false =>
    have HA : Hid (∀ r, eAsk B r = 20) := fun r => by unfold eAsk; rw [hv]; rfl
    have HE : Hid (eEnd B n x = (0, 20)) := by unfold Hid eEnd; rw [hv]; rfl
    clear hv
    go_enter Try.func49, Try.ntmps49
    go_wp2
    clear hws
    go_region_held3 (fun w' => (∀ b o, b < ws.heap.size → w'.cell? ⟨b, o, none⟩ = ws.cell? ⟨b, o, none⟩) ∧ Hid (Below ws.heap.size ws w')) (assumption) (first
      | (go_at_call 16; refine (isFruit_any N _ _ B n x _ (HBK.out.go HB0d.out) (HX.out.go HNS.out HB0d.out)).mono ?_; rintro e w1 ⟨rfl, hb1⟩; have S1 := old_of (bel HB0d.out hb1); have HB1 := S1.2; clear hb1)
      | (go_at_call 94; refine (ask_any N _ B _ _ (HBK.out.go HB1.out)).mono ?_; rintro e w2 ⟨rfl, hb2⟩; rw [HA.out]; have S2 := old_of (bel HB1.out hb2); have HB2 := S2.2; clear hb2))
    have HB2 := S2.2; have c2 := S2.1; clear S2 S0d
    go_wp2
    go_ret2
    exact ⟨by rw [HE.out]; rfl, fin HB.out HB2.out⟩
  | true =>
    have HVV : Hid (rX B.nv B.V n x = okX B.nv B.V n x) := rX_ok (okB_V hv)
    have HG := Lib.hid (goodB hv)
    cases hx : okX B.nv B.V n x with
    | false =>
      have HXX : Hid (rX B.nv B.V n x = false) := HVV.out.trans hx
      have HA : Hid (eAsk B false = 1) := by unfold Hid eAsk; rw [hv]; rfl
      have HE : Hid (eEnd B n x = (0, 1)) := by unfold Hid eEnd; rw [hv, hx]; rfl
      clear hv hx
      go_enter Try.func49, Try.ntmps49
      go_wp2
      clear hws
      go_region_held3 (fun w' => (∀ b o, b < ws.heap.size → w'.cell? ⟨b, o, none⟩ = ws.cell? ⟨b, o, none⟩) ∧ Hid (Below ws.heap.size ws w')) (assumption) (first
        | (go_at_call 16; refine (isFruit_any N _ _ B n x _ (HBK.out.go HB0d.out) (HX.out.go HNS.out HB0d.out)).mono ?_; rintro e w1 ⟨rfl, hb1⟩; rw [HXX.out]; have S1 := old_of (bel HB0d.out hb1); have HB1 := S1.2; clear hb1)
        | (go_at_call 94; refine (ask_any N _ B _ _ (HBK.out.go HB1.out)).mono ?_; rintro e w2 ⟨rfl, hb2⟩; rw [HA.out]; have S2 := old_of (bel HB1.out hb2); have HB2 := S2.2; clear hb2))
      have HB2 := S2.2; have c2 := S2.1; clear S2 S0d
      go_wp2
      go_ret2
      exact ⟨by rw [HE.out]; rfl, fin HB.out HB2.out⟩
    | true =>
      have HXX : Hid (rX B.nv B.V n x = true) := HVV.out.trans hx
      have HA : Hid (eAsk B true = 0) := by unfold Hid eAsk; rw [hv]; rfl
      have HE : Hid (eEnd B n x = (endOf B.D x, 0)) := by unfold Hid eEnd; rw [hv, hx]; rfl
      have HGX := Lib.hid (goodX hx)
      have HND := Lib.hid HBK.out.nodes
      clear hv hx
      go_enter Try.func49, Try.ntmps49
      go_wp2
      clear hws
      go_region_held3 (fun w' => (∀ b o, b < ws.heap.size → w'.cell? ⟨b, o, none⟩ = ws.cell? ⟨b, o, none⟩) ∧ Hid (Below ws.heap.size ws w')) (assumption) (first
        | (go_at_call 16; refine (isFruit_any N _ _ B n x _ (HBK.out.go HB0d.out) (HX.out.go HNS.out HB0d.out)).mono ?_; rintro e w1 ⟨rfl, hb1⟩; rw [HXX.out]; have S1 := old_of (bel HB0d.out hb1); have HB1 := S1.2; clear hb1)
        | (go_at_call 94; refine (ask_any N _ B _ _ (HBK.out.go HB1.out)).mono ?_; rintro e w2 ⟨rfl, hb2⟩; rw [HA.out]; have S2 := old_of (bel HB1.out hb2); have HB2 := S2.2; clear hb2))
      have HB2 := S2.2; have c2 := S2.1; clear S2 S0d
      go_wp2_with (go_at_call 25; refine (endOf_any N _ _ B.D B.nv B.V B.ns n x _ (HND.out.go HNS.out HB2.out) (HX.out.go HNS.out HB2.out) (Nat.le_trans HNS.out HB2.out.size) HG.out.D HGX.out (by have := HG.out.nn; omega)).mono ?_; rintro e w3 ⟨rfl, hb3⟩; (try clear c2); have HB3 := Lib.hid (bel HB2.out hb3); have c3 := (old_of HB3.out).1; clear hb3)
      go_ret2
      exact ⟨by rw [HE.out]; rfl, fin HB.out HB3.out⟩

end Go.Proofs.Ytbieglmpkljjjaa
