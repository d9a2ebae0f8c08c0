/-
  Valid: the checks of package keys.
-/
import Derived.Test.YtbieglmpkljjjaaBase
namespace Go.Proofs.Ytbieglmpkljjjaa
open Go.RowKit

set_option maxHeartbeats 800000 in
theorem validMarks_any (N : Nat) (v : Value) (n : Nat) (x : Nat → Int) (w : World) (h : IntsAt N w v n x) :
    Calls Try.prog 129 #[v] w fun e w' => e = .returned (.bool (okV n x)) ∧ w' = w := by
  obtain ⟨ao, cap, rfl, hn, hc⟩ := h
  by_cases h1 : 1 ≤ n
  case neg =>
    have h1' : (n : Int) < 1 := by omega
    have H : Hid (okV n x = false) := by unfold Hid okV; rw [decide_eq_false h1]; rfl
    clear h1
    go_enter Try.func129, Try.ntmps129
    go_wp2
    go_ret
    exact ⟨ret_bool H.out.symm, rfl⟩
  by_cases h5 : n ≤ 5
  case neg =>
    have h1' : (1 : Int) ≤ n := by omega
    have h5' : (5 : Int) < n := by omega
    have H : Hid (okV n x = false) := by unfold Hid okV; rw [decide_eq_false h5]; simp
    clear h1 h5
    go_enter Try.func129, Try.ntmps129
    go_wp2
    go_ret
    exact ⟨ret_bool H.out.symm, rfl⟩
  have h1' : (1 : Int) ≤ n := by omega
  have h5' : (n : Int) ≤ 5 := by omega
  have H1 := Lib.hid h1
  have H5 := Lib.hid h5
  clear h1 h5
  have HF : Hid (∀ k, k < n → (decide (2 ≤ x k) && decide (x k ≤ 3)) = false → okV n x = false) := fun k hk hf => by unfold okV; rw [allB_succ_false hk hf, Bool.and_false]
  go_enter Try.func129, Try.ntmps129
  go_wp2
  go_loop [15] (fun i => ∃ k : Nat, k ≤ n ∧ i = .int .i64 k ∧ Hid (∀ j, j < k → (decide (2 ≤ x j) && decide (x j ≤ 3)) = true)) (fun i => n - (intOf i).toNat)
  case atStart => exact ⟨0, Nat.zero_le _, rfl, fun j hj => absurd hj (Nat.not_lt_zero j)⟩
  case round =>
    obtain ⟨k, hk, rfl, hj⟩ := hrel
    by_cases hkn : k < n
    · obtain ⟨b, off, rfl, _, hr⟩ := hc (by omega)
      obtain ⟨r, hcell, rfl⟩ := hr k hkn
      clear hr hc
      by_cases g1 : 2 ≤ x k
      · by_cases g2 : x k ≤ 3
        · go_wp2
          go_round
          case rel => exact ⟨k + 1, by omega, by go_num, lt_succ hj.out (by simp [g1, g2])⟩
          case measure => simp [intOf]; omega
        · have g2' : 3 < x k := by omega
          go_wp2
          go_ret
          exact ⟨ret_bool (HF.out k hkn (by have q : ¬ x k ≤ 3 := (by omega); simp [q])).symm, rfl⟩
      · have g1' : x k < 2 := by omega
        go_wp2
        go_ret
        exact ⟨ret_bool (HF.out k hkn (by have q : ¬ 2 ≤ x k := (by omega); simp [q])).symm, rfl⟩
    · have Hk : Hid (k = n) := by show k = n; omega
      go_wp2
      go_ret
      exact ⟨ret_bool (by unfold okV; rw [allB_true.2 (fun i hi => hj.out i (by rw [Hk.out]; exact hi))]; simp [H1.out, H5.out]), rfl⟩

end Go.Proofs.Ytbieglmpkljjjaa

namespace Go.Proofs.Ytbieglmpkljjjaa
open Go.RowKit

set_option maxHeartbeats 800000 in
theorem validFruit_any (N : Nat) (v u : Value) (B : KB) (n : Nat) (x : Nat → Int) (w : World) (h : BookAt N w v B) (hu : IntsAt N w u n x) :
    Calls Try.prog 105 #[v, u] w fun e w' => e = .returned (.bool (okX B.nv B.V n x)) ∧ Below w.heap.size w w' := by
  have hn := hu.len
  obtain ⟨au, cu, rfl, _, _⟩ := id hu
  have hN := h.1
  have h' := h
  obtain ⟨_, a1, z1, a2, z2, a3, z3, rfl, _⟩ := h'
  obtain ⟨ws, hws, HB, hsz, hblk⟩ := box1 w (.cells #[.slice a1 B.nv z1, .slice a2 B.ns z2, .slice a3 B.D.n z3] 26)
  have q0 := cell_blk hblk 0 rfl
  have q1 := cell_blk hblk 1 rfl
  have q2 := cell_blk hblk 2 rfl
  have HBK := Lib.hid (h.go HB.out)
  have HB0 : Hid (Below ws.heap.size ws ws) := Below.refl _ _
  have HNS : Hid (N ≤ ws.heap.size) := HBK.out.1
  have hlens := h.lens
  obtain ⟨hlv, hls, hln⟩ := hlens
  clear hblk h
  have HX := Lib.hid (hu.go hN HB.out)
  clear hu
  by_cases hnv : n = B.nv
  case neg =>
    have hE : ((n : Int) != (B.nv : Int)) = true := by simp; omega
    have H : Hid (okX B.nv B.V n x = false) := by unfold Hid okX; rw [decide_eq_false hnv]; rfl
    clear hnv
    go_enter Try.func105, Try.ntmps105
    go_wp2
    go_ret
    exact ⟨ret_bool H.out.symm, HB.out⟩
  have hE : ((n : Int) != (B.nv : Int)) = false := by simp; omega
  have HE := Lib.hid hnv
  have HF : Hid (∀ k, k < n → (decide (0 ≤ x k) && decide (x k < B.V k)) = false → okX B.nv B.V n x = false) := fun k hk hf => by unfold okX; rw [allB_succ_false hk hf, Bool.and_false]
  clear hnv
  go_enter Try.func105, Try.ntmps105
  go_wp2
  clear hws
  go_loop [15] (fun i => ∃ k : Nat, k ≤ n ∧ i = .int .i64 k ∧ Hid (∀ j, j < k → (decide (0 ≤ x j) && decide (x j < B.V j)) = true)) (fun i => n - (intOf i).toNat)
  case atStart => exact ⟨0, Nat.zero_le _, rfl, fun j hj => absurd hj (Nat.not_lt_zero j)⟩
  case round =>
    obtain ⟨k, hk, rfl, hj⟩ := hrel
    by_cases hkn : k < n
    · obtain ⟨b, off, rfl, _, hr⟩ := HX.out.cells (by omega)
      have hcell := hr k hkn
      obtain ⟨b1, off1, rfl, hb1, hr1⟩ := HBK.out.vals.cells (by have := HE.out; omega)
      have hcell1 := hr1 k (by have := HE.out; omega)
      have hkv : (k : Int) < (B.nv : Int) := by have := HE.out; omega
      clear hr hr1
      cases hfb : (decide (0 ≤ x k) && decide (x k < B.V k)) with
      | true =>
        have HFB := Lib.hid hfb
        clear hfb
        go_wp2_with (go_at_call 73; refine (kwithin_eq _ _ _ _ HFB.out).mono ?_; rintro e w' ⟨rfl, rfl⟩)
        go_round
        case rel => exact ⟨k + 1, by omega, by go_num, lt_succ hj.out HFB.out⟩
        case measure => simp [intOf]; omega
      | false =>
        have HFB := Lib.hid hfb
        clear hfb
        go_wp2_with (go_at_call 73; refine (kwithin_eq _ _ _ _ HFB.out).mono ?_; rintro e w' ⟨rfl, rfl⟩)
        go_ret
        exact ⟨ret_bool (HF.out k hkn HFB.out).symm, HB.out⟩
    · have Hk : Hid (k = n) := by show k = n; omega
      go_wp2
      go_ret
      exact ⟨ret_bool (by unfold okX; rw [allB_true.2 (fun i hi => hj.out i (by rw [Hk.out]; exact hi))]; simp [HE.out]), HB.out⟩

end Go.Proofs.Ytbieglmpkljjjaa

namespace Go.Proofs.Ytbieglmpkljjjaa
open Go.RowKit

set_option maxHeartbeats 800000 in
theorem validSorts_any (N : Nat) (v : Value) (B : KB) (w : World) (h : BookAt N w v B) :
    Calls Try.prog 130 #[v] w fun e w' => e = .returned (.bool (okS B)) ∧ Below w.heap.size w w' := by
  have h' := h
  obtain ⟨_, a1, z1, a2, z2, a3, z3, rfl, _⟩ := h'
  obtain ⟨ws, hws, HB, hsz, hblk⟩ := box1 w (.cells #[.slice a1 B.nv z1, .slice a2 B.ns z2, .slice a3 B.D.n z3] 26)
  have q0 := cell_blk hblk 0 rfl
  have q1 := cell_blk hblk 1 rfl
  have q2 := cell_blk hblk 2 rfl
  have HBK := Lib.hid (h.go HB.out)
  have HB0 : Hid (Below ws.heap.size ws ws) := Below.refl _ _
  have HNS : Hid (N ≤ ws.heap.size) := HBK.out.1
  have hlens := h.lens
  obtain ⟨hlv, hls, hln⟩ := hlens
  clear hblk h
  by_cases h8 : B.ns ≤ 8
  case neg =>
    have h8' : (8 : Int) < B.ns := by omega
    have H : Hid (okS B = false) := by unfold Hid okS; rw [decide_eq_false h8]; rfl
    clear h8
    go_enter Try.func130, Try.ntmps130
    go_wp2
    go_ret
    exact ⟨ret_bool H.out.symm, HB.out⟩
  have h8' : (B.ns : Int) ≤ 8 := by omega
  have H8 := Lib.hid h8
  have HF : Hid (∀ k, k < B.ns → okX B.nv B.V (B.L k) (B.X k) = false → okS B = false) := fun k hk hf => by unfold okS; rw [allB_succ_false hk hf, Bool.and_false]
  clear h8
  go_enter Try.func130, Try.ntmps130
  go_wp2
  clear hws
  go_loopw [12] (fun i wr => ∃ k : Nat, k ≤ B.ns ∧ i = .int .i64 k ∧ Hid (∀ j, j < k → okX B.nv B.V (B.L j) (B.X j) = true) ∧ Hid (Below ws.heap.size ws wr)) (fun i _ => B.ns - (intOf i).toNat)
  case atStart => exact ⟨0, Nat.zero_le _, rfl, fun j hj => absurd hj (Nat.not_lt_zero j), HB0⟩
  case round =>
    obtain ⟨k, hk, rfl, hj, HB1⟩ := hrel
    have c1 := (old_of HB1.out).1
    have hsz1 := Nat.lt_of_lt_of_le hsz HB1.out.size
    by_cases hkn : k < B.ns
    · obtain ⟨b, off, rfl, _, hr⟩ := (HBK.out.go HB1.out).sorts.cells (by omega)
      obtain ⟨ai, ci, hcell, hints⟩ := hr k hkn
      have HI := Lib.hid hints
      clear hr hints
      cases hfb : okX B.nv B.V (B.L k) (B.X k) with
      | true =>
        have HFB := Lib.hid hfb
        clear hfb
        go_wp2_with (go_at_call 105; refine (validFruit_any N _ _ B _ _ _ (HBK.out.go HB1.out) HI.out).mono ?_; rintro e w2 ⟨rfl, hb2⟩; rw [HFB.out]; (try clear c1); have HB2 := Lib.hid (bel HB1.out hb2); have c2 := (old_of HB2.out).1; clear hb2)
        go_roundw
        case rel => exact ⟨k + 1, by omega, by go_num, lt_succ hj.out HFB.out, HB2⟩
        case measure => simp [intOf]; omega
      | false =>
        have HFB := Lib.hid hfb
        clear hfb
        go_wp2_with (go_at_call 105; refine (validFruit_any N _ _ B _ _ _ (HBK.out.go HB1.out) HI.out).mono ?_; rintro e w2 ⟨rfl, hb2⟩; rw [HFB.out]; (try clear c1); have HB2 := Lib.hid (bel HB1.out hb2); have c2 := (old_of HB2.out).1; clear hb2)
        go_ret
        exact ⟨ret_bool (HF.out k hkn HFB.out).symm, fin HB.out HB2.out⟩
    · have Hk : Hid (k = B.ns) := by show k = _; omega
      go_wp2
      go_ret
      exact ⟨ret_bool (by unfold okS; rw [allB_true.2 (fun i hi => hj.out i (by rw [Hk.out]; exact hi))]; simp [H8.out]), fin HB.out HB1.out⟩

theorem Hid.mk' {p : Prop} (h : p) : Hid p := h

set_option maxHeartbeats 1600000 in
theorem validQuestion_any (N : Nat) (v u : Value) (B : KB) (i : Nat) (w : World) (h : BookAt N w v B) (hu : IntsAt N w u (B.D.q i) (B.D.T i)) :
    Calls Try.prog 148 #[v, .int .i64 i, .agg #[.int .i64 (B.D.M i), .int .i64 (B.D.S i), u]] w fun e w' => e = .returned (.bool (okAsk B.nv B.V B.D i)) ∧ Below w.heap.size w w' := by
  have hn := hu.len
  obtain ⟨au, cu, rfl, _, _⟩ := id hu
  have h' := h
  obtain ⟨hN, a1, z1, a2, z2, a3, z3, rfl, _⟩ := h'
  obtain ⟨ws, hws, HB, hsz, hsz1, hblk, hblk1⟩ := box2 w (.cells #[.slice a1 B.nv z1, .slice a2 B.ns z2, .slice a3 B.D.n z3] 26) (.cells #[.int .i64 (B.D.M i), .int .i64 (B.D.S i), .slice au (B.D.q i) cu] 41)
  have q0 := cell_blk hblk 0 rfl
  have q1 := cell_blk hblk 1 rfl
  have q2 := cell_blk hblk 2 rfl
  have p0 := cell_blk hblk1 0 rfl
  have p1 := cell_blk hblk1 1 rfl
  have p2 := cell_blk hblk1 2 rfl
  have HBK := Lib.hid (h.go HB.out)
  have HX := Lib.hid (hu.go hN HB.out)
  obtain ⟨hlv, hls, hln⟩ := h.lens
  clear hblk hblk1 h hu
  generalize hM : B.D.M i = M at *
  generalize hS : B.D.S i = S at *
  generalize hQ : B.D.q i = q at *
  have HM := Lib.hid hM
  have HS := Lib.hid hS
  have HQ := Lib.hid hQ
  clear hM hS hQ
  cases hwi : (decide (0 ≤ M) && decide (M < (B.nv : Int))) with
  | false =>
    have HW := Lib.hid hwi
    have H : Hid (okAsk B.nv B.V B.D i = false) := by unfold Hid okAsk; rw [HM.out, hwi]; rfl
    clear hwi
    go_enter Try.func148, Try.ntmps148
    go_wp2
    clear hws
    go_quiet ((go_at_call 73; exact Calls.quiet_of_same (kwithin_eq _ _ _ _ HW.out)))
    go_wp2
    go_ret
    exact ⟨ret_bool H.out.symm, below_drewN HB.out _⟩
  | true =>
    have HW := Lib.hid hwi
    have hM0 : 0 ≤ M ∧ M < (B.nv : Int) := by simpa using hwi
    obtain ⟨m, rfl⟩ : ∃ m : Nat, M = m := ⟨M.toNat, by omega⟩
    have hmn : m < B.nv := by omega
    have hmi : (m : Int) < (B.nv : Int) := by omega
    obtain ⟨b1, off1, rfl, hb1, hr1⟩ := HBK.out.vals.cells (by omega)
    have hcell1 := hr1 m hmn
    clear hwi hM0 hr1
    by_cases hs : S = -1
    case neg =>
      have hse : (S != -1) = true := by simp [hs]
      have H : Hid (okAsk B.nv B.V B.D i = false) := by unfold Hid okAsk; rw [HS.out, decide_eq_false hs]; simp
      clear hs
      go_enter Try.func148, Try.ntmps148
      go_wp2
      clear hws
      go_quiet ((go_at_call 73; exact Calls.quiet_of_same (kwithin_eq _ _ _ _ HW.out)))
      go_wp2
      go_ret
      exact ⟨ret_bool H.out.symm, below_drewN HB.out _⟩
    have hse : (S != -1) = false := by simp [hs]
    have HSE := Lib.hid hs
    clear hs
    by_cases hq : (q : Int) = B.V m
    case neg =>
      have hqe : ((q : Int) != B.V m) = true := by simpa using hq
      have H : Hid (okAsk B.nv B.V B.D i = false) := by
        unfold Hid okAsk; rw [HM.out, HQ.out, Int.toNat_natCast, decide_eq_false hq]; simp
      clear hq
      go_enter Try.func148, Try.ntmps148
      go_wp2
      clear hws
      go_quiet ((go_at_call 73; exact Calls.quiet_of_same (kwithin_eq _ _ _ _ HW.out)))
      go_wp2
      go_ret
      exact ⟨ret_bool H.out.symm, below_drewN HB.out _⟩
    have hqe : ((q : Int) != B.V m) = false := by simpa using hq
    have HG : Hid (okAsk B.nv B.V B.D i = allB q fun j => decide ((i : Int) < B.D.T i j) && decide (B.D.T i j < B.D.n)) := by
      unfold Hid okAsk; rw [HM.out, HQ.out, HS.out, Int.toNat_natCast]
      simp [HSE.out, hmn, hq]
    clear hq
    go_enter Try.func148, Try.ntmps148
    go_wp2
    clear hws
    go_quiet ((go_at_call 73; exact Calls.quiet_of_same (kwithin_eq _ _ _ _ HW.out)))
    go_wp2
    have hlast : Hid (B.D.n ≤ 140737488351232) := hln
    go_loop [36] (fun t => ∃ k : Nat, k ≤ q ∧ t = .int .i64 k ∧ Hid (∀ j, j < k → (decide ((i : Int) < B.D.T i j) && decide (B.D.T i j < B.D.n)) = true)) (fun t => q - (intOf t).toNat)
    case atStart => exact ⟨0, Nat.zero_le _, rfl, fun j hj => absurd hj (Nat.not_lt_zero j)⟩
    case round =>
      obtain ⟨k, hk, rfl, hj⟩ := hrel
      by_cases hkq : k < q
      · obtain ⟨b2, off2, rfl, hb2, hr2⟩ := HX.out.cells (by omega)
        have hcell2 := hr2 k hkq
        have HT : Hid ((decide ((i : Int) < B.D.T i k) && decide (B.D.T i k < B.D.n)) = false → okAsk B.nv B.V B.D i = false) := fun hf => by rw [HG.out]; exact allB_succ_false hkq hf
        clear hr2
        by_cases g1 : (i : Int) < B.D.T i k
        · by_cases g2 : B.D.T i k < (B.D.n : Int)
          · go_wp2
            go_round
            case rel => exact ⟨k + 1, by omega, by go_num, lt_succ hj.out (by simp [g1, g2])⟩
            case measure => simp [intOf]; omega
          · have g2' : (B.D.n : Int) ≤ B.D.T i k := by omega
            go_wp2
            go_ret
            exact ⟨ret_bool (HT.out (by have q : ¬ B.D.T i k < (B.D.n : Int) := (by omega); simp [q])).symm, below_drewN HB.out _⟩
        · have g1' : B.D.T i k ≤ (i : Int) := by omega
          go_wp2
          go_ret
          exact ⟨ret_bool (HT.out (by have q : ¬ (i : Int) < B.D.T i k := (by omega); simp [q])).symm, below_drewN HB.out _⟩
      · have Hk : Hid (k = q) := by show k = _; omega
        go_wp2
        go_ret
        exact ⟨ret_bool (by rw [HG.out, allB_true.2 (fun i hi => hj.out i (by rw [Hk.out]; exact hi))]), below_drewN HB.out _⟩

set_option maxHeartbeats 1600000 in
theorem validEnd_any (N : Nat) (v u : Value) (B : KB) (i : Nat) (w : World) (h : BookAt N w v B) (hu : IntsAt N w u (B.D.q i) (B.D.T i)) :
    Calls Try.prog 149 #[v, .agg #[.int .i64 (B.D.M i), .int .i64 (B.D.S i), u]] w fun e w' => e = .returned (.bool (okEnd B.ns B.D i)) ∧ Below w.heap.size w w' := by
  have hn := hu.len
  obtain ⟨au, cu, rfl, _, _⟩ := id hu
  have h' := h
  obtain ⟨hN, a1, z1, a2, z2, a3, z3, rfl, _⟩ := h'
  obtain ⟨ws, hws, HB, hsz, hsz1, hblk, hblk1⟩ := box2 w (.cells #[.slice a1 B.nv z1, .slice a2 B.ns z2, .slice a3 B.D.n z3] 26) (.cells #[.int .i64 (B.D.M i), .int .i64 (B.D.S i), .slice au (B.D.q i) cu] 41)
  have q0 := cell_blk hblk 0 rfl
  have q1 := cell_blk hblk 1 rfl
  have q2 := cell_blk hblk 2 rfl
  have p0 := cell_blk hblk1 0 rfl
  have p1 := cell_blk hblk1 1 rfl
  have p2 := cell_blk hblk1 2 rfl
  obtain ⟨hlv, hls, hln⟩ := h.lens
  clear hblk hblk1 h hu
  cases hwi : (decide (0 ≤ B.D.S i) && decide (B.D.S i < (B.ns : Int)))
  all_goals
    have HW := Lib.hid hwi
    clear hwi
    cases hse : (B.D.S i == -1)
    all_goals
      have HS : Hid (decide (B.D.S i = -1) = _) := hse
      cases hme : (B.D.M i == -1)
      all_goals
        have HM : Hid (decide (B.D.M i = -1) = _) := hme
        cases hqe : ((B.D.q i : Int) == 0)
        all_goals
          have HQ : Hid (decide (B.D.q i = 0) = _) := (show decide (B.D.q i = 0) = decide ((B.D.q i : Int) = 0) by simp).trans hqe
          go_enter Try.func149, Try.ntmps149
          go_wp2_with (go_at_call 73; refine (kwithin_eq _ _ _ _ HW.out).mono ?_; rintro e w' ⟨rfl, rfl⟩)
          go_ret
          exact ⟨ret_bool (by unfold okEnd; rw [HW.out, HS.out, HM.out, HQ.out]; rfl), HB.out⟩

end Go.Proofs.Ytbieglmpkljjjaa

namespace Go.Proofs.Ytbieglmpkljjjaa
open Go.RowKit

set_option maxHeartbeats 1600000 in
theorem validNodes_any (N : Nat) (v : Value) (B : KB) (w : World) (h : BookAt N w v B) :
    Calls Try.prog 131 #[v] w fun e w' => e = .returned (.bool (okN B.nv B.V B.ns B.D 20)) ∧ Below w.heap.size w w' := by
  have h' := h
  obtain ⟨_, a1, z1, a2, z2, a3, z3, rfl, _⟩ := h'
  obtain ⟨ws, hws, HB, hsz, hblk⟩ := box1 w (.cells #[.slice a1 B.nv z1, .slice a2 B.ns z2, .slice a3 B.D.n z3] 26)
  have q0 := cell_blk hblk 0 rfl
  have q1 := cell_blk hblk 1 rfl
  have q2 := cell_blk hblk 2 rfl
  have HBK := Lib.hid (h.go HB.out)
  have HB0 : Hid (Below ws.heap.size ws ws) := Below.refl _ _
  have HNS : Hid (N ≤ ws.heap.size) := HBK.out.1
  have hlens := h.lens
  obtain ⟨hlv, hls, hln⟩ := hlens
  clear hblk h
  by_cases h1 : 1 ≤ B.D.n
  case neg =>
    have h1' : (B.D.n : Int) < 1 := by omega
    have H : Hid (okN B.nv B.V B.ns B.D 20 = false) := by unfold Hid okN; rw [decide_eq_false h1]; rfl
    clear h1
    go_enter Try.func131, Try.ntmps131
    go_wp2
    go_ret
    exact ⟨ret_bool H.out.symm, HB.out⟩
  have h1' : (1 : Int) ≤ B.D.n := by omega
  by_cases h20 : B.D.n ≤ 20
  case neg =>
    have h20' : (20 : Int) < B.D.n := by omega
    have H : Hid (okN B.nv B.V B.ns B.D 20 = false) := by unfold Hid okN; rw [decide_eq_false h20]; simp
    clear h20 h1
    go_enter Try.func131, Try.ntmps131
    go_wp2
    go_ret
    exact ⟨ret_bool H.out.symm, HB.out⟩
  have h20' : (B.D.n : Int) ≤ 20 := by omega
  have H1 := Lib.hid h1
  have H20 := Lib.hid h20
  have HF : Hid (∀ k, k < B.D.n → okNode B.nv B.V B.ns B.D k = false → okN B.nv B.V B.ns B.D 20 = false) := fun k hk hf => by unfold okN; rw [allB_succ_false hk hf, Bool.and_false]
  clear h1 h20
  go_enter Try.func131, Try.ntmps131
  go_wp2
  clear hws
  go_loopw [18] (fun i wr => ∃ k : Nat, k ≤ B.D.n ∧ i = .int .i64 k ∧ Hid (∀ j, j < k → okNode B.nv B.V B.ns B.D j = true) ∧ Hid (Below ws.heap.size ws wr)) (fun i _ => B.D.n - (intOf i).toNat)
  case atStart => exact ⟨0, Nat.zero_le _, rfl, fun j hj => absurd hj (Nat.not_lt_zero j), HB0⟩
  case round =>
    obtain ⟨k, hk, rfl, hj, HB1⟩ := hrel
    have c1 := (old_of HB1.out).1
    have hsz1 := Nat.lt_of_lt_of_le hsz HB1.out.size
    by_cases hkn : k < B.D.n
    · obtain ⟨b, off, rfl, hbN, hr⟩ := (HBK.out.go HB1.out).nodes.cells (by omega)
      obtain ⟨ai, ci, hm, hs, hn, hints⟩ := hr k hkn
      have HI := Lib.hid hints
      have hbw : b < wr.heap.size := Nat.lt_of_lt_of_le hbN (HBK.out.go HB1.out).1
      clear hr hints
      obtain ⟨wn, hwn, HBn, hszn, hblkn⟩ := box1 wr (.cells #[.int .i64 (B.D.M k), .int .i64 (B.D.S k), .slice ai (B.D.q k) ci] 41)
      have n0 := cell_blk hblkn 0 rfl
      have n1 := cell_blk hblkn 1 rfl
      have n2 := cell_blk hblkn 2 rfl
      have HB2 := Lib.hid (bel HB1.out HBn.out)
      have c2 := (old_of HB2.out).1
      have hsz2 := Nat.lt_of_lt_of_le hsz HB2.out.size
      have HI2 := Lib.hid (HI.out.go (Nat.le_trans HNS.out HB1.out.size) HBn.out)
      clear hblkn
      cases hfa : okAsk B.nv B.V B.D k with
      | true =>
        have HFA := Lib.hid hfa
        have HOK : Hid (okNode B.nv B.V B.ns B.D k = true) := by unfold Hid okNode; rw [hfa]; rfl
        clear hfa
        go_wp2_with (go_at_call 148; refine (validQuestion_any N _ _ B k _ (HBK.out.go HB2.out) HI2.out).mono ?_; rintro e w3 ⟨rfl, hb3⟩; rw [HFA.out]; (try clear c2); have HB3 := Lib.hid (bel HB2.out hb3); have c3 := (old_of HB3.out).1; clear hb3)
        go_roundw
        case rel => exact ⟨k + 1, by omega, by go_num, lt_succ hj.out HOK.out, HB3⟩
        case measure => simp [intOf]; omega
      | false =>
        have HFA := Lib.hid hfa
        have HI3 : Hid (∀ wk, Below wn.heap.size wn wk → IntsAt N wk (.slice ai (B.D.q k) ci) (B.D.q k) (B.D.T k)) := fun wk hk => HI2.out.go (Nat.le_trans HNS.out HB2.out.size) hk
        have hsn : wr.heap.size < wn.heap.size := hszn
        cases hfe : okEnd B.ns B.D k with
        | true =>
          have HFE := Lib.hid hfe
          have HOK : Hid (okNode B.nv B.V B.ns B.D k = true) := by unfold Hid okNode; rw [hfe, Bool.or_true]
          clear hfa hfe
          go_wp2_with (first
            | (go_at_call 148; refine (validQuestion_any N _ _ B k _ (HBK.out.go HB2.out) HI2.out).mono ?_; rintro e w3 ⟨rfl, hb3⟩; rw [HFA.out]; have n0 := (old_of hb3).1; have HBn3 := Lib.hid hb3; have HB3 := Lib.hid (bel HB2.out hb3); clear hb3)
            | (go_at_call 149; refine (validEnd_any N _ _ B k _ (HBK.out.go HB3.out) (HI3.out _ HBn3.out)).mono ?_; rintro e w4 ⟨rfl, hb4⟩; rw [HFE.out]; (try clear c3); have HB4 := Lib.hid (bel HB3.out hb4); have c4 := (old_of HB4.out).1; clear hb4))
          go_roundw
          case rel => exact ⟨k + 1, by omega, by go_num, lt_succ hj.out HOK.out, HB4⟩
          case measure => simp [intOf]; omega
        | false =>
          have HFE := Lib.hid hfe
          have HOK : Hid (okNode B.nv B.V B.ns B.D k = false) := by unfold Hid okNode; rw [hfe, hfa]; rfl
          clear hfa hfe
          go_wp2_with (first
            | (go_at_call 148; refine (validQuestion_any N _ _ B k _ (HBK.out.go HB2.out) HI2.out).mono ?_; rintro e w3 ⟨rfl, hb3⟩; rw [HFA.out]; have n0 := (old_of hb3).1; have HBn3 := Lib.hid hb3; have HB3 := Lib.hid (bel HB2.out hb3); clear hb3)
            | (go_at_call 149; refine (validEnd_any N _ _ B k _ (HBK.out.go HB3.out) (HI3.out _ HBn3.out)).mono ?_; rintro e w4 ⟨rfl, hb4⟩; rw [HFE.out]; (try clear c3); have HB4 := Lib.hid (bel HB3.out hb4); have c4 := (old_of HB4.out).1; clear hb4))
          go_ret
          exact ⟨ret_bool (HF.out k hkn HOK.out).symm, fin HB.out HB4.out⟩
    · have Hk : Hid (k = B.D.n) := by show k = _; omega
      go_wp2
      go_ret
      exact ⟨ret_bool (by unfold okN; rw [allB_true.2 (fun i hi => hj.out i (by rw [Hk.out]; exact hi))]; simp [H1.out, H20.out]), fin HB.out HB1.out⟩

set_option maxHeartbeats 800000 in
theorem validBook_any (N : Nat) (v : Value) (B : KB) (w : World) (h : BookAt N w v B) :
    Calls Try.prog 93 #[v] w fun e w' => e = .returned (.bool (okKB B)) ∧ Below w.heap.size w w' := by
  have h' := h
  obtain ⟨_, a1, z1, a2, z2, a3, z3, rfl, _⟩ := h'
  obtain ⟨ws, hws, HB, hsz, hblk⟩ := box1 w (.cells #[.slice a1 B.nv z1, .slice a2 B.ns z2, .slice a3 B.D.n z3] 26)
  have q0 := cell_blk hblk 0 rfl
  have q1 := cell_blk hblk 1 rfl
  have q2 := cell_blk hblk 2 rfl
  have HBK := Lib.hid (h.go HB.out)
  have HB0 : Hid (Below ws.heap.size ws ws) := Below.refl _ _
  have HNS : Hid (N ≤ ws.heap.size) := HBK.out.1
  have hlens := h.lens
  obtain ⟨hlv, hls, hln⟩ := hlens
  clear hblk h
  have HV := Lib.hid HBK.out.vals
  cases hv : okV B.nv B.V
  all_goals
    have H1 := Lib.hid hv
    clear hv
    cases hs : okS B
    all_goals
      have H2 := Lib.hid hs
      clear hs
      go_enter Try.func93, Try.ntmps93
      go_wp2_with (first
        | (go_at_call 129; refine (validMarks_any N _ _ _ _ HV.out).mono ?_; rintro e w' ⟨rfl, rfl⟩; rw [H1.out])
        | (go_at_call 130; refine (validSorts_any N _ B _ (HBK.out.go HB0.out)).mono ?_; rintro e w1 ⟨rfl, hb1⟩; rw [H2.out]; (try clear c0); have HB1 := Lib.hid (bel HB0.out hb1); have c1 := (old_of HB1.out).1; clear hb1)
        | (go_at_call 131; refine (validNodes_any N _ B _ (HBK.out.go HB1.out)).mono ?_; rintro e w2 ⟨rfl, hb2⟩; (try clear c1); have HB2 := Lib.hid (bel HB1.out hb2); have c2 := (old_of HB2.out).1; clear hb2))
      go_ret
      exact ⟨ret_bool (by unfold okKB; rw [H1.out, H2.out]; rfl), by first | exact fin HB.out HB2.out | exact fin HB.out HB1.out | exact HB.out⟩

/-- what Check says -/
def chk (B : KB) : Int := if okKB B then 0 else 20

set_option maxHeartbeats 800000 in
theorem kCheck_any (N : Nat) (v : Value) (B : KB) (w : World) (h : BookAt N w v B) :
    Calls Try.prog 46 #[v] w fun e w' => e = .returned (.int .i64 (chk B)) ∧ Below w.heap.size w w' := by
  have h' := h
  obtain ⟨_, a1, z1, a2, z2, a3, z3, rfl, _⟩ := h'
  obtain ⟨ws, hws, HB, hsz, hblk⟩ := box1 w (.cells #[.slice a1 B.nv z1, .slice a2 B.ns z2, .slice a3 B.D.n z3] 26)
  have q0 := cell_blk hblk 0 rfl
  have q1 := cell_blk hblk 1 rfl
  have q2 := cell_blk hblk 2 rfl
  have HBK := Lib.hid (h.go HB.out)
  have HB0 : Hid (Below ws.heap.size ws ws) := Below.refl _ _
  have HNS : Hid (N ≤ ws.heap.size) := HBK.out.1
  have hlens := h.lens
  obtain ⟨hlv, hls, hln⟩ := hlens
  clear hblk h
  cases hv : okKB B
  all_goals
    have H1 := Lib.hid hv
    clear hv
    go_enter Try.func46, Try.ntmps46
    go_wp2_with (go_at_call 93; refine (validBook_any N _ B _ (HBK.out.go HB0.out)).mono ?_; rintro e w1 ⟨rfl, hb1⟩; rw [H1.out]; (try clear c0); have HB1 := Lib.hid (bel HB0.out hb1); have c1 := (old_of HB1.out).1; clear hb1)
    go_ret
    exact ⟨ret_int (by unfold chk; rw [H1.out]; rfl), fin HB.out HB1.out⟩

/-- what checkFruit says -/
def chkX (B : KB) (n : Nat) (x : Nat → Int) : Int := if okKB B then (if okX B.nv B.V n x then 0 else 1) else 20

set_option maxHeartbeats 800000 in
theorem checkFruit_any (N : Nat) (v u : Value) (B : KB) (n : Nat) (x : Nat → Int) (w : World) (h : BookAt N w v B) (hu : IntsAt N w u n x) :
    Calls Try.prog 68 #[v, u] w fun e w' => e = .returned (.int .i64 (chkX B n x)) ∧ Below w.heap.size w w' := by
  obtain ⟨au, cu, rfl, _, _⟩ := id hu
  have hN := h.1
  have h' := h
  obtain ⟨_, a1, z1, a2, z2, a3, z3, rfl, _⟩ := h'
  obtain ⟨ws, hws, HB, hsz, hblk⟩ := box1 w (.cells #[.slice a1 B.nv z1, .slice a2 B.ns z2, .slice a3 B.D.n z3] 26)
  have q0 := cell_blk hblk 0 rfl
  have q1 := cell_blk hblk 1 rfl
  have q2 := cell_blk hblk 2 rfl
  have HBK := Lib.hid (h.go HB.out)
  have HB0 : Hid (Below ws.heap.size ws ws) := Below.refl _ _
  have HNS : Hid (N ≤ ws.heap.size) := HBK.out.1
  have hlens := h.lens
  obtain ⟨hlv, hls, hln⟩ := hlens
  clear hblk h
  have HX := Lib.hid (hu.go hN HB.out)
  clear hu
  cases hv : okKB B with
  | false =>
    have HC : Hid (chk B = 20) := by unfold Hid chk; rw [hv]; rfl
    have HR : Hid (chkX B n x = 20) := by unfold Hid chkX; rw [hv]; rfl
    clear hv
    go_enter Try.func68, Try.ntmps68
    go_wp2_with (go_at_call 46; refine (kCheck_any N _ B _ (HBK.out.go HB0.out)).mono ?_; rintro e w1 ⟨rfl, hb1⟩; rw [HC.out]; (try clear c0); have HB1 := Lib.hid (bel HB0.out hb1); have c1 := (old_of HB1.out).1; clear hb1)
    go_ret
    exact ⟨ret_int HR.out.symm, fin HB.out HB1.out⟩
  | true =>
    have HC : Hid (chk B = 0) := by unfold Hid chk; rw [hv]; rfl
    have HR : Hid (chkX B n x = if okX B.nv B.V n x then 0 else 1) := by unfold Hid chkX; rw [hv]; rfl
    clear hv
    cases hx : okX B.nv B.V n x
    all_goals
      have H1 := Lib.hid hx
      clear hx
      go_enter Try.func68, Try.ntmps68
      go_wp2_with (first
        | (go_at_call 46; refine (kCheck_any N _ B _ (HBK.out.go HB0.out)).mono ?_; rintro e w1 ⟨rfl, hb1⟩; rw [HC.out]; (try clear c0); have HB1 := Lib.hid (bel HB0.out hb1); have c1 := (old_of HB1.out).1; clear hb1)
        | (go_at_call 105; refine (validFruit_any N _ _ B n x _ (HBK.out.go HB1.out) (HX.out.go HNS.out HB1.out)).mono ?_; rintro e w2 ⟨rfl, hb2⟩; rw [H1.out]; (try clear c1); have HB2 := Lib.hid (bel HB1.out hb2); have c2 := (old_of HB2.out).1; clear hb2))
      go_ret
      exact ⟨ret_int (by rw [HR.out, H1.out]; rfl), fin HB.out HB2.out⟩

end Go.Proofs.Ytbieglmpkljjjaa
