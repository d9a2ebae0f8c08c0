import Derived.Test.YtmmadlpkolcgkaaRef2
namespace Go.Proofs.Ytmmadlpkolcgkaa
open Go.RowKit

set_option maxHeartbeats 2000000 in
theorem areFruits_any (N : Nat) (v u : Value) (B : Bk) (R : Fr) (w : World) (h : BookAt N w v B) (hf : FruitsAt N w u R) (hV : ∀ i, i < B.nv → 1 ≤ B.V i ∧ B.V i ≤ 5) :
    Calls Try.prog 65 #[v, u] w fun e w' => e = .returned (.bool (okFruits B R)) ∧ Below w.heap.size w w' := by
  obtain ⟨hN, a1, c1, a2, c2, a3, c3, rfl, h1, h2, h3⟩ := h
  have hnv := h1.len
  have H1 : Hid _ := Lib.hid h1
  have HV : Hid _ := Lib.hid hV
  obtain ⟨af, cf, rfl, hnf, hcf⟩ := hf
  have HF : Hid _ := Lib.hid hcf
  clear h1 h2 h3 hcf hV
  go_enter Try.func65, Try.ntmps65
  go_wp2
  go_loopw [5] (fun i wr => ∃ k : Nat, k ≤ R.n ∧ i = .int .i64 k ∧ Hid (∀ j, j < k → okFruit B R j = true) ∧ Hid (Drawn (w.alloc (.cells #[.slice a1 B.nv c1, .slice a2 B.nf c2, .slice a3 B.ns c3, .int .i64 B.wr] 25)) wr)) (fun i _ => R.n - (intOf i).toNat)
  case atStart => exact ⟨0, Nat.zero_le _, rfl, fun j hj => absurd hj (Nat.not_lt_zero j), Drawn.refl _⟩
  case round =>
    obtain ⟨k, hk, rfl, hj, hq⟩ := hrel
    have ch := hq.out.below (w.heap.size + 1)
    have q0 := box_cell ch 0 rfl
    have HWw : Hid (Below w.heap.size w wr) := Lib.hid (below_of ch)
    clear ch
    by_cases hkn : k < R.n
    · obtain ⟨b3, off3, rfl, hb3, hr3⟩ := HF.out (by omega)
      obtain ⟨r3, hcell3, ao, cap, rfl, hL, hcr⟩ := hr3 k hkn
      replace hcell3 := (HWw.out.cell (p := ⟨b3, off3 + k, none⟩) (by show b3 < _; omega)).trans hcell3
      have HCR : Hid _ := Lib.hid hcr
      clear hr3 hcr
      by_cases hc : R.L k = B.nv
      case neg =>
        have hE : ((R.L k : Int) != (B.nv : Int)) = true := by simp; omega
        have G : Hid (okFruits B R = false) := by unfold Hid okFruits; rw [allB_succ_false (k := k) hkn (by unfold okFruit; simp [hc]), Bool.and_false]
        clear hc
        go_wp2
        go_quiet (fail)
        go_wp2
        go_ret
        exact ⟨ret_bool G.out.symm, below_drewN HWw.out _⟩
      have hE : ((R.L k : Int) != (B.nv : Int)) = false := by simp; omega
      have HC : Hid (R.L k = B.nv) := hc
      clear hc
      go_wp2
      go_quiet (fail)
      go_wp2
      obtain ⟨wp, HWP⟩ : ∃ wp : World, Hid (wp = wr.drewN nq) := ⟨_, rfl⟩
      have Hj2 : Hid (∀ j, j < k → okFruit B R j = true) := hj
      have HQ2 : Hid (Drawn (w.alloc (.cells #[.slice a1 B.nv c1, .slice a2 B.nf c2, .slice a3 B.ns c3, .int .i64 B.wr] 25)) wr) := hq
      obtain ⟨wo, rfl⟩ : ∃ wo : World, wo = wr := ⟨_, rfl⟩
      clear hj hq
      go_loopw [6] (fun i wr => ∃ m : Nat, m ≤ R.L k ∧ i = .int .i64 m ∧ Hid (∀ j, j < m → (decide (R.X k j = -1) || (decide (0 ≤ R.X k j) && decide (R.X k j < B.V j))) = true) ∧ Hid (Drawn wo wr)) (fun i _ => R.L k - (intOf i).toNat)
      case atStart => exact ⟨0, Nat.zero_le _, rfl, fun j hj => absurd hj (Nat.not_lt_zero j), (Drawn.refl _).more _⟩
      case round =>
        obtain ⟨m, hm, rfl, hj, hq⟩ := hrel
        replace hcell3 := hq.out.cell hcell3
        replace q0 := hq.out.cell q0
        have HW2 : Hid (Below w.heap.size w wr) := HWw.out.trans (hq.out.below _)
        by_cases hmn : m < R.L k
        · obtain ⟨b4, off4, rfl, hb4, hr4⟩ := HCR.out (by omega)
          obtain ⟨r4, hcell4, rfl⟩ := hr4 m hmn
          replace hcell4 := (HW2.out.cell (p := ⟨b4, off4 + m, none⟩) (by show b4 < _; omega)).trans hcell4
          obtain ⟨_, _, e1, _, hc1⟩ := H1.out.mono (HW2.out.mono hN) (Nat.le_refl _)
          cases e1
          obtain ⟨b1, off1, rfl, hb1, hr1⟩ := hc1 (by have := HC.out; omega)
          obtain ⟨r1, hcell1, rfl⟩ := hr1 m (by have := HC.out; omega)
          have hmv : (m : Int) < (B.nv : Int) := by have := HC.out; omega
          have hV1 := (HV.out m (by omega)).1
          have hV2 := (HV.out m (by omega)).2
          have e1 : IntKind.i64.wrap (B.V m - 1) = B.V m - 1 := IntWalk.i64_in _ (by omega)
          have heq : (decide (-1 ≤ R.X k m) && decide (R.X k m ≤ B.V m - 1)) = (decide (R.X k m = -1) || (decide (0 ≤ R.X k m) && decide (R.X k m < B.V m))) := by
            rw [Bool.eq_iff_iff]; simp; omega
          have HEQ : Hid _ := Lib.hid heq
          clear heq hr4 hc1 hr1
          cases hok : (decide (-1 ≤ R.X k m) && decide (R.X k m ≤ B.V m - 1)) with
          | true =>
            have HOK : Hid _ := Lib.hid hok
            clear hok
            go_wp2
            go_quiet ((go_at_call 86; exact Calls.quiet_of_same (within_eq _ _ _ _ _ HOK.out)))
            clear e1
            go_wp2
            go_roundw
            case rel => exact ⟨m + 1, by omega, by go_num, lt_succ hj.out (by rw [← HEQ.out, HOK.out]), hq.out.more _⟩
            case measure => simp [intOf]; omega
          | false =>
            have HOK : Hid _ := Lib.hid hok
            have G : Hid (okFruits B R = false) := by
              unfold Hid okFruits; rw [allB_succ_false (k := k) hkn (by unfold okFruit; rw [allB_succ_false hmn (by rw [← HEQ.out, HOK.out]), Bool.and_false]), Bool.and_false]
            clear hok
            go_wp2
            go_quiet ((go_at_call 86; exact Calls.quiet_of_same (within_eq _ _ _ _ _ HOK.out)))
            go_wp2
            go_ret
            exact ⟨ret_bool G.out.symm, below_drewN HW2.out _⟩
        · have Hm : Hid (m = R.L k) := by show m = _; omega
          go_wp2
          go_roundw
          case rel => exact ⟨k + 1, by omega, by go_num, lt_succ Hj2.out (by unfold okFruit; rw [allB_true.2 (fun i hi => hj.out i (by rw [Hm.out]; exact hi))]; simp [HC.out]), by obtain ⟨q, rfl⟩ := hq.out; exact HQ2.out.more q⟩
          case measure => simp [intOf]; omega
    · have G : Hid (decide (R.n ≤ 5) = okFruits B R) := by
        unfold Hid okFruits; rw [allB_true.2 (fun i hi => hj.out i (by omega)), Bool.and_true]
      go_wp2
      go_ret
      exact ⟨ret_bool (by rw [← G.out, Bool.eq_iff_iff]; simp only [decide_eq_true_eq]; omega), HWw.out⟩

theorem okMarks_V {B : Bk} (h : okMarks B = true) : ∀ i, i < B.nv → 1 ≤ B.V i ∧ B.V i ≤ 5 := fun i hi => by
  have hV := allB_true.1 (Bool.and_eq_true_iff.1 h).2 i hi
  simp only [Bool.and_eq_true, decide_eq_true_eq] at hV
  exact hV.1
theorem okBook_marks {B : Bk} (h : okBook B = true) : okMarks B = true := by
  simp only [okBook, Bool.and_eq_true] at h; exact h.1.1.1

set_option maxHeartbeats 800000 in
theorem rCheck_any (N : Nat) (v u : Value) (B : Bk) (R : Fr) (w : World) (h : BookAt N w v B) (hf : FruitsAt N w u R) :
    Calls Try.prog 19 #[v, u] w fun e w' => e = .returned (.int .i64 (chk B R)) ∧ Below w.heap.size w w' := by
  have H : Hid (BookAt N w v B) := h
  have HF : Hid (FruitsAt N w u R) := hf
  obtain ⟨hN, a1, c1, a2, c2, a3, c3, rfl, h1, h2, h3⟩ := h
  clear h1 h2 h3 hf
  cases hm : okBook B with
  | true =>
    have HM : Hid (okBook B = true) := Lib.hid hm
    have HC : Hid (chkB B = 0) := by unfold Hid; simp [chkB, hm]
    clear hm
    cases hs : okFruits B R with
    | true =>
      have HS : Hid (okFruits B R = true) := Lib.hid hs
      clear hs
      go_enter Try.func19, Try.ntmps19
      go_wp2_with (first
        | (go_at_call 64; refine (checkBook_any N _ B _ (H.out.in_alloc _)).mono ?_; rintro e w1 ⟨rfl, hb1⟩; rw [HC.out]; have ch1 := chain (chain0 _ _) hb1; have q0 := box_cell ch1 0 rfl; have q1 := box_cell ch1 1 rfl; have q2 := box_cell ch1 2 rfl; have q3 := box_cell ch1 3 rfl; clear hb1)
        | (go_at_call 65; refine (areFruits_any N _ _ B R _ (H.out.chain (by assumption)) (RowsAt.chain HF.out hN (by assumption)) (okMarks_V (okBook_marks HM.out))).mono ?_; rintro e w2 ⟨rfl, hb2⟩; rw [HS.out]; have ch2 := chain (by assumption) hb2; clear hb2))
      go_ret
      exact ⟨ret_int (by simp [chk, HM.out, HS.out]), below_of ch2⟩
    | false =>
      have HS : Hid (okFruits B R = false) := Lib.hid hs
      clear hs
      go_enter Try.func19, Try.ntmps19
      go_wp2_with (first
        | (go_at_call 64; refine (checkBook_any N _ B _ (H.out.in_alloc _)).mono ?_; rintro e w1 ⟨rfl, hb1⟩; rw [HC.out]; have ch1 := chain (chain0 _ _) hb1; have q0 := box_cell ch1 0 rfl; have q1 := box_cell ch1 1 rfl; have q2 := box_cell ch1 2 rfl; have q3 := box_cell ch1 3 rfl; clear hb1)
        | (go_at_call 65; refine (areFruits_any N _ _ B R _ (H.out.chain (by assumption)) (RowsAt.chain HF.out hN (by assumption)) (okMarks_V (okBook_marks HM.out))).mono ?_; rintro e w2 ⟨rfl, hb2⟩; rw [HS.out]; have ch2 := chain (by assumption) hb2; clear hb2))
      go_ret
      exact ⟨ret_int (by simp [chk, HM.out, HS.out]), below_of ch2⟩
  | false =>
    have HM : Hid (okBook B = false) := Lib.hid hm
    have HC : Hid (chkB B = 10) := by unfold Hid; simp [chkB, hm]
    clear hm
    go_enter Try.func19, Try.ntmps19
    go_wp2_with (go_at_call 64; refine (checkBook_any N _ B _ (H.out.in_alloc _)).mono ?_; rintro e w1 ⟨rfl, hb1⟩; rw [HC.out]; have ch1 := chain (chain0 _ _) hb1; clear hb1)
    go_ret
    exact ⟨ret_int (by simp [chk, HM.out]), below_of ch1⟩

end Go.Proofs.Ytmmadlpkolcgkaa
