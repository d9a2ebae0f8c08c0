/-
  MarksTold where all is valid: it says true.
-/
import Derived.Test.YtopajgnemeodeaaTold2
namespace Go.Proofs.Ytopajgnemeodeaa
open Go.RowKit

theorem rdy_parts {B : Bk} {R : Fr} (h : rdy B R = true) : chk B R = 0 ∧ okBook B = true ∧ Good B R := by
  simp only [rdy, Bool.and_eq_true, decide_eq_true_eq] at h
  refine ⟨h.2, ?_, chk_good h.2⟩
  have h2 := h.2
  unfold chk at h2
  split at h2
  · rename_i hb; exact hb
  · simp at h2

/-- was a fruit seen whole? -/
def wholeF (B : Bk) (R : Fr) (f : Nat) : Bool := (((cnt (R.L f) fun i => decide (R.X f i ≠ -1)) : Nat) : Int) == (B.nv : Int)

theorem anyB_next (p : Nat → Bool) (k : Nat) : anyB (k + 1) p = (anyB k p || p k) := by simp [anyB, List.range_succ]

set_option maxHeartbeats 4000000 in
set_option maxRecDepth 100000 in
theorem told_in (N : Nat) (v u : Value) (B : Bk) (R : Fr) (s t : Nat) (pf pm : Int) (w : World) (h : BookAt N w v B) (hf : FruitsAt N w u R)
    (hr : rdy B R = true) (hs : s < B.ns) (ht : t < B.ns) :
    Calls Try.prog 11 #[v, u, .agg #[.int .i64 s, .int .i64 pf, .int .i64 pm, .int .i64 t]] w fun e w' => e = .returned (.bool true) ∧ Below w.heap.size w w' := by
  have H : Hid (BookAt N w v B) := h
  have HF : Hid (FruitsAt N w u R) := hf
  obtain ⟨hN, a1, c1, a2, c2, a3, c3, rfl, h1, h2, h3⟩ := h
  have hnv := h1.len
  clear h1 h2 h3
  obtain ⟨af, cf, rfl, hnf, _⟩ := hf
  have HG : Hid (Good B R) := (rdy_parts hr).2.2
  have HC : Hid (chk B R = 0) := (rdy_parts hr).1
  have HK : Hid (okBook B = true) := (rdy_parts hr).2.1
  have HR : Hid _ := Lib.hid hr
  have HS : Hid ((decide (0 ≤ (s : Int)) && decide ((s : Int) < (B.ns : Int))) = true) := by unfold Hid; simp; omega
  have HT : Hid ((decide (0 ≤ (t : Int)) && decide ((t : Int) < (B.ns : Int))) = true) := by unfold Hid; simp; omega
  have HLS : Hid (s < B.ns) := hs
  have HLT : Hid (t < B.ns) := ht
  clear hr hs ht
  go_enter Try.func11, Try.ntmps11
  go_wp2_with (first
    | (go_at_call 44; refine (ready_any N _ _ B R _ ((H.out.in_alloc _).in_alloc _) (RowsAt.mono HF.out (below2 hN _ _) (Nat.le_refl _))).mono ?_; rintro e w1 ⟨rfl, hb1⟩; rw [HR.out]; have ch1 := chain2 hb1; have q0 := box_cell (ch_book ch1) 0 rfl; have q1 := box_cell (ch_book ch1) 1 rfl; have q2 := box_cell (ch_book ch1) 2 rfl; have q3 := box_cell (ch_book ch1) 3 rfl; have p0 := place_cell ch1 0 rfl; have p3 := place_cell ch1 3 rfl; clear hb1)
    | (go_at_call 54; refine (isSort_any N _ B t _ (H.out.chain (ch_book ch2))).mono ?_; rintro e w3 ⟨rfl, hb3⟩; rw [HT.out]; have ch3 := chain2s ch2 hb3; clear hb3)
    | (go_at_call 54; refine (isSort_any N _ B s _ (H.out.chain (ch_book ch1))).mono ?_; rintro e w2 ⟨rfl, hb2⟩; rw [HS.out]; have ch2 := chain2s ch1 hb2; have q0 := box_cell (ch_book ch2) 0 rfl; have q1 := box_cell (ch_book ch2) 1 rfl; have q2 := box_cell (ch_book ch2) 2 rfl; have q3 := box_cell (ch_book ch2) 3 rfl; have p0 := place_cell ch2 0 rfl; have p3 := place_cell ch2 3 rfl; clear hb2))
  have HCH3 : Hid _ := Lib.hid ch3
  clear ch3 ch1 ch2
  go_loopw [7, 8] (fun b i wr => ∃ k : Nat, k ≤ R.n ∧ i = .int .i64 k ∧ b = .bool (anyB k (wholeF B R)) ∧ Hid (Below (w.heap.size + 1 + 1) ((w.alloc (.cells #[.slice a1 B.nv c1, .slice a2 B.nf c2, .slice a3 B.ns c3, .int .i64 B.wr] 25)).alloc (.cells #[.int .i64 s, .int .i64 pf, .int .i64 pm, .int .i64 t] 42)) wr)) (fun _ i _ => R.n - (intOf i).toNat)
  case atStart => exact ⟨0, Nat.zero_le _, rfl, rfl, HCH3.out⟩
  case round =>
    obtain ⟨k, hk, rfl, rfl, hch⟩ := hrel
    have q0 := box_cell (ch_book hch.out) 0 rfl
    have q1 := box_cell (ch_book hch.out) 1 rfl
    have q2 := box_cell (ch_book hch.out) 2 rfl
    have q3 := box_cell (ch_book hch.out) 3 rfl
    have p0 := place_cell hch.out 0 rfl
    have p3 := place_cell hch.out 3 rfl
    by_cases hkn : k < R.n
    · cases hb : anyB k (wholeF B R) with
      | true =>
        have HB : Hid _ := Lib.hid hb
        clear hb
        go_wp2
        go_quiet (fail)
        go_wp2
        go_roundw
        case rel => exact ⟨k + 1, by omega, by go_num, by rw [anyB_next, HB.out]; rfl, below_drewN hch.out _⟩
        case measure => simp [intOf]; omega
      | false =>
        have HB : Hid _ := Lib.hid hb
        clear hb
        obtain ⟨_, _, e3, _, hc3⟩ := RowsAt.chain HF.out hN (ch_book hch.out)
        cases e3
        obtain ⟨b3, off3, rfl, hb3, hr3⟩ := hc3 (by omega)
        obtain ⟨r3, hcell3, hints⟩ := hr3 k hkn
        have HI : Hid _ := Lib.hid hints
        obtain ⟨ao, cap, rfl, hL, _⟩ := hints
        clear hc3 hr3
        have hcn := cnt_le (R.L k) fun i => decide (R.X k i ≠ -1)
        obtain ⟨c, hc⟩ : ∃ c, (cnt (R.L k) fun i => decide (R.X k i ≠ -1)) = c := ⟨_, rfl⟩
        have HCN : Hid _ := Lib.hid hc
        rw [hc] at hcn
        clear hc
        cases hw : ((c : Int) == (B.nv : Int)) with
        | true =>
          have HW : Hid (wholeF B R k = true) := by unfold Hid wholeF; rw [HCN.out]; exact hw
          go_wp2
          go_quiet ((go_at_call 52; exact Calls.quiet_of_same ((seen_any N _ _ _ _ (HI.out.mono (below_drewN (Below.refl _ _) _) (Nat.le_refl _))).mono (fun e w' hh => by rw [HCN.out] at hh; exact hh))))
          go_wp2
          go_roundw
          case rel => exact ⟨k + 1, by omega, by go_num, by rw [anyB_next, HB.out, HW.out]; rfl, below_drewN hch.out _⟩
          case measure => simp [intOf]; omega
        | false =>
          have HW : Hid (wholeF B R k = false) := by unfold Hid wholeF; rw [HCN.out]; exact hw
          go_wp2
          go_quiet ((go_at_call 52; exact Calls.quiet_of_same ((seen_any N _ _ _ _ (HI.out.mono (below_drewN (Below.refl _ _) _) (Nat.le_refl _))).mono (fun e w' hh => by rw [HCN.out] at hh; exact hh))))
          go_wp2
          go_roundw
          case rel => exact ⟨k + 1, by omega, by go_num, by rw [anyB_next, HB.out, HW.out]; rfl, below_drewN hch.out _⟩
          case measure => simp [intOf]; omega
    · have hkR : k = R.n := by omega
      subst hkR
      clear hk hkn
      obtain ⟨la, hla⟩ : ∃ la, apartL B s t = la := ⟨_, rfl⟩
      obtain ⟨ls, hls⟩ : ∃ ls, sorts B R = ls := ⟨_, rfl⟩
      obtain ⟨mS, hmS⟩ : ∃ m, wrong B R s = m := ⟨_, rfl⟩
      obtain ⟨nT, hnT⟩ : ∃ m, wrong B R t = m := ⟨_, rfl⟩
      have HE1 : Hid (eApart B (s : Int) (t : Int) = (la, 0)) := by
        unfold Hid eApart; rw [HK.out, if_neg (by simp), if_pos ⟨HS.out, HT.out⟩, ← hla]; rfl
      have HE2 : Hid (eApart B (t : Int) (s : Int) = (la, 0)) := by
        unfold Hid eApart; rw [HK.out, if_neg (by simp), if_pos ⟨HT.out, HS.out⟩, ← hla, apartL_comm]; rfl
      have HE3 : Hid (eWrong B R (s : Int) = ((mS : Int), 0)) := by
        unfold Hid eWrong; rw [HC.out, if_neg (by simp), if_pos HS.out, ← hmS]; rfl
      have HE4 : Hid (eWrong B R (t : Int) = ((nT : Int), 0)) := by
        unfold Hid eWrong; rw [HC.out, if_neg (by simp), if_pos HT.out, ← hnT]; rfl
      obtain ⟨es, HE5, HKN⟩ : ∃ es, Hid (eSorts B R = (ls, es)) ∧ Hid ((decide (es = 0) || decide (es = 3)) = true) := by
        by_cases h0 : ls.length = 0
        · exact ⟨3, by unfold Hid eSorts; rw [HC.out, if_neg (by simp), hls, if_pos h0, List.length_eq_zero_iff.1 h0], by unfold Hid; decide⟩
        · exact ⟨0, by unfold Hid eSorts; rw [HC.out, if_neg (by simp), hls, if_neg h0], by unfold Hid; decide⟩
      have b1 : mS ≤ 30 := by rw [← hmS]; exact wrong_le HG.out s
      have b2 : nT ≤ 30 := by rw [← hnT]; exact wrong_le HG.out t
      have b3 : la.length ≤ B.nv := by rw [← hla]; exact sel_len _ _
      have b4 : B.nv ≤ 6 := HG.out.nv
      have b5 : ls.length ≤ B.ns := by rw [← hls]; exact sel_len _ _
      have b6 : B.ns ≤ 8 := HG.out.ns
      have b7 := HG.out.wr0
      have b8 := HG.out.wr9
      have HRI : Hid (rises la.length (fun i => la.getD i 0) 0 ((B.nv : Int) - 1) = true) := by rw [← hla]; exact sel_rises _ _
      have hwf : anyB R.n (wholeF B R) = true → ∃ f, f < R.n ∧ ∀ m, m < B.nv → R.X f m ≠ -1 := fun hh => by
        obtain ⟨f, hf, hw⟩ := anyB_true.1 hh
        refine ⟨f, hf, fun m hm => ?_⟩
        unfold wholeF at hw
        rw [HG.out.L f hf] at hw
        have e1 := eq_of_beq hw
        have e2 : (cnt B.nv fun i => decide (R.X f i ≠ -1)) = B.nv := by omega
        simpa using cnt_full e2 m hm
      have hF1 : anyB R.n (wholeF B R) = true → la.length ≤ mS + nT := fun hh => by
        obtain ⟨f, hf, hw⟩ := hwf hh
        rw [← hla, ← hmS, ← hnT]; exact apart_wrong hf hw
      have hF2 : anyB R.n (wholeF B R) = true → (anyB ls.length fun i => decide (ls.getD i 0 = (s : Int))) = true → (anyB ls.length fun i => decide (ls.getD i 0 = (t : Int))) = true → (la.length : Int) ≤ 2 * B.wr := fun hh => by
        obtain ⟨f, hf, hw⟩ := hwf hh
        rw [← hla, ← hls]; exact apart_both hf hw
      have HSA : Hid (sameI la.length (fun i => la.getD i 0) la.length (fun i => la.getD i 0) = true) := by
        unfold Hid sameI; rw [allB_true.2 fun i _ => by simp]; simp
      have HBD : Hid (la.length ≤ 140737488351232 ∧ ls.length ≤ 140737488351232) := ⟨by omega, by omega⟩
      clear hla hls hmS hnT hwf
      have HCH : Hid _ := hch
      have j1 : (la.length : Int) ≤ 6 := by omega
      have j2 : (ls.length : Int) ≤ (B.ns : Int) := by omega
      clear hch
      cases hW : anyB R.n (wholeF B R)
      all_goals
        cases hi1 : anyB ls.length fun i => decide (ls.getD i 0 = (s : Int))
        all_goals
          cases hi2 : anyB ls.length fun i => decide (ls.getD i 0 = (t : Int))
          all_goals
            have hF1' : anyB R.n (wholeF B R) = true → (la.length : Int) ≤ (mS : Int) + (nT : Int) := fun hh => by have := hF1 hh; omega
            have hF2' := hF2
            rw [hW] at hF1' hF2'
            rw [hi1, hi2] at hF2'
            have HI1 : Hid _ := Lib.hid hi1
            have HI2 : Hid _ := Lib.hid hi2
            clear hF1 hF2 hW hi1 hi2
            try (have hF1'' := hF1' rfl)
            try (have hF2'' := hF2' rfl rfl rfl)
            clear hF1' hF2'
            go_wp2_with (first
              | (go_at_call 40; refine (mApart_any N _ B (t : Int) (s : Int) _ (H.out.chain (ch_book ch4))).mono ?_; rintro e w5 ⟨u5, rfl, hu5, hb5⟩; rw [HE2.out] at hu5; rw [HE2.out]; have ch5 := chain2s ch4 hb5; obtain ⟨ao5, co5, rfl⟩ := hu5.form; have HU5 : Hid _ := Lib.hid hu5; have HB45 : Hid _ := Lib.hid hb5; have q0 := box_cell (ch_book ch5) 0 rfl; have q1 := box_cell (ch_book ch5) 1 rfl; have q2 := box_cell (ch_book ch5) 2 rfl; have q3 := box_cell (ch_book ch5) 3 rfl; have p0 := place_cell ch5 0 rfl; have p3 := place_cell ch5 3 rfl; clear hu5 hb5)
              | (go_at_call 40; refine (mApart_any N _ B (s : Int) (t : Int) _ (H.out.chain (ch_book HCH.out))).mono ?_; rintro e w4 ⟨u4, rfl, hu4, hb4⟩; rw [HE1.out] at hu4; rw [HE1.out]; have ch4 := chain2s HCH.out hb4; obtain ⟨ao4, co4, rfl⟩ := hu4.form; have HU4 : Hid _ := Lib.hid hu4; have q0 := box_cell (ch_book ch4) 0 rfl; have q1 := box_cell (ch_book ch4) 1 rfl; have q2 := box_cell (ch_book ch4) 2 rfl; have q3 := box_cell (ch_book ch4) 3 rfl; have p0 := place_cell ch4 0 rfl; have p3 := place_cell ch4 3 rfl; clear hu4 hb4)
              | (go_at_call 20; refine (mWrong_any N _ _ B R (t : Int) _ (H.out.chain (ch_book ch6)) (RowsAt.chain HF.out hN (ch_book ch6))).mono ?_; rintro e w7 ⟨rfl, hb7⟩; rw [HE4.out]; have ch7 := chain2s ch6 hb7; have HB57 : Hid _ := Lib.hid (step HB56.out (Nat.le_refl _) hb7); have q0 := box_cell (ch_book ch7) 0 rfl; have q1 := box_cell (ch_book ch7) 1 rfl; have q2 := box_cell (ch_book ch7) 2 rfl; have q3 := box_cell (ch_book ch7) 3 rfl; have p0 := place_cell ch7 0 rfl; have p3 := place_cell ch7 3 rfl; clear hb7)
              | (go_at_call 20; refine (mWrong_any N _ _ B R (s : Int) _ (H.out.chain (ch_book ch5)) (RowsAt.chain HF.out hN (ch_book ch5))).mono ?_; rintro e w6 ⟨rfl, hb6⟩; rw [HE3.out]; have ch6 := chain2s ch5 hb6; have HB56 : Hid _ := Lib.hid hb6; have q0 := box_cell (ch_book ch6) 0 rfl; have q1 := box_cell (ch_book ch6) 1 rfl; have q2 := box_cell (ch_book ch6) 2 rfl; have q3 := box_cell (ch_book ch6) 3 rfl; have p0 := place_cell ch6 0 rfl; have p3 := place_cell ch6 3 rfl)
              | (go_at_call 30; refine (sameInts_any _ _ _ _ _ _ _ _ (IntsAt.mono (HU4.out.ints HBD.out.1) (HB45.out.trans (HB57.out.mono HB45.out.size)) (Nat.le_trans HB45.out.size HB57.out.size)) (IntsAt.mono (HU5.out.ints HBD.out.1) HB57.out HB57.out.size)).mono ?_; rintro e w8 ⟨rfl, hD⟩; rw [HSA.out]; have HB78 : Hid (Below w7.heap.size w7 w8) := Drawn.below hD _; have ch8 := chain2s ch7 HB78.out; have q0 := box_cell (ch_book ch8) 0 rfl; have q1 := box_cell (ch_book ch8) 1 rfl; have q2 := box_cell (ch_book ch8) 2 rfl; have q3 := box_cell (ch_book ch8) 3 rfl; have p0 := place_cell ch8 0 rfl; have p3 := place_cell ch8 3 rfl; clear hD)
              | (go_at_call 59; refine (rising_any _ _ _ _ _ _ _ (IntsAt.mono (HU4.out.ints HBD.out.1) ((HB45.out.trans (HB57.out.mono HB45.out.size)).trans (HB78.out.mono (Nat.le_trans HB45.out.size HB57.out.size))) (Nat.le_trans HB45.out.size (Nat.le_trans HB57.out.size HB78.out.size)))).mono ?_; rintro e w9 ⟨rfl, hD⟩; rw [HRI.out]; have ch9 := chain2s ch8 (Drawn.below hD _); have q0 := box_cell (ch_book ch9) 0 rfl; have q1 := box_cell (ch_book ch9) 1 rfl; have q2 := box_cell (ch_book ch9) 2 rfl; have q3 := box_cell (ch_book ch9) 3 rfl; have p0 := place_cell ch9 0 rfl; have p3 := place_cell ch9 3 rfl; clear hD)
              | (go_at_call 26; refine (mSorts_any N _ _ B R _ (H.out.chain (ch_book ch9)) (RowsAt.chain HF.out hN (ch_book ch9))).mono ?_; rintro e wA ⟨uA, rfl, huA, hbA⟩; rw [HE5.out] at huA; rw [HE5.out]; have chA := chain2s ch9 hbA; obtain ⟨aoA, coA, rfl⟩ := huA.form; have HUA : Hid _ := Lib.hid huA; have q0 := box_cell (ch_book chA) 0 rfl; have q1 := box_cell (ch_book chA) 1 rfl; have q2 := box_cell (ch_book chA) 2 rfl; have q3 := box_cell (ch_book chA) 3 rfl; have p0 := place_cell chA 0 rfl; have p3 := place_cell chA 3 rfl; clear huA hbA)
              | (go_at_call 55; refine (isKnown_any _ _).mono ?_; rintro e wB ⟨rfl, rfl⟩; rw [HKN.out])
              | (go_at_call 48; refine (in_any _ _ _ _ _ _ (HUA.out.ints HBD.out.2)).mono ?_; rintro e wB ⟨rfl, rfl⟩; first | rw [HI1.out] | rw [HI2.out])
              | (go_at_call 15; refine (works_any _).mono ?_; rintro e wC ⟨rfl, hbC⟩; have chC := chain2s chA hbC; clear hbC))
            all_goals
              go_ret
              exact ⟨rfl, below_of (ch_book chC)⟩

end Go.Proofs.Ytopajgnemeodeaa
