import Derived.Test.YtmmadlpkolcgkaaValid2
namespace Go.Proofs.Ytmmadlpkolcgkaa
open Go.RowKit

set_option maxHeartbeats 800000 in
theorem validFruits_any (N : Nat) (v u : Value) (B : Bk) (R : Fr) (w : World) (h : BookAt N w v B) (hf : FruitsAt N w u R) :
    Calls Try.prog 63 #[v, u] w fun e w' => e = .returned (.bool (okFruits B R)) ∧ Below w.heap.size w w' := by
  obtain ⟨hN, a1, c1, a2, c2, a3, c3, rfl, h1, h2, h3⟩ := h
  have hnv := h1.len
  have HB : Hid (Below w.heap.size w (w.alloc (.cells #[.slice a1 B.nv c1, .slice a2 B.nf c2, .slice a3 B.ns c3, .int .i64 B.wr] 25))) := below_alloc (Nat.le_refl _) _
  obtain ⟨_, cf1, e1, _, hc1⟩ := h1
  cases e1
  obtain ⟨af, cf, rfl, hnf, hcf⟩ := hf
  clear h2 h3
  by_cases h5 : R.n ≤ 5
  · have h5' : (R.n : Int) ≤ 5 := by omega
    have H5 : Hid (R.n ≤ 5) := h5
    clear h5
    go_enter Try.func63, Try.ntmps63
    go_wp2
    go_loop [14] (fun i => ∃ k : Nat, k ≤ R.n ∧ i = .int .i64 k ∧ Hid (∀ j, j < k → okFruit B R j = true)) (fun i => R.n - (intOf i).toNat)
    case atStart => exact ⟨0, Nat.zero_le _, rfl, fun j hj => absurd hj (Nat.not_lt_zero j)⟩
    case round =>
      obtain ⟨k, hk, rfl, hj⟩ := hrel
      by_cases hkn : k < R.n
      · obtain ⟨b3, off3, rfl, hb3, hr3⟩ := hcf (by omega)
        obtain ⟨r3, hcell3, ao, cap, rfl, hL, hcr⟩ := hr3 k hkn
        clear hcf hr3
        have hb3' : b3 < w.heap.size := by omega
        by_cases hc : R.L k = B.nv
        · have hE : ((R.L k : Int) != (B.nv : Int)) = false := by simp; omega
          have HC : Hid (R.L k = B.nv) := hc
          clear hc
          go_wp2
          go_loop [26] (fun i => ∃ m : Nat, m ≤ R.L k ∧ i = .int .i64 m ∧ Hid (∀ j, j < m → (decide (R.X k j = -1) || (decide (0 ≤ R.X k j) && decide (R.X k j < B.V j))) = true)) (fun i => R.L k - (intOf i).toNat)
          case atStart => exact ⟨0, Nat.zero_le _, rfl, fun j hj => absurd hj (Nat.not_lt_zero j)⟩
          case round =>
            obtain ⟨m, hm, rfl, hj2⟩ := hrel
            by_cases hmn : m < R.L k
            · obtain ⟨b4, off4, rfl, hb4, hr4⟩ := hcr (by omega)
              obtain ⟨r4, hcell4, rfl⟩ := hr4 m hmn
              obtain ⟨b1, off1, rfl, hb1, hr1⟩ := hc1 (by have := HC.out; omega)
              obtain ⟨r1, hcell1, rfl⟩ := hr1 m (by have := HC.out; omega)
              have hmv : (m : Int) < (B.nv : Int) := by have := HC.out; omega
              have hb4' : b4 < w.heap.size := by omega
              have hb1' : b1 < w.heap.size := by omega
              clear hr4 hcr hc1 hr1
              by_cases hx : R.X k m = -1
              · have hxe : (R.X k m != -1) = false := by simp [hx]
                have HX : Hid (R.X k m = -1) := hx
                clear hx
                go_wp2
                go_round
                case rel => exact ⟨m + 1, by omega, by go_num, lt_succ hj2.out (by simp [HX.out])⟩
                case measure => simp [intOf]; omega
              · have hxe : (R.X k m != -1) = true := by simp [hx]
                have HX : Hid (R.X k m ≠ -1) := hx
                clear hx
                cases hok : (decide (0 ≤ R.X k m) && decide (R.X k m < B.V m)) with
                | true =>
                  have HOK : Hid _ := Lib.hid hok
                  clear hok
                  go_wp2_with (go_at_call 81; refine (mwithin_any _ _ _).mono ?_; rintro e w' ⟨rfl, rfl⟩; rw [HOK.out])
                  go_round
                  case rel => exact ⟨m + 1, by omega, by go_num, lt_succ hj2.out (by rw [HOK.out, Bool.or_true])⟩
                  case measure => simp [intOf]; omega
                | false =>
                  have HOK : Hid _ := Lib.hid hok
                  clear hok
                  go_wp2_with (go_at_call 81; refine (mwithin_any _ _ _).mono ?_; rintro e w' ⟨rfl, rfl⟩; rw [HOK.out])
                  go_ret
                  exact ⟨ret_bool (by unfold okFruits; rw [allB_succ_false (k := k) hkn (by unfold okFruit; rw [allB_succ_false hmn (by rw [HOK.out]; simp [HX.out]), Bool.and_false]), Bool.and_false]), HB.out⟩
            · have Hm : Hid (m = R.L k) := by show m = _; omega
              go_wp2
              go_round
              case rel => exact ⟨k + 1, by omega, by go_num, lt_succ hj.out (by unfold okFruit; rw [allB_true.2 (fun i hi => hj2.out i (by rw [Hm.out]; exact hi))]; simp [HC.out])⟩
              case measure => simp [intOf]; omega
        · have hE : ((R.L k : Int) != (B.nv : Int)) = true := by simp; omega
          have HC : Hid (¬ R.L k = B.nv) := hc
          clear hc
          go_wp2
          go_ret
          exact ⟨ret_bool (by unfold okFruits; rw [allB_succ_false (k := k) hkn (by unfold okFruit; simp [HC.out]), Bool.and_false]), HB.out⟩
      · have Hk : Hid (k = R.n) := by show k = _; omega
        go_wp2
        go_ret
        exact ⟨ret_bool (by unfold okFruits; rw [allB_true.2 (fun i hi => hj.out i (by rw [Hk.out]; exact hi))]; simp [H5.out]), HB.out⟩
  · have h5' : 5 < (R.n : Int) := by omega
    have H5 : Hid (¬ R.n ≤ 5) := h5
    clear h5
    go_enter Try.func63, Try.ntmps63
    go_wp2
    go_ret
    exact ⟨ret_bool (by simp [okFruits, H5.out]), HB.out⟩

theorem BookAt.in_alloc {N : Nat} {w : World} {v : Value} {B : Bk} (h : BookAt N w v B) (o : Obj) : BookAt N (w.alloc o) v B :=
  h.mono (below_alloc h.1 o) (Nat.le_refl _) (by have := h.1; simp; omega)

/-- the world behind one call more -/
theorem step {n : Nat} {a b c : World} (h : Below n a b) (hn : n ≤ a.heap.size) (k : Below b.heap.size b c) : Below n a c :=
  h.trans (k.mono (Nat.le_trans hn h.size))
theorem size_of {w W : World} {o : Obj} (ch : Below (w.heap.size + 1) (w.alloc o) W) : w.heap.size < W.heap.size := by
  have := ch.size; simp at this; omega
theorem chain0 (w : World) (o : Obj) : Below (w.heap.size + 1) (w.alloc o) (w.alloc o) := Below.refl _ _
theorem chain {w W W' : World} {o : Obj} (ch : Below (w.heap.size + 1) (w.alloc o) W) (k : Below W.heap.size W W') : Below (w.heap.size + 1) (w.alloc o) W' :=
  step ch (by simp) k
theorem chain_alloc {w W : World} {o : Obj} (ch : Below (w.heap.size + 1) (w.alloc o) W) (o' : Obj) : Below (w.heap.size + 1) (w.alloc o) (W.alloc o') :=
  ch.alloc (size_of ch) o'
theorem BookAt.chain {N : Nat} {w W : World} {v : Value} {B : Bk} {o : Obj} (h : BookAt N w v B) (ch : Below (w.heap.size + 1) (w.alloc o) W) : BookAt N W v B :=
  h.mono ((below_of ch).mono h.1) (Nat.le_refl _) (by have := h.1; have := size_of ch; omega)
theorem RowsAt.chain {N : Nat} {w W : World} {v : Value} {n : Nat} {L : Nat → Nat} {x : Nat → Nat → Int} {o : Obj} (h : RowsAt N w v n L x) (hN : N ≤ w.heap.size) (ch : Below (w.heap.size + 1) (w.alloc o) W) : RowsAt N W v n L x :=
  RowsAt.mono h ((below_of ch).mono hN) (Nat.le_refl _)

set_option maxHeartbeats 800000 in
theorem validBook_any (N : Nat) (v : Value) (B : Bk) (w : World) (h : BookAt N w v B) :
    Calls Try.prog 62 #[v] w fun e w' => e = .returned (.bool (okBook B)) ∧ Below w.heap.size w w' := by
  have H : Hid (BookAt N w v B) := h
  obtain ⟨_, a1, c1, a2, c2, a3, c3, rfl, h1, h2, h3⟩ := h
  clear h1 h2 h3
  cases hm : okMarks B with
  | true =>
    have HM : Hid (okMarks B = true) := Lib.hid hm
    clear hm
    cases hs : okSorts B with
    | true =>
      have HS : Hid (okSorts B = true) := Lib.hid hs
      clear hs
      by_cases g1 : 0 ≤ B.wr
      · have G1 : Hid _ := Lib.hid g1
        go_enter Try.func62, Try.ntmps62
        go_wp2_with (first
          | (go_at_call 87; refine (validMarks_any N _ B _ (H.out.in_alloc _)).mono ?_; rintro e w1 ⟨rfl, hb1⟩; rw [HM.out]; have ch1 := chain (chain0 _ _) hb1; have q0 := box_cell ch1 0 rfl; have q1 := box_cell ch1 1 rfl; have q2 := box_cell ch1 2 rfl; have q3 := box_cell ch1 3 rfl; clear hb1)
          | (go_at_call 88; refine (validSorts_any N _ B _ (H.out.chain (by assumption)) HM.out).mono ?_; rintro e w2 ⟨rfl, hb2⟩; rw [HS.out]; have ch2 := chain (by assumption) hb2; have q0 := box_cell ch2 0 rfl; have q1 := box_cell ch2 1 rfl; have q2 := box_cell ch2 2 rfl; have q3 := box_cell ch2 3 rfl; clear hb2))
        go_ret
        exact ⟨ret_bool (by simp [okBook, HM.out, HS.out, G1.out]), below_of ch2⟩
      · have G1 : Hid _ := Lib.hid g1
        have g1' : B.wr < 0 := by omega
        clear g1
        go_enter Try.func62, Try.ntmps62
        go_wp2_with (first
          | (go_at_call 87; refine (validMarks_any N _ B _ (H.out.in_alloc _)).mono ?_; rintro e w1 ⟨rfl, hb1⟩; rw [HM.out]; have ch1 := chain (chain0 _ _) hb1; have q0 := box_cell ch1 0 rfl; have q1 := box_cell ch1 1 rfl; have q2 := box_cell ch1 2 rfl; have q3 := box_cell ch1 3 rfl; clear hb1)
          | (go_at_call 88; refine (validSorts_any N _ B _ (H.out.chain (by assumption)) HM.out).mono ?_; rintro e w2 ⟨rfl, hb2⟩; rw [HS.out]; have ch2 := chain (by assumption) hb2; have q0 := box_cell ch2 0 rfl; have q1 := box_cell ch2 1 rfl; have q2 := box_cell ch2 2 rfl; have q3 := box_cell ch2 3 rfl; clear hb2))
        go_ret
        exact ⟨ret_bool (by have q : ¬ 0 ≤ B.wr := (by have := G1.out; omega); simp [okBook, HM.out, HS.out, q]), below_of ch2⟩
    | false =>
      have HS : Hid (okSorts B = false) := Lib.hid hs
      clear hs
      go_enter Try.func62, Try.ntmps62
      go_wp2_with (first
        | (go_at_call 87; refine (validMarks_any N _ B _ (H.out.in_alloc _)).mono ?_; rintro e w1 ⟨rfl, hb1⟩; rw [HM.out]; have ch1 := chain (chain0 _ _) hb1; have q0 := box_cell ch1 0 rfl; have q1 := box_cell ch1 1 rfl; have q2 := box_cell ch1 2 rfl; have q3 := box_cell ch1 3 rfl; clear hb1)
        | (go_at_call 88; refine (validSorts_any N _ B _ (H.out.chain (by assumption)) HM.out).mono ?_; rintro e w2 ⟨rfl, hb2⟩; rw [HS.out]; have ch2 := chain (by assumption) hb2; have q0 := box_cell ch2 0 rfl; have q1 := box_cell ch2 1 rfl; have q2 := box_cell ch2 2 rfl; have q3 := box_cell ch2 3 rfl; clear hb2))
      go_ret
      exact ⟨ret_bool (by simp [okBook, HM.out, HS.out]), below_of ch2⟩
  | false =>
    have HM : Hid (okMarks B = false) := Lib.hid hm
    clear hm
    go_enter Try.func62, Try.ntmps62
    go_wp2_with (go_at_call 87; refine (validMarks_any N _ B _ (H.out.in_alloc _)).mono ?_; rintro e w1 ⟨rfl, hb1⟩; rw [HM.out]; have ch1 := chain (chain0 _ _) hb1; have q0 := box_cell ch1 0 rfl; have q1 := box_cell ch1 1 rfl; have q2 := box_cell ch1 2 rfl; have q3 := box_cell ch1 3 rfl; clear hb1)
    go_ret
    exact ⟨ret_bool (by simp [okBook, HM.out]), below_of ch1⟩

set_option maxHeartbeats 800000 in
theorem mCheck_any (N : Nat) (v u : Value) (B : Bk) (R : Fr) (w : World) (h : BookAt N w v B) (hf : FruitsAt N w u R) :
    Calls Try.prog 18 #[v, u] w fun e w' => e = .returned (.int .i64 (chk B R)) ∧ Below w.heap.size w w' := by
  have H : Hid (BookAt N w v B) := h
  have HF : Hid (FruitsAt N w u R) := hf
  obtain ⟨hN, a1, c1, a2, c2, a3, c3, rfl, h1, h2, h3⟩ := h
  clear h1 h2 h3 hf
  cases hm : okBook B with
  | true =>
    have HM : Hid (okBook B = true) := Lib.hid hm
    clear hm
    cases hs : okFruits B R with
    | true =>
      have HS : Hid (okFruits B R = true) := Lib.hid hs
      clear hs
      go_enter Try.func18, Try.ntmps18
      go_wp2_with (first
        | (go_at_call 62; refine (validBook_any N _ B _ (H.out.in_alloc _)).mono ?_; rintro e w1 ⟨rfl, hb1⟩; rw [HM.out]; have ch1 := chain (chain0 _ _) hb1; have q0 := box_cell ch1 0 rfl; have q1 := box_cell ch1 1 rfl; have q2 := box_cell ch1 2 rfl; have q3 := box_cell ch1 3 rfl; clear hb1)
        | (go_at_call 63; refine (validFruits_any N _ _ B R _ (H.out.chain (by assumption)) (RowsAt.chain HF.out hN (by assumption))).mono ?_; rintro e w2 ⟨rfl, hb2⟩; rw [HS.out]; have ch2 := chain (by assumption) hb2; clear hb2))
      go_ret
      exact ⟨ret_int (by simp [chk, HM.out, HS.out]), below_of ch2⟩
    | false =>
      have HS : Hid (okFruits B R = false) := Lib.hid hs
      clear hs
      go_enter Try.func18, Try.ntmps18
      go_wp2_with (first
        | (go_at_call 62; refine (validBook_any N _ B _ (H.out.in_alloc _)).mono ?_; rintro e w1 ⟨rfl, hb1⟩; rw [HM.out]; have ch1 := chain (chain0 _ _) hb1; have q0 := box_cell ch1 0 rfl; have q1 := box_cell ch1 1 rfl; have q2 := box_cell ch1 2 rfl; have q3 := box_cell ch1 3 rfl; clear hb1)
        | (go_at_call 63; refine (validFruits_any N _ _ B R _ (H.out.chain (by assumption)) (RowsAt.chain HF.out hN (by assumption))).mono ?_; rintro e w2 ⟨rfl, hb2⟩; rw [HS.out]; have ch2 := chain (by assumption) hb2; clear hb2))
      go_ret
      exact ⟨ret_int (by simp [chk, HM.out, HS.out]), below_of ch2⟩
  | false =>
    have HM : Hid (okBook B = false) := Lib.hid hm
    clear hm
    go_enter Try.func18, Try.ntmps18
    go_wp2_with (go_at_call 62; refine (validBook_any N _ B _ (H.out.in_alloc _)).mono ?_; rintro e w1 ⟨rfl, hb1⟩; rw [HM.out]; have ch1 := chain (chain0 _ _) hb1; clear hb1)
    go_ret
    exact ⟨ret_int (by simp [chk, HM.out]), below_of ch1⟩

end Go.Proofs.Ytmmadlpkolcgkaa
