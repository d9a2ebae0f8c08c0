import Derived.Test.YtmmadlpkolcgkaaMarks1
namespace Go.Proofs.Ytmmadlpkolcgkaa
open Go.RowKit

theorem below2 {N : Nat} {w : World} (hN : N ≤ w.heap.size) (o o' : Obj) : Below N w ((w.alloc o).alloc o') := (below_alloc hN o).alloc (by simp; omega) o'
theorem chain2 {w W : World} {o o' : Obj} (k : Below ((w.alloc o).alloc o').heap.size ((w.alloc o).alloc o') W) : Below (w.heap.size + 1 + 1) ((w.alloc o).alloc o') W := by simpa using k
theorem chain2s {w W W' : World} {o o' : Obj} (ch : Below (w.heap.size + 1 + 1) ((w.alloc o).alloc o') W) (k : Below W.heap.size W W') : Below (w.heap.size + 1 + 1) ((w.alloc o).alloc o') W' := step ch (by simp) k
theorem ch_book {w W : World} {o o' : Obj} (ch : Below (w.heap.size + 1 + 1) ((w.alloc o).alloc o') W) : Below (w.heap.size + 1) (w.alloc o) W :=
  (below_alloc (by simp) o').trans (ch.mono (Nat.le_succ _))
theorem place_cell {w W : World} {o : Obj} {cs : Array Value} {t : TypeId} (ch : Below (w.heap.size + 1 + 1) ((w.alloc o).alloc (.cells cs t)) W) (i : Nat) {x : Value} (hx : cs[i]? = some x) : W.cell? ⟨w.heap.size + 1, i, none⟩ = some x := by
  have h := box_cell (w := w.alloc o) (wr := W) (cs := cs) (t := t) (by rw [World.size_alloc]; exact ch) i hx
  rwa [World.size_alloc] at h

def eIs (B : Bk) (R : Fr) (s : Int) : Int × Int :=
  if chk B R ≠ 0 then (0, chk B R) else if (decide (0 ≤ s) && decide (s < B.ns)) = false then (0, 1) else if (sorts B R).length = 0 then (0, 3)
  else if (anyB (sorts B R).length fun i => decide (s = (sorts B R).getD i 0)) = false then (2, 0) else if (sorts B R).length = 1 then (1, 0) else (3, 0)

set_option maxHeartbeats 4000000 in
theorem mIs_any (N : Nat) (v u : Value) (B : Bk) (R : Fr) (s : Int) (w : World) (h : BookAt N w v B) (hf : FruitsAt N w u R) :
    Calls Try.prog 28 #[v, u, .int .i64 s] w fun e w' => e = .returned (.tuple #[.int .i64 (eIs B R s).1, .int .i64 (eIs B R s).2]) ∧ Below w.heap.size w w' := by
  have H : Hid (BookAt N w v B) := h
  have HF : Hid (FruitsAt N w u R) := hf
  obtain ⟨hN, a1, c1, a2, c2, a3, c3, rfl, h1, h2, h3⟩ := h
  obtain ⟨af, cf, rfl, hnf, _⟩ := hf
  clear h1 h2 h3
  by_cases hc : chk B R = 0
  case neg =>
    have hcb : (chk B R != 0) = true := by simp [hc]
    have HC : Hid (¬ chk B R = 0) := hc
    clear hc
    go_enter Try.func28, Try.ntmps28
    go_wp2_with (go_at_call 18; refine (mCheck_any N _ _ B R _ (H.out.in_alloc _) (RowsAt.chain HF.out hN (chain0 _ _))).mono ?_; rintro e w1 ⟨rfl, hb1⟩; have ch1 := chain (chain0 _ _) hb1; have q0 := box_cell ch1 0 rfl; have q1 := box_cell ch1 1 rfl; have q2 := box_cell ch1 2 rfl; have q3 := box_cell ch1 3 rfl; clear hb1)
    go_ret2
    exact ⟨by rw [eIs, if_pos HC.out]; rfl, below_of ch1⟩
  have HG : Hid (Good B R) := chk_good hc
  have hcb : (chk B R != 0) = false := by simp [hc]
  have HC : Hid (¬ chk B R ≠ 0) := by unfold Hid; simp [hc]
  clear hc
  cases hin : (decide (0 ≤ s) && decide (s < (B.ns : Int))) with
  | false =>
    have HIN : Hid _ := Lib.hid hin
    clear hin
    go_enter Try.func28, Try.ntmps28
    go_wp2_with (first
      | (go_at_call 18; refine (mCheck_any N _ _ B R _ (H.out.in_alloc _) (RowsAt.chain HF.out hN (chain0 _ _))).mono ?_; rintro e w1 ⟨rfl, hb1⟩; have ch1 := chain (chain0 _ _) hb1; have q0 := box_cell ch1 0 rfl; have q1 := box_cell ch1 1 rfl; have q2 := box_cell ch1 2 rfl; have q3 := box_cell ch1 3 rfl; clear hb1)
      | (go_at_call 66; refine (misSort_any N _ B s _ (H.out.chain (by assumption))).mono ?_; rintro e w2 ⟨rfl, hb2⟩; rw [HIN.out]; have ch2 := chain (by assumption) hb2; clear hb2))
    go_ret2
    exact ⟨by rw [eIs, if_neg HC.out, if_pos HIN.out]; rfl, below_of ch2⟩
  | true =>
    have HIN : Hid _ := Lib.hid hin
    have HI2 : Hid (¬ (decide (0 ≤ s) && decide (s < (B.ns : Int))) = false) := by unfold Hid; rw [hin]; simp
    clear hin
    have hsl := sorts_len HG.out.ns R
    by_cases h0 : (sorts B R).length = 0
    · have h0b : (((sorts B R).length : Int) == 0) = true := by simpa using h0
      have H0 : Hid ((sorts B R).length = 0) := h0
      clear h0
      go_enter Try.func28, Try.ntmps28
      go_wp2_with (first
        | (go_at_call 18; refine (mCheck_any N _ _ B R _ (H.out.in_alloc _) (RowsAt.chain HF.out hN (chain0 _ _))).mono ?_; rintro e w1 ⟨rfl, hb1⟩; have ch1 := chain (chain0 _ _) hb1; have q0 := box_cell ch1 0 rfl; have q1 := box_cell ch1 1 rfl; have q2 := box_cell ch1 2 rfl; have q3 := box_cell ch1 3 rfl; clear hb1)
        | (go_at_call 66; refine (misSort_any N _ B s _ (H.out.chain (by assumption))).mono ?_; rintro e w2 ⟨rfl, hb2⟩; rw [HIN.out]; have ch2 := chain (by assumption) hb2; have q0 := box_cell ch2 0 rfl; have q1 := box_cell ch2 1 rfl; have q2 := box_cell ch2 2 rfl; have q3 := box_cell ch2 3 rfl; clear hb2)
        | (go_at_call 71; refine (sorts_any N _ B R _ (box_of (H.out.chain ch2) (RowsAt.chain HF.out hN ch2)) HG.out).mono ?_; rintro e w3 ⟨u, rfl, ho, hb3⟩; obtain ⟨_, _, rfl⟩ := ho.form; have ch3 := chain ch2 hb3))
      go_ret2
      exact ⟨by rw [eIs, if_neg HC.out, if_neg HI2.out, if_pos H0.out]; rfl, below_of ch3⟩
    · have h0b : (((sorts B R).length : Int) == 0) = false := by simpa using h0
      have H0 : Hid (¬ (sorts B R).length = 0) := h0
      clear h0
      cases hany : (anyB (sorts B R).length fun i => decide (s = (sorts B R).getD i 0)) with
      | false =>
        have HA : Hid _ := Lib.hid hany
        clear hany
        go_enter Try.func28, Try.ntmps28
        go_wp2_with (first
          | (go_at_call 18; refine (mCheck_any N _ _ B R _ (H.out.in_alloc _) (RowsAt.chain HF.out hN (chain0 _ _))).mono ?_; rintro e w1 ⟨rfl, hb1⟩; have ch1 := chain (chain0 _ _) hb1; have q0 := box_cell ch1 0 rfl; have q1 := box_cell ch1 1 rfl; have q2 := box_cell ch1 2 rfl; have q3 := box_cell ch1 3 rfl; clear hb1)
          | (go_at_call 66; refine (misSort_any N _ B s _ (H.out.chain (by assumption))).mono ?_; rintro e w2 ⟨rfl, hb2⟩; rw [HIN.out]; have ch2 := chain (by assumption) hb2; have q0 := box_cell ch2 0 rfl; have q1 := box_cell ch2 1 rfl; have q2 := box_cell ch2 2 rfl; have q3 := box_cell ch2 3 rfl; clear hb2)
          | (go_at_call 71; refine (sorts_any N _ B R _ (box_of (H.out.chain ch2) (RowsAt.chain HF.out hN ch2)) HG.out).mono ?_; rintro e w3 ⟨u, rfl, ho, hb3⟩; have HS : Hid _ := Lib.hid (ho.ints (by omega)); obtain ⟨_, _, rfl⟩ := ho.form; have ch3 := chain ch2 hb3)
          | (go_at_call 73; refine (contains_any _ _ _ _ _ _ HS.out).mono ?_; rintro e w4 ⟨rfl, rfl⟩; rw [HA.out]))
        go_ret2
        exact ⟨by rw [eIs, if_neg HC.out, if_neg HI2.out, if_neg H0.out, if_pos HA.out]; rfl, below_of ch3⟩
      | true =>
        have HA : Hid _ := Lib.hid hany
        have HA2 : Hid (¬ (anyB (sorts B R).length fun i => decide (s = (sorts B R).getD i 0)) = false) := by unfold Hid; rw [hany]; simp
        clear hany
        by_cases h1 : (sorts B R).length = 1
        · have h1b : (((sorts B R).length : Int) == 1) = true := by simp [h1]
          have H1 : Hid ((sorts B R).length = 1) := h1
          clear h1
          go_enter Try.func28, Try.ntmps28
          go_wp2_with (first
            | (go_at_call 18; refine (mCheck_any N _ _ B R _ (H.out.in_alloc _) (RowsAt.chain HF.out hN (chain0 _ _))).mono ?_; rintro e w1 ⟨rfl, hb1⟩; have ch1 := chain (chain0 _ _) hb1; have q0 := box_cell ch1 0 rfl; have q1 := box_cell ch1 1 rfl; have q2 := box_cell ch1 2 rfl; have q3 := box_cell ch1 3 rfl; clear hb1)
            | (go_at_call 66; refine (misSort_any N _ B s _ (H.out.chain (by assumption))).mono ?_; rintro e w2 ⟨rfl, hb2⟩; rw [HIN.out]; have ch2 := chain (by assumption) hb2; have q0 := box_cell ch2 0 rfl; have q1 := box_cell ch2 1 rfl; have q2 := box_cell ch2 2 rfl; have q3 := box_cell ch2 3 rfl; clear hb2)
            | (go_at_call 71; refine (sorts_any N _ B R _ (box_of (H.out.chain ch2) (RowsAt.chain HF.out hN ch2)) HG.out).mono ?_; rintro e w3 ⟨u, rfl, ho, hb3⟩; have HS : Hid _ := Lib.hid (ho.ints (by omega)); obtain ⟨_, _, rfl⟩ := ho.form; have ch3 := chain ch2 hb3)
            | (go_at_call 73; refine (contains_any _ _ _ _ _ _ HS.out).mono ?_; rintro e w4 ⟨rfl, rfl⟩; rw [HA.out]))
          go_ret2
          exact ⟨by rw [eIs, if_neg HC.out, if_neg HI2.out, if_neg H0.out, if_neg HA2.out, if_pos H1.out]; rfl, below_of ch3⟩
        · have h1b : (((sorts B R).length : Int) == 1) = false := by simp; omega
          have H1 : Hid (¬ (sorts B R).length = 1) := h1
          clear h1
          go_enter Try.func28, Try.ntmps28
          go_wp2_with (first
            | (go_at_call 18; refine (mCheck_any N _ _ B R _ (H.out.in_alloc _) (RowsAt.chain HF.out hN (chain0 _ _))).mono ?_; rintro e w1 ⟨rfl, hb1⟩; have ch1 := chain (chain0 _ _) hb1; have q0 := box_cell ch1 0 rfl; have q1 := box_cell ch1 1 rfl; have q2 := box_cell ch1 2 rfl; have q3 := box_cell ch1 3 rfl; clear hb1)
            | (go_at_call 66; refine (misSort_any N _ B s _ (H.out.chain (by assumption))).mono ?_; rintro e w2 ⟨rfl, hb2⟩; rw [HIN.out]; have ch2 := chain (by assumption) hb2; have q0 := box_cell ch2 0 rfl; have q1 := box_cell ch2 1 rfl; have q2 := box_cell ch2 2 rfl; have q3 := box_cell ch2 3 rfl; clear hb2)
            | (go_at_call 71; refine (sorts_any N _ B R _ (box_of (H.out.chain ch2) (RowsAt.chain HF.out hN ch2)) HG.out).mono ?_; rintro e w3 ⟨u, rfl, ho, hb3⟩; have HS : Hid _ := Lib.hid (ho.ints (by omega)); obtain ⟨_, _, rfl⟩ := ho.form; have ch3 := chain ch2 hb3)
            | (go_at_call 73; refine (contains_any _ _ _ _ _ _ HS.out).mono ?_; rintro e w4 ⟨rfl, rfl⟩; rw [HA.out]))
          go_ret2
          exact ⟨by rw [eIs, if_neg HC.out, if_neg HI2.out, if_neg H0.out, if_neg HA2.out, if_neg H1.out]; rfl, below_of ch3⟩

def eValues (B : Bk) (R : Fr) (f m : Int) : List Int × Int :=
  if chk B R ≠ 0 then ([], chk B R) else if inPlace B R f m = false then ([], 1) else if (vals B R f.toNat m.toNat).length = 0 then ([], 3) else (vals B R f.toNat m.toNat, 0)

theorem in_place {B : Bk} {R : Fr} {f m : Int} (h : inPlace B R f m = true) : ∃ a b : Nat, f = a ∧ m = b ∧ a < R.n ∧ b < B.nv := by
  simp only [inPlace, Bool.and_eq_true, decide_eq_true_eq] at h
  exact ⟨f.toNat, m.toNat, by omega, by omega, by omega, by omega⟩

set_option maxHeartbeats 4000000 in
theorem mValues_any (N : Nat) (v u : Value) (B : Bk) (R : Fr) (f m : Int) (w : World) (h : BookAt N w v B) (hf : FruitsAt N w u R) :
    Calls Try.prog 31 #[v, u, .agg #[.int .i64 f, .int .i64 m]] w (GivesIE w.heap.size w (eValues B R f m).1 (eValues B R f m).2) := by
  have H : Hid (BookAt N w v B) := h
  have HF : Hid (FruitsAt N w u R) := hf
  obtain ⟨hN, a1, c1, a2, c2, a3, c3, rfl, h1, h2, h3⟩ := h
  obtain ⟨af, cf, rfl, hnf, _⟩ := hf
  clear h1 h2 h3
  by_cases hc : chk B R = 0
  case neg =>
    have hcb : (chk B R != 0) = true := by simp [hc]
    have HC : Hid (¬ chk B R = 0) := hc
    clear hc
    go_enter Try.func31, Try.ntmps31
    go_wp2_with (go_at_call 18; refine (mCheck_any N _ _ B R _ ((H.out.in_alloc _).in_alloc _) (RowsAt.mono HF.out (below2 hN _ _) (Nat.le_refl _))).mono ?_; rintro e w1 ⟨rfl, hb1⟩; have ch1 := chain2 hb1; have q0 := box_cell (ch_book ch1) 0 rfl; have q1 := box_cell (ch_book ch1) 1 rfl; have q2 := box_cell (ch_book ch1) 2 rfl; have q3 := box_cell (ch_book ch1) 3 rfl; have p0 := place_cell ch1 0 rfl; have p1 := place_cell ch1 1 rfl; clear hb1)
    go_ret2
    rw [eValues, if_pos HC.out]
    exact ⟨_, rfl, own_nil _ _, below_of (ch_book ch1)⟩
  have HG : Hid (Good B R) := chk_good hc
  have hcb : (chk B R != 0) = false := by simp [hc]
  have HC : Hid (¬ chk B R ≠ 0) := by unfold Hid; simp [hc]
  clear hc
  cases hin : inPlace B R f m with
  | false =>
    have HIN : Hid _ := Lib.hid hin
    clear hin
    go_enter Try.func31, Try.ntmps31
    go_wp2_with (first
      | (go_at_call 18; refine (mCheck_any N _ _ B R _ ((H.out.in_alloc _).in_alloc _) (RowsAt.mono HF.out (below2 hN _ _) (Nat.le_refl _))).mono ?_; rintro e w1 ⟨rfl, hb1⟩; have ch1 := chain2 hb1; have q0 := box_cell (ch_book ch1) 0 rfl; have q1 := box_cell (ch_book ch1) 1 rfl; have q2 := box_cell (ch_book ch1) 2 rfl; have q3 := box_cell (ch_book ch1) 3 rfl; have p0 := place_cell ch1 0 rfl; have p1 := place_cell ch1 1 rfl; clear hb1)
      | (go_at_call 75; refine (misPlace_any N _ _ B R f m _ (H.out.chain (ch_book ch1)) (RowsAt.chain HF.out hN (ch_book ch1))).mono ?_; rintro e w2 ⟨rfl, hb2⟩; rw [HIN.out]; have ch2 := chain2s ch1 hb2))
    go_ret2
    rw [eValues, if_neg HC.out, if_pos HIN.out]
    exact ⟨_, rfl, own_nil _ _, below_of (ch_book ch2)⟩
  | true =>
    obtain ⟨a, b, rfl, rfl, ha, hb⟩ := in_place hin
    have HIN : Hid _ := Lib.hid hin
    have HI2 : Hid (¬ inPlace B R a b = false) := by unfold Hid; rw [hin]; simp
    clear hin
    by_cases h0 : (vals B R a b).length = 0
    · have h0b : (((vals B R a b).length : Int) == 0) = true := by simpa using h0
      have H0 : Hid ((vals B R a b).length = 0) := h0
      clear h0
      go_enter Try.func31, Try.ntmps31
      go_wp2_with (first
        | (go_at_call 18; refine (mCheck_any N _ _ B R _ ((H.out.in_alloc _).in_alloc _) (RowsAt.mono HF.out (below2 hN _ _) (Nat.le_refl _))).mono ?_; rintro e w1 ⟨rfl, hb1⟩; have ch1 := chain2 hb1; have q0 := box_cell (ch_book ch1) 0 rfl; have q1 := box_cell (ch_book ch1) 1 rfl; have q2 := box_cell (ch_book ch1) 2 rfl; have q3 := box_cell (ch_book ch1) 3 rfl; have p0 := place_cell ch1 0 rfl; have p1 := place_cell ch1 1 rfl; clear hb1)
        | (go_at_call 75; refine (misPlace_any N _ _ B R a b _ (H.out.chain (ch_book ch1)) (RowsAt.chain HF.out hN (ch_book ch1))).mono ?_; rintro e w2 ⟨rfl, hb2⟩; rw [HIN.out]; have ch2 := chain2s ch1 hb2; have q0 := box_cell (ch_book ch2) 0 rfl; have q1 := box_cell (ch_book ch2) 1 rfl; have q2 := box_cell (ch_book ch2) 2 rfl; have q3 := box_cell (ch_book ch2) 3 rfl; have p0 := place_cell ch2 0 rfl; have p1 := place_cell ch2 1 rfl; clear hb2)
        | (go_at_call 76; refine (values_any N _ B R a b _ (box_of (H.out.chain (ch_book ch2)) (RowsAt.chain HF.out hN (ch_book ch2))) HG.out hb).mono ?_; rintro e w3 ⟨u, rfl, ho, hb3⟩; obtain ⟨_, _, rfl⟩ := ho.form; have ch3 := chain2s ch2 hb3))
      go_ret2
      rw [eValues, if_neg HC.out, if_neg HI2.out, if_pos (by exact H0.out)]
      exact ⟨_, rfl, own_nil _ _, below_of (ch_book ch3)⟩
    · have h0b : (((vals B R a b).length : Int) == 0) = false := by simpa using h0
      have H0 : Hid (¬ (vals B R a b).length = 0) := h0
      clear h0
      go_enter Try.func31, Try.ntmps31
      go_wp2_with (first
        | (go_at_call 18; refine (mCheck_any N _ _ B R _ ((H.out.in_alloc _).in_alloc _) (RowsAt.mono HF.out (below2 hN _ _) (Nat.le_refl _))).mono ?_; rintro e w1 ⟨rfl, hb1⟩; have ch1 := chain2 hb1; have q0 := box_cell (ch_book ch1) 0 rfl; have q1 := box_cell (ch_book ch1) 1 rfl; have q2 := box_cell (ch_book ch1) 2 rfl; have q3 := box_cell (ch_book ch1) 3 rfl; have p0 := place_cell ch1 0 rfl; have p1 := place_cell ch1 1 rfl; clear hb1)
        | (go_at_call 75; refine (misPlace_any N _ _ B R a b _ (H.out.chain (ch_book ch1)) (RowsAt.chain HF.out hN (ch_book ch1))).mono ?_; rintro e w2 ⟨rfl, hb2⟩; rw [HIN.out]; have ch2 := chain2s ch1 hb2; have q0 := box_cell (ch_book ch2) 0 rfl; have q1 := box_cell (ch_book ch2) 1 rfl; have q2 := box_cell (ch_book ch2) 2 rfl; have q3 := box_cell (ch_book ch2) 3 rfl; have p0 := place_cell ch2 0 rfl; have p1 := place_cell ch2 1 rfl; clear hb2)
        | (go_at_call 76; refine (values_any N _ B R a b _ (box_of (H.out.chain (ch_book ch2)) (RowsAt.chain HF.out hN (ch_book ch2))) HG.out hb).mono ?_; rintro e w3 ⟨u, rfl, ho, hb3⟩; obtain ⟨_, _, rfl⟩ := ho.form; have ch3 := chain2s ch2 hb3))
      go_ret2
      rw [eValues, if_neg HC.out, if_neg HI2.out, if_neg (by exact H0.out)]
      exact ⟨_, rfl, own_mono ho (Nat.le_of_lt (size_of (ch_book ch2))), below_of (ch_book ch3)⟩

end Go.Proofs.Ytmmadlpkolcgkaa
