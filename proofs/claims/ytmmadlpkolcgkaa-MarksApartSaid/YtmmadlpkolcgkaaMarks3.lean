import Derived.Test.YtmmadlpkolcgkaaMarks2
namespace Go.Proofs.Ytmmadlpkolcgkaa
open Go.RowKit

def eMistakes (B : Bk) (R : Fr) : List (Nat × Nat) × Int :=
  if chk B R ≠ 0 then ([], chk B R) else if (sorts B R).length = 0 then ([], 3) else (mistakes B R, 0)
def GivesPE (N : Nat) (w : World) (l : List (Nat × Nat)) (er : Int) (e : Ending) (w' : World) : Prop := ∃ v, e = .returned (.tuple #[v, .int .i64 er]) ∧ OwnP N w' v l ∧ Below N w w'
theorem ownP_nil (N : Nat) (w : World) : OwnP N w (.slice none 0 0) [] := World.ownsRow_nil _ _ _ _

set_option maxHeartbeats 4000000 in
theorem mMistakes_any (N : Nat) (v u : Value) (B : Bk) (R : Fr) (w : World) (h : BookAt N w v B) (hf : FruitsAt N w u R) :
    Calls Try.prog 33 #[v, u] w (GivesPE w.heap.size w (eMistakes B R).1 (eMistakes B R).2) := by
  have H : Hid (BookAt N w v B) := h
  have HF : Hid (FruitsAt N w u R) := hf
  obtain ⟨hN, a1, c1, a2, c2, a3, c3, rfl, h1, h2, h3⟩ := h
  obtain ⟨af, cf, rfl, hnf, _⟩ := hf
  clear h1 h2 h3
  by_cases hc : chk B R = 0
  case neg =>
    have hcb : (chk B R != 0) = true := by simp [hc]
    have HC : Hid (¬ chk B R = 0) := hc
    clear hc
    go_enter Try.func33, Try.ntmps33
    go_wp2_with (go_at_call 18; refine (mCheck_any N _ _ B R _ (H.out.in_alloc _) (RowsAt.chain HF.out hN (chain0 _ _))).mono ?_; rintro e w1 ⟨rfl, hb1⟩; have ch1 := chain (chain0 _ _) hb1; have q0 := box_cell ch1 0 rfl; have q1 := box_cell ch1 1 rfl; have q2 := box_cell ch1 2 rfl; have q3 := box_cell ch1 3 rfl; clear hb1)
    go_ret2
    rw [eMistakes, if_pos HC.out]
    exact ⟨_, rfl, ownP_nil _ _, below_of ch1⟩
  have HG : Hid (Good B R) := chk_good hc
  have hcb : (chk B R != 0) = false := by simp [hc]
  have HC : Hid (¬ chk B R ≠ 0) := by unfold Hid; simp [hc]
  clear hc
  by_cases h0 : (sorts B R).length = 0
  · have h0b : (((sorts B R).length : Int) == 0) = true := by simpa using h0
    have H0 : Hid ((sorts B R).length = 0) := h0
    clear h0
    go_enter Try.func33, Try.ntmps33
    go_wp2_with (first
      | (go_at_call 18; refine (mCheck_any N _ _ B R _ (H.out.in_alloc _) (RowsAt.chain HF.out hN (chain0 _ _))).mono ?_; rintro e w1 ⟨rfl, hb1⟩; have ch1 := chain (chain0 _ _) hb1; have q0 := box_cell ch1 0 rfl; have q1 := box_cell ch1 1 rfl; have q2 := box_cell ch1 2 rfl; have q3 := box_cell ch1 3 rfl; clear hb1)
      | (go_at_call 71; refine (sorts_any N _ B R _ ((box_of (H.out.chain ch1) (RowsAt.chain HF.out hN ch1)).in_alloc _) HG.out).mono ?_; rintro e w3 ⟨u, rfl, ho, hb3⟩; obtain ⟨_, _, rfl⟩ := ho.form; have ch3 := chain (chain_alloc ch1 _) hb3))
    go_ret2
    rw [eMistakes, if_neg HC.out, if_pos H0.out]
    exact ⟨_, rfl, ownP_nil _ _, below_of ch3⟩
  · have h0b : (((sorts B R).length : Int) == 0) = false := by simpa using h0
    have H0 : Hid (¬ (sorts B R).length = 0) := h0
    clear h0
    go_enter Try.func33, Try.ntmps33
    go_wp2_with (first
      | (go_at_call 18; refine (mCheck_any N _ _ B R _ (H.out.in_alloc _) (RowsAt.chain HF.out hN (chain0 _ _))).mono ?_; rintro e w1 ⟨rfl, hb1⟩; have ch1 := chain (chain0 _ _) hb1; have q0 := box_cell ch1 0 rfl; have q1 := box_cell ch1 1 rfl; have q2 := box_cell ch1 2 rfl; have q3 := box_cell ch1 3 rfl; clear hb1)
      | (go_at_call 71; refine (sorts_any N _ B R _ ((box_of (H.out.chain ch1) (RowsAt.chain HF.out hN ch1)).in_alloc _) HG.out).mono ?_; rintro e w3 ⟨u, rfl, ho, hb3⟩; obtain ⟨_, _, rfl⟩ := ho.form; have ch3 := chain (chain_alloc ch1 _) hb3; have k3 := chain (chain0 _ _) hb3; have q0 := box_cell k3 0 rfl; have q1 := box_cell k3 1 rfl; have q2 := box_cell k3 2 rfl; have q3 := box_cell k3 3 rfl; have q4 := box_cell k3 4 rfl)
      | (go_at_call 78; refine (mistakes_any N _ B R _ (box_of (H.out.chain ch3) (RowsAt.chain HF.out hN ch3)) HG.out).mono ?_; rintro e w4 ⟨u2, rfl, ho4, hb4⟩))
    go_ret2
    rw [eMistakes, if_neg HC.out, if_neg H0.out]
    exact ⟨_, rfl, own_mono ho4 (Nat.le_of_lt (size_of ch3)), below_of (chain ch3 hb4)⟩

def eNext (B : Bk) (R : Fr) (f : Int) : Int × Int :=
  if chk B R ≠ 0 then (0, chk B R) else if (decide (0 ≤ f) && decide (f < R.n)) = false then (0, 1) else if (sorts B R).length < 2 then (0, 3)
  else if (nx B R f.toNat B.nv).2.2 = false then (0, 3) else ((nx B R f.toNat B.nv).1, 0)

set_option maxHeartbeats 4000000 in
theorem mNext_any (N : Nat) (v u : Value) (B : Bk) (R : Fr) (f : Int) (w : World) (h : BookAt N w v B) (hf : FruitsAt N w u R) :
    Calls Try.prog 38 #[v, u, .int .i64 f] w fun e w' => e = .returned (.tuple #[.int .i64 (eNext B R f).1, .int .i64 (eNext B R f).2]) ∧ Below w.heap.size w w' := by
  have H : Hid (BookAt N w v B) := h
  have HF : Hid (FruitsAt N w u R) := hf
  obtain ⟨hN, a1, c1, a2, c2, a3, c3, rfl, h1, h2, h3⟩ := h
  obtain ⟨af, cf, rfl, hnf, _⟩ := hf
  clear h1 h2 h3
  by_cases hc : chk B R = 0
  case neg =>
    have hcb : (chk B R != 0) = true := by simp [hc]
    have HC : Hid (¬ chk B R = 0) := hc
    clear hc
    go_enter Try.func38, Try.ntmps38
    go_wp2_with (go_at_call 18; refine (mCheck_any N _ _ B R _ (H.out.in_alloc _) (RowsAt.chain HF.out hN (chain0 _ _))).mono ?_; rintro e w1 ⟨rfl, hb1⟩; have ch1 := chain (chain0 _ _) hb1; have q0 := box_cell ch1 0 rfl; have q1 := box_cell ch1 1 rfl; have q2 := box_cell ch1 2 rfl; have q3 := box_cell ch1 3 rfl; clear hb1)
    go_ret2
    exact ⟨by rw [eNext, if_pos HC.out]; rfl, below_of ch1⟩
  have HG : Hid (Good B R) := chk_good hc
  have hcb : (chk B R != 0) = false := by simp [hc]
  have HC : Hid (¬ chk B R ≠ 0) := by unfold Hid; simp [hc]
  clear hc
  cases hin : (decide (0 ≤ f) && decide (f < (R.n : Int))) with
  | false =>
    have HIN : Hid _ := Lib.hid hin
    clear hin
    go_enter Try.func38, Try.ntmps38
    go_wp2_with (first
      | (go_at_call 18; refine (mCheck_any N _ _ B R _ (H.out.in_alloc _) (RowsAt.chain HF.out hN (chain0 _ _))).mono ?_; rintro e w1 ⟨rfl, hb1⟩; have ch1 := chain (chain0 _ _) hb1; have q0 := box_cell ch1 0 rfl; have q1 := box_cell ch1 1 rfl; have q2 := box_cell ch1 2 rfl; have q3 := box_cell ch1 3 rfl; clear hb1)
      | (go_at_call 81; refine (mwithin_any _ _ _).mono ?_; rintro e w2 ⟨rfl, rfl⟩; rw [HIN.out]))
    go_ret2
    exact ⟨by rw [eNext, if_neg HC.out, if_pos HIN.out]; rfl, below_of ch1⟩
  | true =>
    obtain ⟨k, rfl, hk⟩ : ∃ k : Nat, f = k ∧ k < R.n := ⟨f.toNat, by simp at hin; omega, by simp at hin; omega⟩
    have HIN : Hid _ := Lib.hid hin
    have HI2 : Hid (¬ (decide (0 ≤ (k : Int)) && decide ((k : Int) < (R.n : Int))) = false) := by unfold Hid; rw [hin]; simp
    clear hin
    by_cases h0 : (sorts B R).length < 2
    · have h0b : ((sorts B R).length : Int) < 2 := by omega
      have H0 : Hid ((sorts B R).length < 2) := h0
      clear h0
      go_enter Try.func38, Try.ntmps38
      go_wp2_with (first
        | (go_at_call 18; refine (mCheck_any N _ _ B R _ (H.out.in_alloc _) (RowsAt.chain HF.out hN (chain0 _ _))).mono ?_; rintro e w1 ⟨rfl, hb1⟩; have ch1 := chain (chain0 _ _) hb1; have q0 := box_cell ch1 0 rfl; have q1 := box_cell ch1 1 rfl; have q2 := box_cell ch1 2 rfl; have q3 := box_cell ch1 3 rfl; clear hb1)
        | (go_at_call 81; refine (mwithin_any _ _ _).mono ?_; rintro e w2 ⟨rfl, rfl⟩; rw [HIN.out])
        | (go_at_call 71; refine (sorts_any N _ B R _ ((box_of (H.out.chain ch1) (RowsAt.chain HF.out hN ch1)).in_alloc _) HG.out).mono ?_; rintro e w3 ⟨u, rfl, ho, hb3⟩; obtain ⟨_, _, rfl⟩ := ho.form; have ch3 := chain (chain_alloc ch1 _) hb3))
      go_ret2
      exact ⟨by rw [eNext, if_neg HC.out, if_neg HI2.out, if_pos H0.out]; rfl, below_of ch3⟩
    · have h0b : 2 ≤ ((sorts B R).length : Int) := by omega
      have H0 : Hid (¬ (sorts B R).length < 2) := h0
      clear h0
      cases hfd : (nx B R k B.nv).2.2 with
      | false =>
        have HFD : Hid _ := Lib.hid hfd
        clear hfd
        go_enter Try.func38, Try.ntmps38
        go_wp2_with (first
          | (go_at_call 18; refine (mCheck_any N _ _ B R _ (H.out.in_alloc _) (RowsAt.chain HF.out hN (chain0 _ _))).mono ?_; rintro e w1 ⟨rfl, hb1⟩; have ch1 := chain (chain0 _ _) hb1; have q0 := box_cell ch1 0 rfl; have q1 := box_cell ch1 1 rfl; have q2 := box_cell ch1 2 rfl; have q3 := box_cell ch1 3 rfl; clear hb1)
          | (go_at_call 81; refine (mwithin_any _ _ _).mono ?_; rintro e w2 ⟨rfl, rfl⟩; rw [HIN.out])
          | (go_at_call 71; refine (sorts_any N _ B R _ ((box_of (H.out.chain ch1) (RowsAt.chain HF.out hN ch1)).in_alloc _) HG.out).mono ?_; rintro e w3 ⟨u, rfl, ho, hb3⟩; obtain ⟨_, _, rfl⟩ := ho.form; have ch3 := chain (chain_alloc ch1 _) hb3; have k3 := chain (chain0 _ _) hb3; have q0 := box_cell k3 0 rfl; have q1 := box_cell k3 1 rfl; have q2 := box_cell k3 2 rfl; have q3 := box_cell k3 3 rfl; have q4 := box_cell k3 4 rfl)
          | (go_at_call 82; refine (next_any N _ B R k _ (box_of (H.out.chain ch3) (RowsAt.chain HF.out hN ch3)) HG.out hk).mono ?_; rintro e w4 ⟨rfl, hb4⟩; rw [HFD.out]))
        go_ret2
        exact ⟨by rw [eNext, if_neg HC.out, if_neg HI2.out, if_neg H0.out, if_pos (by exact HFD.out)]; rfl, below_of (chain ch3 hb4)⟩
      | true =>
        have HFD : Hid _ := Lib.hid hfd
        have HF2 : Hid (¬ (nx B R k B.nv).2.2 = false) := by unfold Hid; rw [hfd]; simp
        clear hfd
        go_enter Try.func38, Try.ntmps38
        go_wp2_with (first
          | (go_at_call 18; refine (mCheck_any N _ _ B R _ (H.out.in_alloc _) (RowsAt.chain HF.out hN (chain0 _ _))).mono ?_; rintro e w1 ⟨rfl, hb1⟩; have ch1 := chain (chain0 _ _) hb1; have q0 := box_cell ch1 0 rfl; have q1 := box_cell ch1 1 rfl; have q2 := box_cell ch1 2 rfl; have q3 := box_cell ch1 3 rfl; clear hb1)
          | (go_at_call 81; refine (mwithin_any _ _ _).mono ?_; rintro e w2 ⟨rfl, rfl⟩; rw [HIN.out])
          | (go_at_call 71; refine (sorts_any N _ B R _ ((box_of (H.out.chain ch1) (RowsAt.chain HF.out hN ch1)).in_alloc _) HG.out).mono ?_; rintro e w3 ⟨u, rfl, ho, hb3⟩; obtain ⟨_, _, rfl⟩ := ho.form; have ch3 := chain (chain_alloc ch1 _) hb3; have k3 := chain (chain0 _ _) hb3; have q0 := box_cell k3 0 rfl; have q1 := box_cell k3 1 rfl; have q2 := box_cell k3 2 rfl; have q3 := box_cell k3 3 rfl; have q4 := box_cell k3 4 rfl)
          | (go_at_call 82; refine (next_any N _ B R k _ (box_of (H.out.chain ch3) (RowsAt.chain HF.out hN ch3)) HG.out hk).mono ?_; rintro e w4 ⟨rfl, hb4⟩; rw [HFD.out]))
        go_ret2
        exact ⟨by rw [eNext, if_neg HC.out, if_neg HI2.out, if_neg H0.out, if_neg (by exact HF2.out)]; rfl, below_of (chain ch3 hb4)⟩

end Go.Proofs.Ytmmadlpkolcgkaa
