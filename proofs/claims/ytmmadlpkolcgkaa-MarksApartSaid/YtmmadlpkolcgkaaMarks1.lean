import Derived.Test.YtmmadlpkolcgkaaBox9
import Derived.Test.YtmmadlpkolcgkaaBox8
namespace Go.Proofs.Ytmmadlpkolcgkaa
open Go.RowKit

theorem box_of {N : Nat} {w : World} {a1 a2 a3 af : Option Addr} {c1 c2 c3 cf : Nat} {B : Bk} {R : Fr} (h : BookAt N w (.agg #[.slice a1 B.nv c1, .slice a2 B.nf c2, .slice a3 B.ns c3, .int .i64 B.wr]) B) (hf : FruitsAt N w (.slice af R.n cf) R) :
    BoxAt N w (.agg #[.slice a1 B.nv c1, .slice a2 B.nf c2, .slice a3 B.ns c3, .int .i64 B.wr, .slice af R.n cf]) B R := by
  obtain ⟨hN, _, _, _, _, _, _, e, h1, h2, h3⟩ := h
  cases e
  exact ⟨hN, _, _, _, _, _, _, _, _, rfl, h1, h2, h3, hf⟩

theorem chk_good {B : Bk} {R : Fr} (h : chk B R = 0) : Good B R := by
  unfold chk at h
  split at h
  · rename_i hb
    split at h
    · rename_i hr; exact good_of hb hr
    · simp at h
  · simp at h

def eWrong (B : Bk) (R : Fr) (s : Int) : Int × Int := if chk B R ≠ 0 then (0, chk B R) else if (decide (0 ≤ s) && decide (s < B.ns)) = true then (wrong B R s.toNat, 0) else (0, 1)
def eFewest (B : Bk) (R : Fr) : Int × Int := if chk B R ≠ 0 then (0, chk B R) else if B.ns = 0 then (0, 3) else (fewest B R, 0)
def eSorts (B : Bk) (R : Fr) : List Int × Int := if chk B R ≠ 0 then ([], chk B R) else if (sorts B R).length = 0 then ([], 3) else (sorts B R, 0)

/-- a call that makes a list, and an error -/
def GivesIE (N : Nat) (w : World) (l : List Int) (er : Int) (e : Ending) (w' : World) : Prop := ∃ v, e = .returned (.tuple #[v, .int .i64 er]) ∧ OwnI N w' v l ∧ Below N w w'

theorem own_nil (N : Nat) (w : World) : OwnI N w (.slice none 0 0) [] := World.ownsRow_nil _ _ _ _

set_option maxHeartbeats 2000000 in
theorem mWrong_any (N : Nat) (v u : Value) (B : Bk) (R : Fr) (s : Int) (w : World) (h : BookAt N w v B) (hf : FruitsAt N w u R) :
    Calls Try.prog 20 #[v, u, .int .i64 s] w fun e w' => e = .returned (.tuple #[.int .i64 (eWrong B R s).1, .int .i64 (eWrong B R s).2]) ∧ Below w.heap.size w w' := by
  have H : Hid (BookAt N w v B) := h
  have HF : Hid (FruitsAt N w u R) := hf
  obtain ⟨hN, a1, c1, a2, c2, a3, c3, rfl, h1, h2, h3⟩ := h
  obtain ⟨af, cf, rfl, hnf, _⟩ := hf
  clear h1 h2 h3
  by_cases hc : chk B R = 0
  case neg =>
    have hcb : (chk B R != 0) = true := by simp [hc]
    have HC : Hid (¬ chk B R = 0) := hc
    clear hc
    go_enter Try.func20, Try.ntmps20
    go_wp2_with (go_at_call 18; refine (mCheck_any N _ _ B R _ (H.out.in_alloc _) (RowsAt.chain HF.out hN (chain0 _ _))).mono ?_; rintro e w1 ⟨rfl, hb1⟩; have ch1 := chain (chain0 _ _) hb1; clear hb1)
    go_ret2
    exact ⟨by rw [eWrong, if_pos HC.out]; rfl, below_of ch1⟩
  have HG : Hid (Good B R) := chk_good hc
  have hcb : (chk B R != 0) = false := by simp [hc]
  have HC : Hid (chk B R = 0) := hc
  clear hc
  cases hin : (decide (0 ≤ s) && decide (s < (B.ns : Int))) with
  | false =>
    have HIN : Hid _ := Lib.hid hin
    clear hin
    go_enter Try.func20, Try.ntmps20
    go_wp2_with (first
      | (go_at_call 18; refine (mCheck_any N _ _ B R _ (H.out.in_alloc _) (RowsAt.chain HF.out hN (chain0 _ _))).mono ?_; rintro e w1 ⟨rfl, hb1⟩; have ch1 := chain (chain0 _ _) hb1; have q0 := box_cell ch1 0 rfl; have q1 := box_cell ch1 1 rfl; have q2 := box_cell ch1 2 rfl; have q3 := box_cell ch1 3 rfl; clear hb1)
      | (go_at_call 66; refine (misSort_any N _ B s _ (H.out.chain (by assumption))).mono ?_; rintro e w2 ⟨rfl, hb2⟩; rw [HIN.out]; have ch2 := chain (by assumption) hb2; clear hb2))
    go_ret2
    exact ⟨by rw [eWrong, if_neg (by simp [HC.out]), if_neg (by rw [HIN.out]; simp)]; rfl, below_of ch2⟩
  | true =>
    obtain ⟨k, rfl, hk⟩ : ∃ k : Nat, s = k ∧ k < B.ns := ⟨s.toNat, by simp at hin; omega, by simp at hin; omega⟩
    have HIN : Hid _ := Lib.hid hin
    clear hin
    go_enter Try.func20, Try.ntmps20
    go_wp2_with (first
      | (go_at_call 18; refine (mCheck_any N _ _ B R _ (H.out.in_alloc _) (RowsAt.chain HF.out hN (chain0 _ _))).mono ?_; rintro e w1 ⟨rfl, hb1⟩; have ch1 := chain (chain0 _ _) hb1; have q0 := box_cell ch1 0 rfl; have q1 := box_cell ch1 1 rfl; have q2 := box_cell ch1 2 rfl; have q3 := box_cell ch1 3 rfl; clear hb1)
      | (go_at_call 66; refine (misSort_any N _ B k _ (H.out.chain (by assumption))).mono ?_; rintro e w2 ⟨rfl, hb2⟩; rw [HIN.out]; have ch2 := chain (by assumption) hb2; have q0 := box_cell ch2 0 rfl; have q1 := box_cell ch2 1 rfl; have q2 := box_cell ch2 2 rfl; have q3 := box_cell ch2 3 rfl; clear hb2)
      | (go_at_call 67; refine (wrong_any N _ B R k _ (box_of (H.out.chain ch2) (RowsAt.chain HF.out hN ch2)) HG.out hk).mono ?_; rintro e w3 ⟨rfl, hb3⟩; have ch3 := chain ch2 hb3))
    go_ret2
    exact ⟨by rw [eWrong, if_neg (by simp [HC.out]), if_pos HIN.out]; rfl, below_of ch3⟩

set_option maxHeartbeats 2000000 in
theorem mFewest_any (N : Nat) (v u : Value) (B : Bk) (R : Fr) (w : World) (h : BookAt N w v B) (hf : FruitsAt N w u R) :
    Calls Try.prog 22 #[v, u] w fun e w' => e = .returned (.tuple #[.int .i64 (eFewest B R).1, .int .i64 (eFewest B R).2]) ∧ Below w.heap.size w w' := by
  have H : Hid (BookAt N w v B) := h
  have HF : Hid (FruitsAt N w u R) := hf
  obtain ⟨hN, a1, c1, a2, c2, a3, c3, rfl, h1, h2, h3⟩ := h
  obtain ⟨af, cf, rfl, hnf, _⟩ := hf
  clear h1 h2 h3
  by_cases hc : chk B R = 0
  case neg =>
    have hcb : (chk B R != 0) = true := by simp [hc]
    have HC : Hid (¬ chk B R = 0) := hc
    clear hc
    go_enter Try.func22, Try.ntmps22
    go_wp2_with (go_at_call 18; refine (mCheck_any N _ _ B R _ (H.out.in_alloc _) (RowsAt.chain HF.out hN (chain0 _ _))).mono ?_; rintro e w1 ⟨rfl, hb1⟩; have ch1 := chain (chain0 _ _) hb1; clear hb1)
    go_ret2
    exact ⟨by rw [eFewest, if_pos HC.out]; rfl, below_of ch1⟩
  have HG : Hid (Good B R) := chk_good hc
  have hcb : (chk B R != 0) = false := by simp [hc]
  have HC : Hid (chk B R = 0) := hc
  clear hc
  by_cases h0 : B.ns = 0
  · have h0b : ((B.ns : Int) == 0) = true := by simp [h0]
    have H0 : Hid (B.ns = 0) := h0
    clear h0
    go_enter Try.func22, Try.ntmps22
    go_wp2_with (first
      | (go_at_call 18; refine (mCheck_any N _ _ B R _ (H.out.in_alloc _) (RowsAt.chain HF.out hN (chain0 _ _))).mono ?_; rintro e w1 ⟨rfl, hb1⟩; have ch1 := chain (chain0 _ _) hb1; have q2 := box_cell ch1 2 rfl; clear hb1))
    go_ret2
    exact ⟨by rw [eFewest, if_neg (by simp [HC.out]), if_pos H0.out]; rfl, below_of ch1⟩
  · have h0b : ((B.ns : Int) == 0) = false := by simp [h0]
    have H0 : Hid (¬ B.ns = 0) := h0
    clear h0
    go_enter Try.func22, Try.ntmps22
    go_wp2_with (first
      | (go_at_call 18; refine (mCheck_any N _ _ B R _ (H.out.in_alloc _) (RowsAt.chain HF.out hN (chain0 _ _))).mono ?_; rintro e w1 ⟨rfl, hb1⟩; have ch1 := chain (chain0 _ _) hb1; have q0 := box_cell ch1 0 rfl; have q1 := box_cell ch1 1 rfl; have q2 := box_cell ch1 2 rfl; have q3 := box_cell ch1 3 rfl; clear hb1)
      | (go_at_call 70; refine (fewest_any N _ B R _ (box_of (H.out.chain ch1) (RowsAt.chain HF.out hN ch1)) HG.out (Nat.pos_of_ne_zero H0.out)).mono ?_; rintro e w3 ⟨rfl, hb3⟩; have ch3 := chain ch1 hb3))
    go_ret2
    exact ⟨by rw [eFewest, if_neg (by simp [HC.out]), if_neg H0.out]; rfl, below_of ch3⟩

set_option maxHeartbeats 2000000 in
theorem mSorts_any (N : Nat) (v u : Value) (B : Bk) (R : Fr) (w : World) (h : BookAt N w v B) (hf : FruitsAt N w u R) :
    Calls Try.prog 26 #[v, u] w (GivesIE w.heap.size w (eSorts B R).1 (eSorts B R).2) := by
  have H : Hid (BookAt N w v B) := h
  have HF : Hid (FruitsAt N w u R) := hf
  obtain ⟨hN, a1, c1, a2, c2, a3, c3, rfl, h1, h2, h3⟩ := h
  obtain ⟨af, cf, rfl, hnf, _⟩ := hf
  clear h1 h2 h3
  by_cases hc : chk B R = 0
  case neg =>
    have hcb : (chk B R != 0) = true := by simp [hc]
    have HC : Hid (¬ chk B R = 0) := hc
    clear hc
    go_enter Try.func26, Try.ntmps26
    go_wp2_with (go_at_call 18; refine (mCheck_any N _ _ B R _ (H.out.in_alloc _) (RowsAt.chain HF.out hN (chain0 _ _))).mono ?_; rintro e w1 ⟨rfl, hb1⟩; have ch1 := chain (chain0 _ _) hb1; clear hb1)
    go_ret2
    rw [eSorts, if_pos HC.out]
    exact ⟨_, rfl, own_nil _ _, below_of ch1⟩
  have HG : Hid (Good B R) := chk_good hc
  have hcb : (chk B R != 0) = false := by simp [hc]
  have HC : Hid (chk B R = 0) := hc
  clear hc
  by_cases h0 : (sorts B R).length = 0
  · have h0b : (((sorts B R).length : Int) == 0) = true := by simpa using h0
    have H0 : Hid ((sorts B R).length = 0) := h0
    clear h0
    go_enter Try.func26, Try.ntmps26
    go_wp2_with (first
      | (go_at_call 18; refine (mCheck_any N _ _ B R _ (H.out.in_alloc _) (RowsAt.chain HF.out hN (chain0 _ _))).mono ?_; rintro e w1 ⟨rfl, hb1⟩; have ch1 := chain (chain0 _ _) hb1; have q0 := box_cell ch1 0 rfl; have q1 := box_cell ch1 1 rfl; have q2 := box_cell ch1 2 rfl; have q3 := box_cell ch1 3 rfl; clear hb1)
      | (go_at_call 71; refine (sorts_any N _ B R _ (box_of (H.out.chain ch1) (RowsAt.chain HF.out hN ch1)) HG.out).mono ?_; rintro e w3 ⟨u, rfl, ho, hb3⟩; obtain ⟨_, _, rfl⟩ := ho.form; have ch3 := chain ch1 hb3))
    go_ret2
    rw [eSorts, if_neg (by simp [HC.out]), if_pos H0.out]
    exact ⟨_, rfl, own_nil _ _, below_of ch3⟩
  · have h0b : (((sorts B R).length : Int) == 0) = false := by simpa using h0
    have H0 : Hid (¬ (sorts B R).length = 0) := h0
    clear h0
    go_enter Try.func26, Try.ntmps26
    go_wp2_with (first
      | (go_at_call 18; refine (mCheck_any N _ _ B R _ (H.out.in_alloc _) (RowsAt.chain HF.out hN (chain0 _ _))).mono ?_; rintro e w1 ⟨rfl, hb1⟩; have ch1 := chain (chain0 _ _) hb1; have q0 := box_cell ch1 0 rfl; have q1 := box_cell ch1 1 rfl; have q2 := box_cell ch1 2 rfl; have q3 := box_cell ch1 3 rfl; clear hb1)
      | (go_at_call 71; refine (sorts_any N _ B R _ (box_of (H.out.chain ch1) (RowsAt.chain HF.out hN ch1)) HG.out).mono ?_; rintro e w3 ⟨u, rfl, ho, hb3⟩; obtain ⟨_, _, rfl⟩ := ho.form; have ch3 := chain ch1 hb3))
    go_ret2
    rw [eSorts, if_neg (by simp [HC.out]), if_neg H0.out]
    exact ⟨_, rfl, own_mono ho (by have := size_of ch1; omega), below_of ch3⟩

end Go.Proofs.Ytmmadlpkolcgkaa
