/-
  Marks: contracts of the functions that its theorems name.
-/
import Derived.Test.YtopajgnemeodeaaBoxB
namespace Go.Proofs.Ytopajgnemeodeaa
open Go.RowKit

theorem box_of {N : Nat} {w : World} {a1 a2 a3 af : Option Addr} {c1 c2 c3 cf : Nat} {B : Bk} {R : Fr} (h : BookAt N w (.agg #[.slice a1 B.nv c1, .slice a2 B.nf c2, .slice a3 B.ns c3, .int .i64 B.wr]) B) (hf : FruitsAt N w (.slice af R.n cf) R) :
    BoxAt N w (.agg #[.slice a1 B.nv c1, .slice a2 B.nf c2, .slice a3 B.ns c3, .int .i64 B.wr, .slice af R.n cf]) B R := by
  obtain ⟨hN, _, _, _, _, _, _, e, h1, h2, h3⟩ := h
  cases e
  exact ⟨hN, _, _, _, _, _, _, _, _, rfl, h1, h2, h3, hf⟩

theorem chk_good {B : Bk} {R : Fr} (h : chk B R = 0) : Good B R := by
  unfold chk at h
  split at h
  · rename_i hb
    split at h
    · rename_i hr; exact good_of hb hr
    · simp at h
  · simp at h

def eWrong (B : Bk) (R : Fr) (s : Int) : Int × Int := if chk B R ≠ 0 then (0, chk B R) else if (decide (0 ≤ s) && decide (s < B.ns)) = true then (wrong B R s.toNat, 0) else (0, 1)
def eFewest (B : Bk) (R : Fr) : Int × Int := if chk B R ≠ 0 then (0, chk B R) else if B.ns = 0 then (0, 3) else (fewest B R, 0)
def eSorts (B : Bk) (R : Fr) : List Int × Int := if chk B R ≠ 0 then ([], chk B R) else if (sorts B R).length = 0 then ([], 3) else (sorts B R, 0)

/-- a call that makes a list, and an error -/
def GivesIE (N : Nat) (w : World) (l : List Int) (er : Int) (e : Ending) (w' : World) : Prop := ∃ v, e = .returned (.tuple #[v, .int .i64 er]) ∧ OwnI N w' v l ∧ Below N w w'

theorem own_nil (N : Nat) (w : World) : OwnI N w (.slice none 0 0) [] := World.ownsRow_nil _ _ _ _

set_option maxHeartbeats 2000000 in
theorem mWrong_any (N : Nat) (v u : Value) (B : Bk) (R : Fr) (s : Int) (w : World) (h : BookAt N w v B) (hf : FruitsAt N w u R) :
    Calls Try.prog 20 #[v, u, .int .i64 s] w fun e w' => e = .returned (.tuple #[.int .i64 (eWrong B R s).1, .int .i64 (eWrong B R s).2]) ∧ Below w.heap.size w w' := by
  have H : Hid (BookAt N w v B) := h
  have HF : Hid (FruitsAt N w u R) := hf
  obtain ⟨hN, a1, c1, a2, c2, a3, c3, rfl, h1, h2, h3⟩ := h
  obtain ⟨af, cf, rfl, hnf, _⟩ := hf
  clear h1 h2 h3
  by_cases hc : chk B R = 0
  case neg =>
    have hcb : (chk B R != 0) = true := by simp [hc]
    have HC : Hid (¬ chk B R = 0) := hc
    clear hc
    go_enter Try.func20, Try.ntmps20
    go_wp2_with (go_at_call 18; refine (mCheck_any N _ _ B R _ (H.out.in_alloc _) (RowsAt.chain HF.out hN (chain0 _ _))).mono ?_; rintro e w1 ⟨rfl, hb1⟩; have ch1 := chain (chain0 _ _) hb1; clear hb1)
    go_ret2
    exact ⟨by rw [eWrong, if_pos HC.out]; rfl, below_of ch1⟩
  have HG : Hid (Good B R) := chk_good hc
  have hcb : (chk B R != 0) = false := by simp [hc]
  have HC : Hid (chk B R = 0) := hc
  clear hc
  cases hin : (decide (0 ≤ s) && decide (s < (B.ns : Int))) with
  | false =>
    have HIN : Hid _ := Lib.hid hin
    clear hin
    go_enter Try.func20, Try.ntmps20
    go_wp2_with (first
      | (go_at_call 18; refine (mCheck_any N _ _ B R _ (H.out.in_alloc _) (RowsAt.chain HF.out hN (chain0 _ _))).mono ?_; rintro e w1 ⟨rfl, hb1⟩; have ch1 := chain (chain0 _ _) hb1; have q0 := box_cell ch1 0 rfl; have q1 := box_cell ch1 1 rfl; have q2 := box_cell ch1 2 rfl; have q3 := box_cell ch1 3 rfl; clear hb1)
      | (go_at_call 66; refine (misSort_any N _ B s _ (H.out.chain (by assumption))).mono ?_; rintro e w2 ⟨rfl, hb2⟩; rw [HIN.out]; have ch2 := chain (by assumption) hb2; clear hb2))
    go_ret2
    exact ⟨by rw [eWrong, if_neg (by simp [HC.out]), if_neg (by rw [HIN.out]; simp)]; rfl, below_of ch2⟩
  | true =>
    obtain ⟨k, rfl, hk⟩ : ∃ k : Nat, s = k ∧ k < B.ns := ⟨s.toNat, by simp at hin; omega, by simp at hin; omega⟩
    have HIN : Hid _ := Lib.hid hin
    clear hin
    go_enter Try.func20, Try.ntmps20
    go_wp2_with (first
      | (go_at_call 18; refine (mCheck_any N _ _ B R _ (H.out.in_alloc _) (RowsAt.chain HF.out hN (chain0 _ _))).mono ?_; rintro e w1 ⟨rfl, hb1⟩; have ch1 := chain (chain0 _ _) hb1; have q0 := box_cell ch1 0 rfl; have q1 := box_cell ch1 1 rfl; have q2 := box_cell ch1 2 rfl; have q3 := box_cell ch1 3 rfl; clear hb1)
      | (go_at_call 66; refine (misSort_any N _ B k _ (H.out.chain (by assumption))).mono ?_; rintro e w2 ⟨rfl, hb2⟩; rw [HIN.out]; have ch2 := chain (by assumption) hb2; have q0 := box_cell ch2 0 rfl; have q1 := box_cell ch2 1 rfl; have q2 := box_cell ch2 2 rfl; have q3 := box_cell ch2 3 rfl; clear hb2)
      | (go_at_call 67; refine (wrong_any N _ B R k _ (box_of (H.out.chain ch2) (RowsAt.chain HF.out hN ch2)) HG.out hk).mono ?_; rintro e w3 ⟨rfl, hb3⟩; have ch3 := chain ch2 hb3))
    go_ret2
    exact ⟨by rw [eWrong, if_neg (by simp [HC.out]), if_pos HIN.out]; rfl, below_of ch3⟩

set_option maxHeartbeats 2000000 in
theorem mFewest_any (N : Nat) (v u : Value) (B : Bk) (R : Fr) (w : World) (h : BookAt N w v B) (hf : FruitsAt N w u R) :
    Calls Try.prog 22 #[v, u] w fun e w' => e = .returned (.tuple #[.int .i64 (eFewest B R).1, .int .i64 (eFewest B R).2]) ∧ Below w.heap.size w w' := by
  have H : Hid (BookAt N w v B) := h
  have HF : Hid (FruitsAt N w u R) := hf
  obtain ⟨hN, a1, c1, a2, c2, a3, c3, rfl, h1, h2, h3⟩ := h
  obtain ⟨af, cf, rfl, hnf, _⟩ := hf
  clear h1 h2 h3
  by_cases hc : chk B R = 0
  case neg =>
    have hcb : (chk B R != 0) = true := by simp [hc]
    have HC : Hid (¬ chk B R = 0) := hc
    clear hc
    go_enter Try.func22, Try.ntmps22
    go_wp2_with (go_at_call 18; refine (mCheck_any N _ _ B R _ (H.out.in_alloc _) (RowsAt.chain HF.out hN (chain0 _ _))).mono ?_; rintro e w1 ⟨rfl, hb1⟩; have ch1 := chain (chain0 _ _) hb1; clear hb1)
    go_ret2
    exact ⟨by rw [eFewest, if_pos HC.out]; rfl, below_of ch1⟩
  have HG : Hid (Good B R) := chk_good hc
  have hcb : (chk B R != 0) = false := by simp [hc]
  have HC : Hid (chk B R = 0) := hc
  clear hc
  by_cases h0 : B.ns = 0
  · have h0b : ((B.ns : Int) == 0) = true := by simp [h0]
    have H0 : Hid (B.ns = 0) := h0
    clear h0
    go_enter Try.func22, Try.ntmps22
    go_wp2_with (first
      | (go_at_call 18; refine (mCheck_any N _ _ B R _ (H.out.in_alloc _) (RowsAt.chain HF.out hN (chain0 _ _))).mono ?_; rintro e w1 ⟨rfl, hb1⟩; have ch1 := chain (chain0 _ _) hb1; have q2 := box_cell ch1 2 rfl; clear hb1))
    go_ret2
    exact ⟨by rw [eFewest, if_neg (by simp [HC.out]), if_pos H0.out]; rfl, below_of ch1⟩
  · have h0b : ((B.ns : Int) == 0) = false := by simp [h0]
    have H0 : Hid (¬ B.ns = 0) := h0
    clear h0
    go_enter Try.func22, Try.ntmps22
    go_wp2_with (first
      | (go_at_call 18; refine (mCheck_any N _ _ B R _ (H.out.in_alloc _) (RowsAt.chain HF.out hN (chain0 _ _))).mono ?_; rintro e w1 ⟨rfl, hb1⟩; have ch1 := chain (chain0 _ _) hb1; have q0 := box_cell ch1 0 rfl; have q1 := box_cell ch1 1 rfl; have q2 := box_cell ch1 2 rfl; have q3 := box_cell ch1 3 rfl; clear hb1)
      | (go_at_call 70; refine (fewest_any N _ B R _ (box_of (H.out.chain ch1) (RowsAt.chain HF.out hN ch1)) HG.out (Nat.pos_of_ne_zero H0.out)).mono ?_; rintro e w3 ⟨rfl, hb3⟩; have ch3 := chain ch1 hb3))
    go_ret2
    exact ⟨by rw [eFewest, if_neg (by simp [HC.out]), if_neg H0.out]; rfl, below_of ch3⟩

set_option maxHeartbeats 2000000 in
theorem mSorts_any (N : Nat) (v u : Value) (B : Bk) (R : Fr) (w : World) (h : BookAt N w v B) (hf : FruitsAt N w u R) :
    Calls Try.prog 26 #[v, u] w (GivesIE w.heap.size w (eSorts B R).1 (eSorts B R).2) := by
  have H : Hid (BookAt N w v B) := h
  have HF : Hid (FruitsAt N w u R) := hf
  obtain ⟨hN, a1, c1, a2, c2, a3, c3, rfl, h1, h2, h3⟩ := h
  obtain ⟨af, cf, rfl, hnf, _⟩ := hf
  clear h1 h2 h3
  by_cases hc : chk B R = 0
  case neg =>
    have hcb : (chk B R != 0) = true := by simp [hc]
    have HC : Hid (¬ chk B R = 0) := hc
    clear hc
    go_enter Try.func26, Try.ntmps26
    go_wp2_with (go_at_call 18; refine (mCheck_any N _ _ B R _ (H.out.in_alloc _) (RowsAt.chain HF.out hN (chain0 _ _))).mono ?_; rintro e w1 ⟨rfl, hb1⟩; have ch1 := chain (chain0 _ _) hb1; clear hb1)
    go_ret2
    rw [eSorts, if_pos HC.out]
    exact ⟨_, rfl, own_nil _ _, below_of ch1⟩
  have HG : Hid (Good B R) := chk_good hc
  have hcb : (chk B R != 0) = false := by simp [hc]
  have HC : Hid (chk B R = 0) := hc
  clear hc
  by_cases h0 : (sorts B R).length = 0
  · have h0b : (((sorts B R).length : Int) == 0) = true := by simpa using h0
    have H0 : Hid ((sorts B R).length = 0) := h0
    clear h0
    go_enter Try.func26, Try.ntmps26
    go_wp2_with (first
      | (go_at_call 18; refine (mCheck_any N _ _ B R _ (H.out.in_alloc _) (RowsAt.chain HF.out hN (chain0 _ _))).mono ?_; rintro e w1 ⟨rfl, hb1⟩; have ch1 := chain (chain0 _ _) hb1; have q0 := box_cell ch1 0 rfl; have q1 := box_cell ch1 1 rfl; have q2 := box_cell ch1 2 rfl; have q3 := box_cell ch1 3 rfl; clear hb1)
      | (go_at_call 71; refine (sorts_any N _ B R _ (box_of (H.out.chain ch1) (RowsAt.chain HF.out hN ch1)) HG.out).mono ?_; rintro e w3 ⟨u, rfl, ho, hb3⟩; obtain ⟨_, _, rfl⟩ := ho.form; have ch3 := chain ch1 hb3))
    go_ret2
    rw [eSorts, if_neg (by simp [HC.out]), if_pos H0.out]
    exact ⟨_, rfl, own_nil _ _, below_of ch3⟩
  · have h0b : (((sorts B R).length : Int) == 0) = false := by simpa using h0
    have H0 : Hid (¬ (sorts B R).length = 0) := h0
    clear h0
    go_enter Try.func26, Try.ntmps26
    go_wp2_with (first
      | (go_at_call 18; refine (mCheck_any N _ _ B R _ (H.out.in_alloc _) (RowsAt.chain HF.out hN (chain0 _ _))).mono ?_; rintro e w1 ⟨rfl, hb1⟩; have ch1 := chain (chain0 _ _) hb1; have q0 := box_cell ch1 0 rfl; have q1 := box_cell ch1 1 rfl; have q2 := box_cell ch1 2 rfl; have q3 := box_cell ch1 3 rfl; clear hb1)
      | (go_at_call 71; refine (sorts_any N _ B R _ (box_of (H.out.chain ch1) (RowsAt.chain HF.out hN ch1)) HG.out).mono ?_; rintro e w3 ⟨u, rfl, ho, hb3⟩; obtain ⟨_, _, rfl⟩ := ho.form; have ch3 := chain ch1 hb3))
    go_ret2
    rw [eSorts, if_neg (by simp [HC.out]), if_neg H0.out]
    exact ⟨_, rfl, own_mono ho (by have := size_of ch1; omega), below_of ch3⟩

end Go.Proofs.Ytopajgnemeodeaa

namespace Go.Proofs.Ytopajgnemeodeaa
open Go.RowKit

theorem below2 {N : Nat} {w : World} (hN : N ≤ w.heap.size) (o o' : Obj) : Below N w ((w.alloc o).alloc o') := (below_alloc hN o).alloc (by simp; omega) o'
theorem chain2 {w W : World} {o o' : Obj} (k : Below ((w.alloc o).alloc o').heap.size ((w.alloc o).alloc o') W) : Below (w.heap.size + 1 + 1) ((w.alloc o).alloc o') W := by simpa using k
theorem chain2s {w W W' : World} {o o' : Obj} (ch : Below (w.heap.size + 1 + 1) ((w.alloc o).alloc o') W) (k : Below W.heap.size W W') : Below (w.heap.size + 1 + 1) ((w.alloc o).alloc o') W' := step ch (by simp) k
theorem ch_book {w W : World} {o o' : Obj} (ch : Below (w.heap.size + 1 + 1) ((w.alloc o).alloc o') W) : Below (w.heap.size + 1) (w.alloc o) W :=
  (below_alloc (by simp) o').trans (ch.mono (Nat.le_succ _))
theorem place_cell {w W : World} {o : Obj} {cs : Array Value} {t : TypeId} (ch : Below (w.heap.size + 1 + 1) ((w.alloc o).alloc (.cells cs t)) W) (i : Nat) {x : Value} (hx : cs[i]? = some x) : W.cell? ⟨w.heap.size + 1, i, none⟩ = some x := by
  have h := box_cell (w := w.alloc o) (wr := W) (cs := cs) (t := t) (by rw [World.size_alloc]; exact ch) i hx
  rwa [World.size_alloc] at h

def eIs (B : Bk) (R : Fr) (s : Int) : Int × Int :=
  if chk B R ≠ 0 then (0, chk B R) else if (decide (0 ≤ s) && decide (s < B.ns)) = false then (0, 1) else if (sorts B R).length = 0 then (0, 3)
  else if (anyB (sorts B R).length fun i => decide (s = (sorts B R).getD i 0)) = false then (2, 0) else if (sorts B R).length = 1 then (1, 0) else (3, 0)

set_option maxHeartbeats 4000000 in
theorem mIs_any (N : Nat) (v u : Value) (B : Bk) (R : Fr) (s : Int) (w : World) (h : BookAt N w v B) (hf : FruitsAt N w u R) :
    Calls Try.prog 28 #[v, u, .int .i64 s] w fun e w' => e = .returned (.tuple #[.int .i64 (eIs B R s).1, .int .i64 (eIs B R s).2]) ∧ Below w.heap.size w w' := by
  have H : Hid (BookAt N w v B) := h
  have HF : Hid (FruitsAt N w u R) := hf
  obtain ⟨hN, a1, c1, a2, c2, a3, c3, rfl, h1, h2, h3⟩ := h
  obtain ⟨af, cf, rfl, hnf, _⟩ := hf
  clear h1 h2 h3
  by_cases hc : chk B R = 0
  case neg =>
    have hcb : (chk B R != 0) = true := by simp [hc]
    have HC : Hid (¬ chk B R = 0) := hc
    clear hc
    go_enter Try.func28, Try.ntmps28
    go_wp2_with (go_at_call 18; refine (mCheck_any N _ _ B R _ (H.out.in_alloc _) (RowsAt.chain HF.out hN (chain0 _ _))).mono ?_; rintro e w1 ⟨rfl, hb1⟩; have ch1 := chain (chain0 _ _) hb1; have q0 := box_cell ch1 0 rfl; have q1 := box_cell ch1 1 rfl; have q2 := box_cell ch1 2 rfl; have q3 := box_cell ch1 3 rfl; clear hb1)
    go_ret2
    exact ⟨by rw [eIs, if_pos HC.out]; rfl, below_of ch1⟩
  have HG : Hid (Good B R) := chk_good hc
  have hcb : (chk B R != 0) = false := by simp [hc]
  have HC : Hid (¬ chk B R ≠ 0) := by unfold Hid; simp [hc]
  clear hc
  cases hin : (decide (0 ≤ s) && decide (s < (B.ns : Int))) with
  | false =>
    have HIN : Hid _ := Lib.hid hin
    clear hin
    go_enter Try.func28, Try.ntmps28
    go_wp2_with (first
      | (go_at_call 18; refine (mCheck_any N _ _ B R _ (H.out.in_alloc _) (RowsAt.chain HF.out hN (chain0 _ _))).mono ?_; rintro e w1 ⟨rfl, hb1⟩; have ch1 := chain (chain0 _ _) hb1; have q0 := box_cell ch1 0 rfl; have q1 := box_cell ch1 1 rfl; have q2 := box_cell ch1 2 rfl; have q3 := box_cell ch1 3 rfl; clear hb1)
      | (go_at_call 66; refine (misSort_any N _ B s _ (H.out.chain (by assumption))).mono ?_; rintro e w2 ⟨rfl, hb2⟩; rw [HIN.out]; have ch2 := chain (by assumption) hb2; clear hb2))
    go_ret2
    exact ⟨by rw [eIs, if_neg HC.out, if_pos HIN.out]; rfl, below_of ch2⟩
  | true =>
    have HIN : Hid _ := Lib.hid hin
    have HI2 : Hid (¬ (decide (0 ≤ s) && decide (s < (B.ns : Int))) = false) := by unfold Hid; rw [hin]; simp
    clear hin
    have hsl := sorts_len HG.out.ns R
    by_cases h0 : (sorts B R).length = 0
    · have h0b : (((sorts B R).length : Int) == 0) = true := by simpa using h0
      have H0 : Hid ((sorts B R).length = 0) := h0
      clear h0
      go_enter Try.func28, Try.ntmps28
      go_wp2_with (first
        | (go_at_call 18; refine (mCheck_any N _ _ B R _ (H.out.in_alloc _) (RowsAt.chain HF.out hN (chain0 _ _))).mono ?_; rintro e w1 ⟨rfl, hb1⟩; have ch1 := chain (chain0 _ _) hb1; have q0 := box_cell ch1 0 rfl; have q1 := box_cell ch1 1 rfl; have q2 := box_cell ch1 2 rfl; have q3 := box_cell ch1 3 rfl; clear hb1)
        | (go_at_call 66; refine (misSort_any N _ B s _ (H.out.chain (by assumption))).mono ?_; rintro e w2 ⟨rfl, hb2⟩; rw [HIN.out]; have ch2 := chain (by assumption) hb2; have q0 := box_cell ch2 0 rfl; have q1 := box_cell ch2 1 rfl; have q2 := box_cell ch2 2 rfl; have q3 := box_cell ch2 3 rfl; clear hb2)
        | (go_at_call 71; refine (sorts_any N _ B R _ (box_of (H.out.chain ch2) (RowsAt.chain HF.out hN ch2)) HG.out).mono ?_; rintro e w3 ⟨u, rfl, ho, hb3⟩; obtain ⟨_, _, rfl⟩ := ho.form; have ch3 := chain ch2 hb3))
      go_ret2
      exact ⟨by rw [eIs, if_neg HC.out, if_neg HI2.out, if_pos H0.out]; rfl, below_of ch3⟩
    · have h0b : (((sorts B R).length : Int) == 0) = false := by simpa using h0
      have H0 : Hid (¬ (sorts B R).length = 0) := h0
      clear h0
      cases hany : (anyB (sorts B R).length fun i => decide (s = (sorts B R).getD i 0)) with
      | false =>
        have HA : Hid _ := Lib.hid hany
        clear hany
        go_enter Try.func28, Try.ntmps28
        go_wp2_with (first
          | (go_at_call 18; refine (mCheck_any N _ _ B R _ (H.out.in_alloc _) (RowsAt.chain HF.out hN (chain0 _ _))).mono ?_; rintro e w1 ⟨rfl, hb1⟩; have ch1 := chain (chain0 _ _) hb1; have q0 := box_cell ch1 0 rfl; have q1 := box_cell ch1 1 rfl; have q2 := box_cell ch1 2 rfl; have q3 := box_cell ch1 3 rfl; clear hb1)
          | (go_at_call 66; refine (misSort_any N _ B s _ (H.out.chain (by assumption))).mono ?_; rintro e w2 ⟨rfl, hb2⟩; rw [HIN.out]; have ch2 := chain (by assumption) hb2; have q0 := box_cell ch2 0 rfl; have q1 := box_cell ch2 1 rfl; have q2 := box_cell ch2 2 rfl; have q3 := box_cell ch2 3 rfl; clear hb2)
          | (go_at_call 71; refine (sorts_any N _ B R _ (box_of (H.out.chain ch2) (RowsAt.chain HF.out hN ch2)) HG.out).mono ?_; rintro e w3 ⟨u, rfl, ho, hb3⟩; have HS : Hid _ := Lib.hid (ho.ints (by omega)); obtain ⟨_, _, rfl⟩ := ho.form; have ch3 := chain ch2 hb3)
          | (go_at_call 73; refine (contains_any _ _ _ _ _ _ HS.out).mono ?_; rintro e w4 ⟨rfl, rfl⟩; rw [HA.out]))
        go_ret2
        exact ⟨by rw [eIs, if_neg HC.out, if_neg HI2.out, if_neg H0.out, if_pos HA.out]; rfl, below_of ch3⟩
      | true =>
        have HA : Hid _ := Lib.hid hany
        have HA2 : Hid (¬ (anyB (sorts B R).length fun i => decide (s = (sorts B R).getD i 0)) = false) := by unfold Hid; rw [hany]; simp
        clear hany
        by_cases h1 : (sorts B R).length = 1
        · have h1b : (((sorts B R).length : Int) == 1) = true := by simp [h1]
          have H1 : Hid ((sorts B R).length = 1) := h1
          clear h1
          go_enter Try.func28, Try.ntmps28
          go_wp2_with (first
            | (go_at_call 18; refine (mCheck_any N _ _ B R _ (H.out.in_alloc _) (RowsAt.chain HF.out hN (chain0 _ _))).mono ?_; rintro e w1 ⟨rfl, hb1⟩; have ch1 := chain (chain0 _ _) hb1; have q0 := box_cell ch1 0 rfl; have q1 := box_cell ch1 1 rfl; have q2 := box_cell ch1 2 rfl; have q3 := box_cell ch1 3 rfl; clear hb1)
            | (go_at_call 66; refine (misSort_any N _ B s _ (H.out.chain (by assumption))).mono ?_; rintro e w2 ⟨rfl, hb2⟩; rw [HIN.out]; have ch2 := chain (by assumption) hb2; have q0 := box_cell ch2 0 rfl; have q1 := box_cell ch2 1 rfl; have q2 := box_cell ch2 2 rfl; have q3 := box_cell ch2 3 rfl; clear hb2)
            | (go_at_call 71; refine (sorts_any N _ B R _ (box_of (H.out.chain ch2) (RowsAt.chain HF.out hN ch2)) HG.out).mono ?_; rintro e w3 ⟨u, rfl, ho, hb3⟩; have HS : Hid _ := Lib.hid (ho.ints (by omega)); obtain ⟨_, _, rfl⟩ := ho.form; have ch3 := chain ch2 hb3)
            | (go_at_call 73; refine (contains_any _ _ _ _ _ _ HS.out).mono ?_; rintro e w4 ⟨rfl, rfl⟩; rw [HA.out]))
          go_ret2
          exact ⟨by rw [eIs, if_neg HC.out, if_neg HI2.out, if_neg H0.out, if_neg HA2.out, if_pos H1.out]; rfl, below_of ch3⟩
        · have h1b : (((sorts B R).length : Int) == 1) = false := by simp; omega
          have H1 : Hid (¬ (sorts B R).length = 1) := h1
          clear h1
          go_enter Try.func28, Try.ntmps28
          go_wp2_with (first
            | (go_at_call 18; refine (mCheck_any N _ _ B R _ (H.out.in_alloc _) (RowsAt.chain HF.out hN (chain0 _ _))).mono ?_; rintro e w1 ⟨rfl, hb1⟩; have ch1 := chain (chain0 _ _) hb1; have q0 := box_cell ch1 0 rfl; have q1 := box_cell ch1 1 rfl; have q2 := box_cell ch1 2 rfl; have q3 := box_cell ch1 3 rfl; clear hb1)
            | (go_at_call 66; refine (misSort_any N _ B s _ (H.out.chain (by assumption))).mono ?_; rintro e w2 ⟨rfl, hb2⟩; rw [HIN.out]; have ch2 := chain (by assumption) hb2; have q0 := box_cell ch2 0 rfl; have q1 := box_cell ch2 1 rfl; have q2 := box_cell ch2 2 rfl; have q3 := box_cell ch2 3 rfl; clear hb2)
            | (go_at_call 71; refine (sorts_any N _ B R _ (box_of (H.out.chain ch2) (RowsAt.chain HF.out hN ch2)) HG.out).mono ?_; rintro e w3 ⟨u, rfl, ho, hb3⟩; have HS : Hid _ := Lib.hid (ho.ints (by omega)); obtain ⟨_, _, rfl⟩ := ho.form; have ch3 := chain ch2 hb3)
            | (go_at_call 73; refine (contains_any _ _ _ _ _ _ HS.out).mono ?_; rintro e w4 ⟨rfl, rfl⟩; rw [HA.out]))
          go_ret2
          exact ⟨by rw [eIs, if_neg HC.out, if_neg HI2.out, if_neg H0.out, if_neg HA2.out, if_neg H1.out]; rfl, below_of ch3⟩

def eValues (B : Bk) (R : Fr) (f m : Int) : List Int × Int :=
  if chk B R ≠ 0 then ([], chk B R) else if inPlace B R f m = false then ([], 1) else if (vals B R f.toNat m.toNat).length = 0 then ([], 3) else (vals B R f.toNat m.toNat, 0)

theorem in_place {B : Bk} {R : Fr} {f m : Int} (h : inPlace B R f m = true) : ∃ a b : Nat, f = a ∧ m = b ∧ a < R.n ∧ b < B.nv := by
  simp only [inPlace, Bool.and_eq_true, decide_eq_true_eq] at h
  exact ⟨f.toNat, m.toNat, by omega, by omega, by omega, by omega⟩

set_option maxHeartbeats 4000000 in
theorem mValues_any (N : Nat) (v u : Value) (B : Bk) (R : Fr) (f m : Int) (w : World) (h : BookAt N w v B) (hf : FruitsAt N w u R) :
    Calls Try.prog 31 #[v, u, .agg #[.int .i64 f, .int .i64 m]] w (GivesIE w.heap.size w (eValues B R f m).1 (eValues B R f m).2) := by
  have H : Hid (BookAt N w v B) := h
  have HF : Hid (FruitsAt N w u R) := hf
  obtain ⟨hN, a1, c1, a2, c2, a3, c3, rfl, h1, h2, h3⟩ := h
  obtain ⟨af, cf, rfl, hnf, _⟩ := hf
  clear h1 h2 h3
  by_cases hc : chk B R = 0
  case neg =>
    have hcb : (chk B R != 0) = true := by simp [hc]
    have HC : Hid (¬ chk B R = 0) := hc
    clear hc
    go_enter Try.func31, Try.ntmps31
    go_wp2_with (go_at_call 18; refine (mCheck_any N _ _ B R _ ((H.out.in_alloc _).in_alloc _) (RowsAt.mono HF.out (below2 hN _ _) (Nat.le_refl _))).mono ?_; rintro e w1 ⟨rfl, hb1⟩; have ch1 := chain2 hb1; have q0 := box_cell (ch_book ch1) 0 rfl; have q1 := box_cell (ch_book ch1) 1 rfl; have q2 := box_cell (ch_book ch1) 2 rfl; have q3 := box_cell (ch_book ch1) 3 rfl; have p0 := place_cell ch1 0 rfl; have p1 := place_cell ch1 1 rfl; clear hb1)
    go_ret2
    rw [eValues, if_pos HC.out]
    exact ⟨_, rfl, own_nil _ _, below_of (ch_book ch1)⟩
  have HG : Hid (Good B R) := chk_good hc
  have hcb : (chk B R != 0) = false := by simp [hc]
  have HC : Hid (¬ chk B R ≠ 0) := by unfold Hid; simp [hc]
  clear hc
  cases hin : inPlace B R f m with
  | false =>
    have HIN : Hid _ := Lib.hid hin
    clear hin
    go_enter Try.func31, Try.ntmps31
    go_wp2_with (first
      | (go_at_call 18; refine (mCheck_any N _ _ B R _ ((H.out.in_alloc _).in_alloc _) (RowsAt.mono HF.out (below2 hN _ _) (Nat.le_refl _))).mono ?_; rintro e w1 ⟨rfl, hb1⟩; have ch1 := chain2 hb1; have q0 := box_cell (ch_book ch1) 0 rfl; have q1 := box_cell (ch_book ch1) 1 rfl; have q2 := box_cell (ch_book ch1) 2 rfl; have q3 := box_cell (ch_book ch1) 3 rfl; have p0 := place_cell ch1 0 rfl; have p1 := place_cell ch1 1 rfl; clear hb1)
      | (go_at_call 75; refine (misPlace_any N _ _ B R f m _ (H.out.chain (ch_book ch1)) (RowsAt.chain HF.out hN (ch_book ch1))).mono ?_; rintro e w2 ⟨rfl, hb2⟩; rw [HIN.out]; have ch2 := chain2s ch1 hb2))
    go_ret2
    rw [eValues, if_neg HC.out, if_pos HIN.out]
    exact ⟨_, rfl, own_nil _ _, below_of (ch_book ch2)⟩
  | true =>
    obtain ⟨a, b, rfl, rfl, ha, hb⟩ := in_place hin
    have HIN : Hid _ := Lib.hid hin
    have HI2 : Hid (¬ inPlace B R a b = false) := by unfold Hid; rw [hin]; simp
    clear hin
    by_cases h0 : (vals B R a b).length = 0
    · have h0b : (((vals B R a b).length : Int) == 0) = true := by simpa using h0
      have H0 : Hid ((vals B R a b).length = 0) := h0
      clear h0
      go_enter Try.func31, Try.ntmps31
      go_wp2_with (first
        | (go_at_call 18; refine (mCheck_any N _ _ B R _ ((H.out.in_alloc _).in_alloc _) (RowsAt.mono HF.out (below2 hN _ _) (Nat.le_refl _))).mono ?_; rintro e w1 ⟨rfl, hb1⟩; have ch1 := chain2 hb1; have q0 := box_cell (ch_book ch1) 0 rfl; have q1 := box_cell (ch_book ch1) 1 rfl; have q2 := box_cell (ch_book ch1) 2 rfl; have q3 := box_cell (ch_book ch1) 3 rfl; have p0 := place_cell ch1 0 rfl; have p1 := place_cell ch1 1 rfl; clear hb1)
        | (go_at_call 75; refine (misPlace_any N _ _ B R a b _ (H.out.chain (ch_book ch1)) (RowsAt.chain HF.out hN (ch_book ch1))).mono ?_; rintro e w2 ⟨rfl, hb2⟩; rw [HIN.out]; have ch2 := chain2s ch1 hb2; have q0 := box_cell (ch_book ch2) 0 rfl; have q1 := box_cell (ch_book ch2) 1 rfl; have q2 := box_cell (ch_book ch2) 2 rfl; have q3 := box_cell (ch_book ch2) 3 rfl; have p0 := place_cell ch2 0 rfl; have p1 := place_cell ch2 1 rfl; clear hb2)
        | (go_at_call 76; refine (values_any N _ B R a b _ (box_of (H.out.chain (ch_book ch2)) (RowsAt.chain HF.out hN (ch_book ch2))) HG.out hb).mono ?_; rintro e w3 ⟨u, rfl, ho, hb3⟩; obtain ⟨_, _, rfl⟩ := ho.form; have ch3 := chain2s ch2 hb3))
      go_ret2
      rw [eValues, if_neg HC.out, if_neg HI2.out, if_pos (by exact H0.out)]
      exact ⟨_, rfl, own_nil _ _, below_of (ch_book ch3)⟩
    · have h0b : (((vals B R a b).length : Int) == 0) = false := by simpa using h0
      have H0 : Hid (¬ (vals B R a b).length = 0) := h0
      clear h0
      go_enter Try.func31, Try.ntmps31
      go_wp2_with (first
        | (go_at_call 18; refine (mCheck_any N _ _ B R _ ((H.out.in_alloc _).in_alloc _) (RowsAt.mono HF.out (below2 hN _ _) (Nat.le_refl _))).mono ?_; rintro e w1 ⟨rfl, hb1⟩; have ch1 := chain2 hb1; have q0 := box_cell (ch_book ch1) 0 rfl; have q1 := box_cell (ch_book ch1) 1 rfl; have q2 := box_cell (ch_book ch1) 2 rfl; have q3 := box_cell (ch_book ch1) 3 rfl; have p0 := place_cell ch1 0 rfl; have p1 := place_cell ch1 1 rfl; clear hb1)
        | (go_at_call 75; refine (misPlace_any N _ _ B R a b _ (H.out.chain (ch_book ch1)) (RowsAt.chain HF.out hN (ch_book ch1))).mono ?_; rintro e w2 ⟨rfl, hb2⟩; rw [HIN.out]; have ch2 := chain2s ch1 hb2; have q0 := box_cell (ch_book ch2) 0 rfl; have q1 := box_cell (ch_book ch2) 1 rfl; have q2 := box_cell (ch_book ch2) 2 rfl; have q3 := box_cell (ch_book ch2) 3 rfl; have p0 := place_cell ch2 0 rfl; have p1 := place_cell ch2 1 rfl; clear hb2)
        | (go_at_call 76; refine (values_any N _ B R a b _ (box_of (H.out.chain (ch_book ch2)) (RowsAt.chain HF.out hN (ch_book ch2))) HG.out hb).mono ?_; rintro e w3 ⟨u, rfl, ho, hb3⟩; obtain ⟨_, _, rfl⟩ := ho.form; have ch3 := chain2s ch2 hb3))
      go_ret2
      rw [eValues, if_neg HC.out, if_neg HI2.out, if_neg (by exact H0.out)]
      exact ⟨_, rfl, own_mono ho (Nat.le_of_lt (size_of (ch_book ch2))), below_of (ch_book ch3)⟩

end Go.Proofs.Ytopajgnemeodeaa

namespace Go.Proofs.Ytopajgnemeodeaa
open Go.RowKit

def eMistakes (B : Bk) (R : Fr) : List (Nat × Nat) × Int :=
  if chk B R ≠ 0 then ([], chk B R) else if (sorts B R).length = 0 then ([], 3) else (mistakes B R, 0)
def GivesPE (N : Nat) (w : World) (l : List (Nat × Nat)) (er : Int) (e : Ending) (w' : World) : Prop := ∃ v, e = .returned (.tuple #[v, .int .i64 er]) ∧ OwnP N w' v l ∧ Below N w w'
theorem ownP_nil (N : Nat) (w : World) : OwnP N w (.slice none 0 0) [] := World.ownsRow_nil _ _ _ _

set_option maxHeartbeats 4000000 in
theorem mMistakes_any (N : Nat) (v u : Value) (B : Bk) (R : Fr) (w : World) (h : BookAt N w v B) (hf : FruitsAt N w u R) :
    Calls Try.prog 33 #[v, u] w (GivesPE w.heap.size w (eMistakes B R).1 (eMistakes B R).2) := by
  have H : Hid (BookAt N w v B) := h
  have HF : Hid (FruitsAt N w u R) := hf
  obtain ⟨hN, a1, c1, a2, c2, a3, c3, rfl, h1, h2, h3⟩ := h
  obtain ⟨af, cf, rfl, hnf, _⟩ := hf
  clear h1 h2 h3
  by_cases hc : chk B R = 0
  case neg =>
    have hcb : (chk B R != 0) = true := by simp [hc]
    have HC : Hid (¬ chk B R = 0) := hc
    clear hc
    go_enter Try.func33, Try.ntmps33
    go_wp2_with (go_at_call 18; refine (mCheck_any N _ _ B R _ (H.out.in_alloc _) (RowsAt.chain HF.out hN (chain0 _ _))).mono ?_; rintro e w1 ⟨rfl, hb1⟩; have ch1 := chain (chain0 _ _) hb1; have q0 := box_cell ch1 0 rfl; have q1 := box_cell ch1 1 rfl; have q2 := box_cell ch1 2 rfl; have q3 := box_cell ch1 3 rfl; clear hb1)
    go_ret2
    rw [eMistakes, if_pos HC.out]
    exact ⟨_, rfl, ownP_nil _ _, below_of ch1⟩
  have HG : Hid (Good B R) := chk_good hc
  have hcb : (chk B R != 0) = false := by simp [hc]
  have HC : Hid (¬ chk B R ≠ 0) := by unfold Hid; simp [hc]
  clear hc
  by_cases h0 : (sorts B R).length = 0
  · have h0b : (((sorts B R).length : Int) == 0) = true := by simpa using h0
    have H0 : Hid ((sorts B R).length = 0) := h0
    clear h0
    go_enter Try.func33, Try.ntmps33
    go_wp2_with (first
      | (go_at_call 18; refine (mCheck_any N _ _ B R _ (H.out.in_alloc _) (RowsAt.chain HF.out hN (chain0 _ _))).mono ?_; rintro e w1 ⟨rfl, hb1⟩; have ch1 := chain (chain0 _ _) hb1; have q0 := box_cell ch1 0 rfl; have q1 := box_cell ch1 1 rfl; have q2 := box_cell ch1 2 rfl; have q3 := box_cell ch1 3 rfl; clear hb1)
      | (go_at_call 71; refine (sorts_any N _ B R _ ((box_of (H.out.chain ch1) (RowsAt.chain HF.out hN ch1)).in_alloc _) HG.out).mono ?_; rintro e w3 ⟨u, rfl, ho, hb3⟩; obtain ⟨_, _, rfl⟩ := ho.form; have ch3 := chain (chain_alloc ch1 _) hb3))
    go_ret2
    rw [eMistakes, if_neg HC.out, if_pos H0.out]
    exact ⟨_, rfl, ownP_nil _ _, below_of ch3⟩
  · have h0b : (((sorts B R).length : Int) == 0) = false := by simpa using h0
    have H0 : Hid (¬ (sorts B R).length = 0) := h0
    clear h0
    go_enter Try.func33, Try.ntmps33
    go_wp2_with (first
      | (go_at_call 18; refine (mCheck_any N _ _ B R _ (H.out.in_alloc _) (RowsAt.chain HF.out hN (chain0 _ _))).mono ?_; rintro e w1 ⟨rfl, hb1⟩; have ch1 := chain (chain0 _ _) hb1; have q0 := box_cell ch1 0 rfl; have q1 := box_cell ch1 1 rfl; have q2 := box_cell ch1 2 rfl; have q3 := box_cell ch1 3 rfl; clear hb1)
      | (go_at_call 71; refine (sorts_any N _ B R _ ((box_of (H.out.chain ch1) (RowsAt.chain HF.out hN ch1)).in_alloc _) HG.out).mono ?_; rintro e w3 ⟨u, rfl, ho, hb3⟩; obtain ⟨_, _, rfl⟩ := ho.form; have ch3 := chain (chain_alloc ch1 _) hb3; have k3 := chain (chain0 _ _) hb3; have q0 := box_cell k3 0 rfl; have q1 := box_cell k3 1 rfl; have q2 := box_cell k3 2 rfl; have q3 := box_cell k3 3 rfl; have q4 := box_cell k3 4 rfl)
      | (go_at_call 78; refine (mistakes_any N _ B R _ (box_of (H.out.chain ch3) (RowsAt.chain HF.out hN ch3)) HG.out).mono ?_; rintro e w4 ⟨u2, rfl, ho4, hb4⟩))
    go_ret2
    rw [eMistakes, if_neg HC.out, if_neg H0.out]
    exact ⟨_, rfl, own_mono ho4 (Nat.le_of_lt (size_of ch3)), below_of (chain ch3 hb4)⟩

def eNext (B : Bk) (R : Fr) (f : Int) : Int × Int :=
  if chk B R ≠ 0 then (0, chk B R) else if (decide (0 ≤ f) && decide (f < R.n)) = false then (0, 1) else if (sorts B R).length < 2 then (0, 3)
  else if (nx B R f.toNat B.nv).2.2 = false then (0, 3) else ((nx B R f.toNat B.nv).1, 0)

set_option maxHeartbeats 4000000 in
theorem mNext_any (N : Nat) (v u : Value) (B : Bk) (R : Fr) (f : Int) (w : World) (h : BookAt N w v B) (hf : FruitsAt N w u R) :
    Calls Try.prog 38 #[v, u, .int .i64 f] w fun e w' => e = .returned (.tuple #[.int .i64 (eNext B R f).1, .int .i64 (eNext B R f).2]) ∧ Below w.heap.size w w' := by
  have H : Hid (BookAt N w v B) := h
  have HF : Hid (FruitsAt N w u R) := hf
  obtain ⟨hN, a1, c1, a2, c2, a3, c3, rfl, h1, h2, h3⟩ := h
  obtain ⟨af, cf, rfl, hnf, _⟩ := hf
  clear h1 h2 h3
  by_cases hc : chk B R = 0
  case neg =>
    have hcb : (chk B R != 0) = true := by simp [hc]
    have HC : Hid (¬ chk B R = 0) := hc
    clear hc
    go_enter Try.func38, Try.ntmps38
    go_wp2_with (go_at_call 18; refine (mCheck_any N _ _ B R _ (H.out.in_alloc _) (RowsAt.chain HF.out hN (chain0 _ _))).mono ?_; rintro e w1 ⟨rfl, hb1⟩; have ch1 := chain (chain0 _ _) hb1; have q0 := box_cell ch1 0 rfl; have q1 := box_cell ch1 1 rfl; have q2 := box_cell ch1 2 rfl; have q3 := box_cell ch1 3 rfl; clear hb1)
    go_ret2
    exact ⟨by rw [eNext, if_pos HC.out]; rfl, below_of ch1⟩
  have HG : Hid (Good B R) := chk_good hc
  have hcb : (chk B R != 0) = false := by simp [hc]
  have HC : Hid (¬ chk B R ≠ 0) := by unfold Hid; simp [hc]
  clear hc
  cases hin : (decide (0 ≤ f) && decide (f < (R.n : Int))) with
  | false =>
    have HIN : Hid _ := Lib.hid hin
    clear hin
    go_enter Try.func38, Try.ntmps38
    go_wp2_with (first
      | (go_at_call 18; refine (mCheck_any N _ _ B R _ (H.out.in_alloc _) (RowsAt.chain HF.out hN (chain0 _ _))).mono ?_; rintro e w1 ⟨rfl, hb1⟩; have ch1 := chain (chain0 _ _) hb1; have q0 := box_cell ch1 0 rfl; have q1 := box_cell ch1 1 rfl; have q2 := box_cell ch1 2 rfl; have q3 := box_cell ch1 3 rfl; clear hb1)
      | (go_at_call 81; refine (mwithin_any _ _ _).mono ?_; rintro e w2 ⟨rfl, rfl⟩; rw [HIN.out]))
    go_ret2
    exact ⟨by rw [eNext, if_neg HC.out, if_pos HIN.out]; rfl, below_of ch1⟩
  | true =>
    obtain ⟨k, rfl, hk⟩ : ∃ k : Nat, f = k ∧ k < R.n := ⟨f.toNat, by simp at hin; omega, by simp at hin; omega⟩
    have HIN : Hid _ := Lib.hid hin
    have HI2 : Hid (¬ (decide (0 ≤ (k : Int)) && decide ((k : Int) < (R.n : Int))) = false) := by unfold Hid; rw [hin]; simp
    clear hin
    by_cases h0 : (sorts B R).length < 2
    · have h0b : ((sorts B R).length : Int) < 2 := by omega
      have H0 : Hid ((sorts B R).length < 2) := h0
      clear h0
      go_enter Try.func38, Try.ntmps38
      go_wp2_with (first
        | (go_at_call 18; refine (mCheck_any N _ _ B R _ (H.out.in_alloc _) (RowsAt.chain HF.out hN (chain0 _ _))).mono ?_; rintro e w1 ⟨rfl, hb1⟩; have ch1 := chain (chain0 _ _) hb1; have q0 := box_cell ch1 0 rfl; have q1 := box_cell ch1 1 rfl; have q2 := box_cell ch1 2 rfl; have q3 := box_cell ch1 3 rfl; clear hb1)
        | (go_at_call 81; refine (mwithin_any _ _ _).mono ?_; rintro e w2 ⟨rfl, rfl⟩; rw [HIN.out])
        | (go_at_call 71; refine (sorts_any N _ B R _ ((box_of (H.out.chain ch1) (RowsAt.chain HF.out hN ch1)).in_alloc _) HG.out).mono ?_; rintro e w3 ⟨u, rfl, ho, hb3⟩; obtain ⟨_, _, rfl⟩ := ho.form; have ch3 := chain (chain_alloc ch1 _) hb3))
      go_ret2
      exact ⟨by rw [eNext, if_neg HC.out, if_neg HI2.out, if_pos H0.out]; rfl, below_of ch3⟩
    · have h0b : 2 ≤ ((sorts B R).length : Int) := by omega
      have H0 : Hid (¬ (sorts B R).length < 2) := h0
      clear h0
      cases hfd : (nx B R k B.nv).2.2 with
      | false =>
        have HFD : Hid _ := Lib.hid hfd
        clear hfd
        go_enter Try.func38, Try.ntmps38
        go_wp2_with (first
          | (go_at_call 18; refine (mCheck_any N _ _ B R _ (H.out.in_alloc _) (RowsAt.chain HF.out hN (chain0 _ _))).mono ?_; rintro e w1 ⟨rfl, hb1⟩; have ch1 := chain (chain0 _ _) hb1; have q0 := box_cell ch1 0 rfl; have q1 := box_cell ch1 1 rfl; have q2 := box_cell ch1 2 rfl; have q3 := box_cell ch1 3 rfl; clear hb1)
          | (go_at_call 81; refine (mwithin_any _ _ _).mono ?_; rintro e w2 ⟨rfl, rfl⟩; rw [HIN.out])
          | (go_at_call 71; refine (sorts_any N _ B R _ ((box_of (H.out.chain ch1) (RowsAt.chain HF.out hN ch1)).in_alloc _) HG.out).mono ?_; rintro e w3 ⟨u, rfl, ho, hb3⟩; obtain ⟨_, _, rfl⟩ := ho.form; have ch3 := chain (chain_alloc ch1 _) hb3; have k3 := chain (chain0 _ _) hb3; have q0 := box_cell k3 0 rfl; have q1 := box_cell k3 1 rfl; have q2 := box_cell k3 2 rfl; have q3 := box_cell k3 3 rfl; have q4 := box_cell k3 4 rfl)
          | (go_at_call 82; refine (next_any N _ B R k _ (box_of (H.out.chain ch3) (RowsAt.chain HF.out hN ch3)) HG.out hk).mono ?_; rintro e w4 ⟨rfl, hb4⟩; rw [HFD.out]))
        go_ret2
        exact ⟨by rw [eNext, if_neg HC.out, if_neg HI2.out, if_neg H0.out, if_pos (by exact HFD.out)]; rfl, below_of (chain ch3 hb4)⟩
      | true =>
        have HFD : Hid _ := Lib.hid hfd
        have HF2 : Hid (¬ (nx B R k B.nv).2.2 = false) := by unfold Hid; rw [hfd]; simp
        clear hfd
        go_enter Try.func38, Try.ntmps38
        go_wp2_with (first
          | (go_at_call 18; refine (mCheck_any N _ _ B R _ (H.out.in_alloc _) (RowsAt.chain HF.out hN (chain0 _ _))).mono ?_; rintro e w1 ⟨rfl, hb1⟩; have ch1 := chain (chain0 _ _) hb1; have q0 := box_cell ch1 0 rfl; have q1 := box_cell ch1 1 rfl; have q2 := box_cell ch1 2 rfl; have q3 := box_cell ch1 3 rfl; clear hb1)
          | (go_at_call 81; refine (mwithin_any _ _ _).mono ?_; rintro e w2 ⟨rfl, rfl⟩; rw [HIN.out])
          | (go_at_call 71; refine (sorts_any N _ B R _ ((box_of (H.out.chain ch1) (RowsAt.chain HF.out hN ch1)).in_alloc _) HG.out).mono ?_; rintro e w3 ⟨u, rfl, ho, hb3⟩; obtain ⟨_, _, rfl⟩ := ho.form; have ch3 := chain (chain_alloc ch1 _) hb3; have k3 := chain (chain0 _ _) hb3; have q0 := box_cell k3 0 rfl; have q1 := box_cell k3 1 rfl; have q2 := box_cell k3 2 rfl; have q3 := box_cell k3 3 rfl; have q4 := box_cell k3 4 rfl)
          | (go_at_call 82; refine (next_any N _ B R k _ (box_of (H.out.chain ch3) (RowsAt.chain HF.out hN ch3)) HG.out hk).mono ?_; rintro e w4 ⟨rfl, hb4⟩; rw [HFD.out]))
        go_ret2
        exact ⟨by rw [eNext, if_neg HC.out, if_neg HI2.out, if_neg H0.out, if_neg (by exact HF2.out)]; rfl, below_of (chain ch3 hb4)⟩

end Go.Proofs.Ytopajgnemeodeaa

namespace Go.Proofs.Ytopajgnemeodeaa
open Go.RowKit

def eAfter (B : Bk) (R : Fr) (f m : Int) : Int × Int :=
  if chk B R ≠ 0 then (0, chk B R) else if inPlace B R f m = false then (0, 1) else if R.X f.toNat m.toNat ≠ -1 then (0, 1)
  else if (sorts B R).length = 0 then (0, 3) else (afterOf B R f.toNat m.toNat, 0)

set_option maxHeartbeats 4000000 in
theorem mAfter_any (N : Nat) (v u : Value) (B : Bk) (R : Fr) (f m : Int) (w : World) (h : BookAt N w v B) (hf : FruitsAt N w u R) :
    Calls Try.prog 35 #[v, u, .agg #[.int .i64 f, .int .i64 m]] w fun e w' => e = .returned (.tuple #[.int .i64 (eAfter B R f m).1, .int .i64 (eAfter B R f m).2]) ∧ Below w.heap.size w w' := by
  have H : Hid (BookAt N w v B) := h
  have HF : Hid (FruitsAt N w u R) := hf
  obtain ⟨hN, a1, c1, a2, c2, a3, c3, rfl, h1, h2, h3⟩ := h
  obtain ⟨af, cf, rfl, hnf, hcf⟩ := hf
  have HCF : Hid _ := Lib.hid hcf
  clear h1 h2 h3 hcf
  by_cases hc : chk B R = 0
  case neg =>
    have hcb : (chk B R != 0) = true := by simp [hc]
    have HC : Hid (¬ chk B R = 0) := hc
    clear hc
    go_enter Try.func35, Try.ntmps35
    go_wp2_with (go_at_call 18; refine (mCheck_any N _ _ B R _ ((H.out.in_alloc _).in_alloc _) (RowsAt.mono HF.out (below2 hN _ _) (Nat.le_refl _))).mono ?_; rintro e w1 ⟨rfl, hb1⟩; have ch1 := chain2 hb1; have q0 := box_cell (ch_book ch1) 0 rfl; have q1 := box_cell (ch_book ch1) 1 rfl; have q2 := box_cell (ch_book ch1) 2 rfl; have q3 := box_cell (ch_book ch1) 3 rfl; have p0 := place_cell ch1 0 rfl; have p1 := place_cell ch1 1 rfl; clear hb1)
    go_ret2
    exact ⟨by rw [eAfter, if_pos HC.out]; rfl, below_of (ch_book ch1)⟩
  have HG : Hid (Good B R) := chk_good hc
  have hcb : (chk B R != 0) = false := by simp [hc]
  have HC : Hid (¬ chk B R ≠ 0) := by unfold Hid; simp [hc]
  clear hc
  cases hin : inPlace B R f m with
  | false =>
    have HIN : Hid _ := Lib.hid hin
    clear hin
    go_enter Try.func35, Try.ntmps35
    go_wp2_with (go_at_call 18; refine (mCheck_any N _ _ B R _ ((H.out.in_alloc _).in_alloc _) (RowsAt.mono HF.out (below2 hN _ _) (Nat.le_refl _))).mono ?_; rintro e w1 ⟨rfl, hb1⟩; have ch1 := chain2 hb1; have q0 := box_cell (ch_book ch1) 0 rfl; have q1 := box_cell (ch_book ch1) 1 rfl; have q2 := box_cell (ch_book ch1) 2 rfl; have q3 := box_cell (ch_book ch1) 3 rfl; have p0 := place_cell ch1 0 rfl; have p1 := place_cell ch1 1 rfl; clear hb1)
    have hSz : w.heap.size + 1 < w1.heap.size := by have := ch1.size; simp at this; omega
    have hSz0 : w.heap.size < w1.heap.size := by omega
    have hS0 : (∀ b o, b < w1.heap.size → w1.drew.cell? ⟨b, o, none⟩ = w1.cell? ⟨b, o, none⟩) ∧ Hid (Below w1.heap.size w1 w1.drew) := ⟨fun _ _ _ => rfl, (Below.refl _ _).drew⟩
    refine wp_region_held_drew (S := fun w' => (∀ b o, b < w1.heap.size → w'.cell? ⟨b, o, none⟩ = w1.cell? ⟨b, o, none⟩) ∧ Hid (Below w1.heap.size w1 w')) (by kernel_rfl) hS0 (fun hHeld => ?_)
    (refine wpAnyH_take (i := 0) (v := ?_) rfl (by kernel_rfl) (by kernel_rfl) (by kernel_rfl) (fun _ _ _ h => h) (Or.inl ⟨by rfl, ?_⟩) (by assumption) ?_; rotate_left; (focus (intro w hSw; (try dsimp only at hSw); go_simp; (try with_reducible rfl))); (try simp only [List.getElem_toArray, List.getElem_cons_zero, List.getElem_cons_succ, Act.put, List.setIfInBounds_toArray, List.set_cons_zero, List.set_cons_succ]))
    (refine wpAnyH_take (i := 1) (v := ?_) rfl (by kernel_rfl) (by kernel_rfl) (by kernel_rfl) (fun _ _ _ h => h) (Or.inl ⟨by rfl, ?_⟩) (by assumption) ?_; rotate_left; (focus (intro w hSw; (try dsimp only at hSw); go_simp; (try with_reducible rfl))); (try simp only [List.getElem_toArray, List.getElem_cons_zero, List.getElem_cons_succ, Act.put, List.setIfInBounds_toArray, List.set_cons_zero, List.set_cons_succ]))
    (refine wpAnyH_take (i := 2) (v := ?_) rfl (by kernel_rfl) (by kernel_rfl) (by kernel_rfl) (fun _ _ _ h => h) (Or.inl ⟨by rfl, ?_⟩) (by assumption) ?_; rotate_left; (focus (intro w hSw; (try dsimp only at hSw); go_simp; (try with_reducible rfl))); (try simp only [List.getElem_toArray, List.getElem_cons_zero, List.getElem_cons_succ, Act.put, List.setIfInBounds_toArray, List.set_cons_zero, List.set_cons_succ]))
    refine wpAnyH_ready (rs := [3]) (by kernel_rfl) (by simp) ?_
    refine AllReadyH.cons rfl (fun K hK => ?_) AllReadyH.nil
    go_simp
    go_at_call 75
    refine (misPlace_any N _ _ B R f m _ (H.out.chain (chain (ch_book ch1) (Below.refl _ _).drew)) (RowsAt.chain HF.out hN (chain (ch_book ch1) (Below.refl _ _).drew))).mono ?_
    rintro e w2 ⟨rfl, hb2⟩
    rw [HIN.out]
    have S1 : (∀ b o, b < w1.heap.size → w2.cell? ⟨b, o, none⟩ = w1.cell? ⟨b, o, none⟩) ∧ Hid (Below w1.heap.size w1 w2) := ⟨fun b o hb => hb2.cell (p := ⟨b, o, none⟩) hb, (Below.refl _ _).drew.trans hb2⟩
    refine hK.out _ _ S1 (fun hHeld => ?_)
    clear hK K
    (refine wpAnyH_take (i := 4) (v := ?_) rfl (by kernel_rfl) (by kernel_rfl) (by kernel_rfl) (fun _ _ _ h => h) (Or.inl ⟨by rfl, ?_⟩) (by assumption) ?_; rotate_left; (focus (intro w hSw; (try dsimp only at hSw); go_simp; (try with_reducible rfl))); (try simp only [List.getElem_toArray, List.getElem_cons_zero, List.getElem_cons_succ, Act.put, List.setIfInBounds_toArray, List.set_cons_zero, List.set_cons_succ]))
    (refine wpAnyH_take (i := 5) (v := ?_) rfl (by kernel_rfl) (by kernel_rfl) (by kernel_rfl) (fun _ _ _ h => h) (Or.inl ⟨by rfl, ?_⟩) (by assumption) ?_; rotate_left; (focus (intro w hSw; (try dsimp only at hSw); go_simp; (try with_reducible rfl))); (try simp only [List.getElem_toArray, List.getElem_cons_zero, List.getElem_cons_succ, Act.put, List.setIfInBounds_toArray, List.set_cons_zero, List.set_cons_succ]))
    (refine wpAnyH_take (i := 6) (v := undef) rfl (by kernel_rfl) (by kernel_rfl) (by kernel_rfl) (fun _ _ _ h => h) (Or.inr ⟨by rfl, rfl⟩) (by assumption) ?_; (try simp only [List.getElem_toArray, List.getElem_cons_zero, List.getElem_cons_succ, Act.put, List.setIfInBounds_toArray, List.set_cons_zero, List.set_cons_succ]))
    (refine wpAnyH_take (i := 7) (v := undef) rfl (by kernel_rfl) (by kernel_rfl) (by kernel_rfl) (fun _ _ _ h => h) (Or.inr ⟨by rfl, rfl⟩) (by assumption) ?_; (try simp only [List.getElem_toArray, List.getElem_cons_zero, List.getElem_cons_succ, Act.put, List.setIfInBounds_toArray, List.set_cons_zero, List.set_cons_succ]))
    (refine wpAnyH_take (i := 8) (v := undef) rfl (by kernel_rfl) (by kernel_rfl) (by kernel_rfl) (fun _ _ _ h => h) (Or.inr ⟨by rfl, rfl⟩) (by assumption) ?_; (try simp only [List.getElem_toArray, List.getElem_cons_zero, List.getElem_cons_succ, Act.put, List.setIfInBounds_toArray, List.set_cons_zero, List.set_cons_succ]))
    (refine wpAnyH_take (i := 9) (v := undef) rfl (by kernel_rfl) (by kernel_rfl) (by kernel_rfl) (fun _ _ _ h => h) (Or.inr ⟨by rfl, rfl⟩) (by assumption) ?_; (try simp only [List.getElem_toArray, List.getElem_cons_zero, List.getElem_cons_succ, Act.put, List.setIfInBounds_toArray, List.set_cons_zero, List.set_cons_succ]))
    (refine wpAnyH_take (i := 10) (v := undef) rfl (by kernel_rfl) (by kernel_rfl) (by kernel_rfl) (fun _ _ _ h => h) (Or.inr ⟨by rfl, rfl⟩) (by assumption) ?_; (try simp only [List.getElem_toArray, List.getElem_cons_zero, List.getElem_cons_succ, Act.put, List.setIfInBounds_toArray, List.set_cons_zero, List.set_cons_succ]))
    (refine wpAnyH_take (i := 11) (v := undef) rfl (by kernel_rfl) (by kernel_rfl) (by kernel_rfl) (fun _ _ _ h => h) (Or.inr ⟨by rfl, rfl⟩) (by assumption) ?_; (try simp only [List.getElem_toArray, List.getElem_cons_zero, List.getElem_cons_succ, Act.put, List.setIfInBounds_toArray, List.set_cons_zero, List.set_cons_succ]))
    (refine wpAnyH_take (i := 12) (v := undef) rfl (by kernel_rfl) (by kernel_rfl) (by kernel_rfl) (fun _ _ _ h => h) (Or.inr ⟨by rfl, rfl⟩) (by assumption) ?_; (try simp only [List.getElem_toArray, List.getElem_cons_zero, List.getElem_cons_succ, Act.put, List.setIfInBounds_toArray, List.set_cons_zero, List.set_cons_succ]))
    (refine wpAnyH_take (i := 13) (v := undef) rfl (by kernel_rfl) (by kernel_rfl) (by kernel_rfl) (fun _ _ _ h => h) (Or.inr ⟨by rfl, rfl⟩) (by assumption) ?_; (try simp only [List.getElem_toArray, List.getElem_cons_zero, List.getElem_cons_succ, Act.put, List.setIfInBounds_toArray, List.set_cons_zero, List.set_cons_succ]))
    (refine wpAnyH_take (i := 14) (v := undef) rfl (by kernel_rfl) (by kernel_rfl) (by kernel_rfl) (fun _ _ _ h => h) (Or.inr ⟨by rfl, rfl⟩) (by assumption) ?_; (try simp only [List.getElem_toArray, List.getElem_cons_zero, List.getElem_cons_succ, Act.put, List.setIfInBounds_toArray, List.set_cons_zero, List.set_cons_succ]))
    (refine wpAnyH_take (i := 15) (v := undef) rfl (by kernel_rfl) (by kernel_rfl) (by kernel_rfl) (fun _ _ _ h => h) (Or.inr ⟨by rfl, rfl⟩) (by assumption) ?_; (try simp only [List.getElem_toArray, List.getElem_cons_zero, List.getElem_cons_succ, Act.put, List.setIfInBounds_toArray, List.set_cons_zero, List.set_cons_succ]))
    (refine wpAnyH_take (i := 16) (v := ?_) rfl (by kernel_rfl) (by kernel_rfl) (by kernel_rfl) (fun _ _ _ h => h) (Or.inl ⟨by rfl, ?_⟩) (by assumption) ?_; rotate_left; (focus (intro w hSw; (try dsimp only at hSw); go_simp; (try with_reducible rfl))); (try simp only [List.getElem_toArray, List.getElem_cons_zero, List.getElem_cons_succ, Act.put, List.setIfInBounds_toArray, List.set_cons_zero, List.set_cons_succ]))
    refine wpAnyH_done (by kernel_rfl) ?_ _
    go_wp2
    go_ret2
    exact ⟨by rw [eAfter, if_neg HC.out, if_pos HIN.out]; rfl, below_of (ch_book (chain2s ch1 S1.2.out))⟩
  | true =>
    obtain ⟨a, b, rfl, rfl, ha, hb⟩ := in_place hin
    have HIN : Hid _ := Lib.hid hin
    have HI2 : Hid (¬ inPlace B R a b = false) := by unfold Hid; rw [hin]; simp
    clear hin
    obtain ⟨b4, off4, rfl, hb4, hr4⟩ := HCF.out (by omega)
    obtain ⟨r4, hcell4, ao, cap, rfl, hL, hcr⟩ := hr4 a ha
    have HL : Hid (R.L a = B.nv) := HG.out.L a ha
    have hbL : (b : Int) < (R.L a : Int) := by rw [HL.out]; omega
    obtain ⟨b5, off5, rfl, hb5, hr5⟩ := hcr (by have := HL.out; omega)
    obtain ⟨r5, hcell5, rfl⟩ := hr5 b (by have := HL.out; omega)
    have HC4 : Hid _ := Lib.hid hcell4
    have HC5 : Hid _ := Lib.hid hcell5
    clear hr4 hcr hr5 hcell4 hcell5
    by_cases hx : R.X a b = -1
    case neg =>
      have hxe : (R.X a b != -1) = true := by simp [hx]
      have HX : Hid (R.X a b ≠ -1) := hx
      clear hx
      go_enter Try.func35, Try.ntmps35
      go_wp2_with (go_at_call 18; refine (mCheck_any N _ _ B R _ ((H.out.in_alloc _).in_alloc _) (RowsAt.mono HF.out (below2 hN _ _) (Nat.le_refl _))).mono ?_; rintro e w1 ⟨rfl, hb1⟩; have ch1 := chain2 hb1; have q0 := box_cell (ch_book ch1) 0 rfl; have q1 := box_cell (ch_book ch1) 1 rfl; have q2 := box_cell (ch_book ch1) 2 rfl; have q3 := box_cell (ch_book ch1) 3 rfl; have p0 := place_cell ch1 0 rfl; have p1 := place_cell ch1 1 rfl; clear hb1)
      have hSz : w.heap.size + 1 < w1.heap.size := by have := ch1.size; simp at this; omega
      have hSz0 : w.heap.size < w1.heap.size := by omega
      have l4 : b4 < w1.heap.size := by omega
      have l5 : b5 < w1.heap.size := by omega
      have y4 := ((below_of (ch_book ch1)).cell (p := ⟨b4, off4 + a, none⟩) (by show b4 < _; omega)).trans HC4.out
      have y5 := ((below_of (ch_book ch1)).cell (p := ⟨b5, off5 + b, none⟩) (by show b5 < _; omega)).trans HC5.out
      have hS0 : (∀ b o, b < w1.heap.size → w1.drew.cell? ⟨b, o, none⟩ = w1.cell? ⟨b, o, none⟩) ∧ Hid (Below w1.heap.size w1 w1.drew) := ⟨fun _ _ _ => rfl, (Below.refl _ _).drew⟩
      go_region_held3 (fun w' => (∀ b o, b < w1.heap.size → w'.cell? ⟨b, o, none⟩ = w1.cell? ⟨b, o, none⟩) ∧ Hid (Below w1.heap.size w1 w')) (assumption)
        (first | (go_at_call 75; refine (misPlace_any N _ _ B R a b _ (H.out.chain (chain (ch_book ch1) (Below.refl _ _).drew)) (RowsAt.chain HF.out hN (chain (ch_book ch1) (Below.refl _ _).drew))).mono ?_; rintro e w2 ⟨rfl, hb2⟩; rw [HIN.out]; have S1 : (∀ b o, b < w1.heap.size → w2.cell? ⟨b, o, none⟩ = w1.cell? ⟨b, o, none⟩) ∧ Hid (Below w1.heap.size w1 w2) := ⟨fun b o hb => hb2.cell (p := ⟨b, o, none⟩) hb, (Below.refl _ _).drew.trans hb2⟩))
      all_goals go_wp2
      go_ret2
      exact ⟨by rw [eAfter, if_neg HC.out, if_neg HI2.out, if_pos (by exact HX.out)]; rfl, below_of (ch_book (chain2s ch1 S1.2.out))⟩
    have hxe : (R.X a b != -1) = false := by simp [hx]
    have HX : Hid (¬ R.X a b ≠ -1) := by unfold Hid; simp [hx]
    clear hx
    by_cases h0 : (sorts B R).length = 0
    · have h0b : (((sorts B R).length : Int) == 0) = true := by simpa using h0
      have H0 : Hid ((sorts B R).length = 0) := h0
      clear h0
      go_enter Try.func35, Try.ntmps35
      go_wp2_with (go_at_call 18; refine (mCheck_any N _ _ B R _ ((H.out.in_alloc _).in_alloc _) (RowsAt.mono HF.out (below2 hN _ _) (Nat.le_refl _))).mono ?_; rintro e w1 ⟨rfl, hb1⟩; have ch1 := chain2 hb1; have q0 := box_cell (ch_book ch1) 0 rfl; have q1 := box_cell (ch_book ch1) 1 rfl; have q2 := box_cell (ch_book ch1) 2 rfl; have q3 := box_cell (ch_book ch1) 3 rfl; have p0 := place_cell ch1 0 rfl; have p1 := place_cell ch1 1 rfl; clear hb1)
      have hSz : w.heap.size + 1 < w1.heap.size := by have := ch1.size; simp at this; omega
      have hSz0 : w.heap.size < w1.heap.size := by omega
      have l4 : b4 < w1.heap.size := by omega
      have l5 : b5 < w1.heap.size := by omega
      have y4 := ((below_of (ch_book ch1)).cell (p := ⟨b4, off4 + a, none⟩) (by show b4 < _; omega)).trans HC4.out
      have y5 := ((below_of (ch_book ch1)).cell (p := ⟨b5, off5 + b, none⟩) (by show b5 < _; omega)).trans HC5.out
      have hS0 : (∀ b o, b < w1.heap.size → w1.drew.cell? ⟨b, o, none⟩ = w1.cell? ⟨b, o, none⟩) ∧ Hid (Below w1.heap.size w1 w1.drew) := ⟨fun _ _ _ => rfl, (Below.refl _ _).drew⟩
      go_region_held3 (fun w' => (∀ b o, b < w1.heap.size → w'.cell? ⟨b, o, none⟩ = w1.cell? ⟨b, o, none⟩) ∧ Hid (Below w1.heap.size w1 w')) (assumption)
        (first | (go_at_call 75; refine (misPlace_any N _ _ B R a b _ (H.out.chain (chain (ch_book ch1) (Below.refl _ _).drew)) (RowsAt.chain HF.out hN (chain (ch_book ch1) (Below.refl _ _).drew))).mono ?_; rintro e w2 ⟨rfl, hb2⟩; rw [HIN.out]; have S1 : (∀ b o, b < w1.heap.size → w2.cell? ⟨b, o, none⟩ = w1.cell? ⟨b, o, none⟩) ∧ Hid (Below w1.heap.size w1 w2) := ⟨fun b o hb => hb2.cell (p := ⟨b, o, none⟩) hb, (Below.refl _ _).drew.trans hb2⟩))
      all_goals
        obtain ⟨S2, S3⟩ := S1
        have ch2 := chain2s ch1 S3.out
        go_wp2_with (first
          | (go_at_call 71; refine (sorts_any N _ B R _ ((box_of (H.out.chain (ch_book ch2)) (RowsAt.chain HF.out hN (ch_book ch2))).in_alloc _) HG.out).mono ?_; rintro e w3 ⟨u, rfl, ho, hb3⟩; obtain ⟨_, _, rfl⟩ := ho.form; have ch3 := chain2s (ch2.alloc (by have := ch2.size; simpa using this) _) hb3; have k3 := chain (chain0 _ _) hb3; have z0 := box_cell k3 0 rfl; have z1 := box_cell k3 1 rfl; have z2 := box_cell k3 2 rfl; have z3 := box_cell k3 3 rfl; have z4 := box_cell k3 4 rfl; have p0 := place_cell ch3 0 rfl; have p1 := place_cell ch3 1 rfl)
          | (go_at_call 79; refine (after_any N _ B R a b _ (box_of (H.out.chain (ch_book ch3)) (RowsAt.chain HF.out hN (ch_book ch3))) HG.out ha hb).mono ?_; rintro e w4 ⟨rfl, hb4'⟩))
        go_ret2
        exact ⟨by rw [eAfter, if_neg HC.out, if_neg HI2.out, if_neg (by exact HX.out), if_pos H0.out]; rfl, below_of (ch_book ch3)⟩
    · have h0b : (((sorts B R).length : Int) == 0) = false := by simpa using h0
      have H0 : Hid (¬ (sorts B R).length = 0) := h0
      clear h0
      go_enter Try.func35, Try.ntmps35
      go_wp2_with (go_at_call 18; refine (mCheck_any N _ _ B R _ ((H.out.in_alloc _).in_alloc _) (RowsAt.mono HF.out (below2 hN _ _) (Nat.le_refl _))).mono ?_; rintro e w1 ⟨rfl, hb1⟩; have ch1 := chain2 hb1; have q0 := box_cell (ch_book ch1) 0 rfl; have q1 := box_cell (ch_book ch1) 1 rfl; have q2 := box_cell (ch_book ch1) 2 rfl; have q3 := box_cell (ch_book ch1) 3 rfl; have p0 := place_cell ch1 0 rfl; have p1 := place_cell ch1 1 rfl; clear hb1)
      have hSz : w.heap.size + 1 < w1.heap.size := by have := ch1.size; simp at this; omega
      have hSz0 : w.heap.size < w1.heap.size := by omega
      have l4 : b4 < w1.heap.size := by omega
      have l5 : b5 < w1.heap.size := by omega
      have y4 := ((below_of (ch_book ch1)).cell (p := ⟨b4, off4 + a, none⟩) (by show b4 < _; omega)).trans HC4.out
      have y5 := ((below_of (ch_book ch1)).cell (p := ⟨b5, off5 + b, none⟩) (by show b5 < _; omega)).trans HC5.out
      have hS0 : (∀ b o, b < w1.heap.size → w1.drew.cell? ⟨b, o, none⟩ = w1.cell? ⟨b, o, none⟩) ∧ Hid (Below w1.heap.size w1 w1.drew) := ⟨fun _ _ _ => rfl, (Below.refl _ _).drew⟩
      go_region_held3 (fun w' => (∀ b o, b < w1.heap.size → w'.cell? ⟨b, o, none⟩ = w1.cell? ⟨b, o, none⟩) ∧ Hid (Below w1.heap.size w1 w')) (assumption)
        (first | (go_at_call 75; refine (misPlace_any N _ _ B R a b _ (H.out.chain (chain (ch_book ch1) (Below.refl _ _).drew)) (RowsAt.chain HF.out hN (chain (ch_book ch1) (Below.refl _ _).drew))).mono ?_; rintro e w2 ⟨rfl, hb2⟩; rw [HIN.out]; have S1 : (∀ b o, b < w1.heap.size → w2.cell? ⟨b, o, none⟩ = w1.cell? ⟨b, o, none⟩) ∧ Hid (Below w1.heap.size w1 w2) := ⟨fun b o hb => hb2.cell (p := ⟨b, o, none⟩) hb, (Below.refl _ _).drew.trans hb2⟩))
      all_goals
        obtain ⟨S2, S3⟩ := S1
        have ch2 := chain2s ch1 S3.out
        go_wp2_with (first
          | (go_at_call 71; refine (sorts_any N _ B R _ ((box_of (H.out.chain (ch_book ch2)) (RowsAt.chain HF.out hN (ch_book ch2))).in_alloc _) HG.out).mono ?_; rintro e w3 ⟨u, rfl, ho, hb3⟩; obtain ⟨_, _, rfl⟩ := ho.form; have ch3 := chain2s (ch2.alloc (by have := ch2.size; simpa using this) _) hb3; have k3 := chain (chain0 _ _) hb3; have z0 := box_cell k3 0 rfl; have z1 := box_cell k3 1 rfl; have z2 := box_cell k3 2 rfl; have z3 := box_cell k3 3 rfl; have z4 := box_cell k3 4 rfl; have p0 := place_cell ch3 0 rfl; have p1 := place_cell ch3 1 rfl)
          | (go_at_call 79; refine (after_any N _ B R a b _ (box_of (H.out.chain (ch_book ch3)) (RowsAt.chain HF.out hN (ch_book ch3))) HG.out ha hb).mono ?_; rintro e w4 ⟨rfl, hb4'⟩))
        go_ret2
        exact ⟨by rw [eAfter, if_neg HC.out, if_neg HI2.out, if_neg (by exact HX.out), if_neg H0.out]; rfl, below_of (ch_book (chain2s ch3 hb4'))⟩

end Go.Proofs.Ytopajgnemeodeaa
