/-
  LawFits: whether numbers are a gift that fits, as the laws ask it.
-/
import Derived.Test.YtnnngbnimmcjiaaLFits
namespace Go.Proofs.Ytnnngbnimmcjiaa
open Go.RowKit

def fitsL (B : SB) (n : Nat) (x : Nat → Int) : Bool := decide (n ≤ 40) && okGift B.nw n x && fitL B (natL n x)

set_option maxHeartbeats 1600000 in
set_option maxRecDepth 100000 in
theorem fits_any (N M : Nat) (v u : Value) (B : SB) (n : Nat) (x : Nat → Int) (w : World) (h : BookAt N w v B) (hG : GoodL B 4) (hu : IntsAt M w u n x) (hM : M ≤ w.heap.size) :
    Calls Try.prog 13 #[v, u] w fun e w' => e = .returned (.bool (fitsL B n x)) ∧ Below w.heap.size w w' := by
  have hn := hu.len
  obtain ⟨au, cu, rfl, _, _⟩ := id hu
  have h' := h
  obtain ⟨_, a1, z1, a2, z2, a3, z3, rfl, _⟩ := h'
  obtain ⟨ws, hws, HB, hsz, hblk⟩ := box1 w (.cells #[.slice a1 B.ns z1, .slice a2 B.ng z2, .slice a3 B.nw z3] 26)
  have q0 := cell_blk hblk 0 rfl
  have q1 := cell_blk hblk 1 rfl
  have q2 := cell_blk hblk 2 rfl
  have HBK := Lib.hid (h.go HB.out)
  have HB0 : Hid (Below ws.heap.size ws ws) := Below.refl _ _
  have HNS : Hid (N ≤ ws.heap.size) := HBK.out.1
  have hlens := h.lens
  obtain ⟨hlv, hls, hln⟩ := hlens
  clear hblk h
  have HX := Lib.hid (hu.go hM HB.out)
  have HM : Hid (M ≤ ws.heap.size) := Nat.le_trans hM HB.out.size
  have HG := Lib.hid hG
  clear hu hM hG
  by_cases h40 : n ≤ 40
  · have h40i : (n : Int) ≤ 40 := by omega
    cases hi : okGift B.nw n x with
    | false =>
      have HI := Lib.hid hi
      have HF : Hid (fitsL B n x = false) := by unfold Hid fitsL; rw [hi, Bool.and_false]; rfl
      clear hi h40
      go_enter Try.func13, Try.ntmps13
      go_wp2_with (go_at_call 44; refine (isGift_any N M _ _ B n x _ (HBK.out.go HB0.out) HX.out HM.out).mono ?_; rw [HI.out]; rintro e w1 ⟨rfl, hb1⟩; (try clear c0); have HB1 := Lib.hid (bel HB0.out hb1); have c1 := (old_of HB1.out).1; clear hb1)
      go_ret
      exact ⟨ret_bool HF.out.symm, fin HB.out HB1.out⟩
    | true =>
      have HI := Lib.hid hi
      obtain ⟨fb, hfb⟩ : ∃ fb, fitL B (natL n x) = fb := ⟨_, rfl⟩
      have HFB := Lib.hid hfb
      have HF : Hid (fitsL B n x = fb) := by unfold Hid fitsL; rw [hi, decide_eq_true h40, hfb]; rfl
      have hn1 : n ≤ 1000 := by omega
      clear hi hfb h40
      go_enter Try.func13, Try.ntmps13
      go_wp2_with (first
        | (go_at_call 44; refine (isGift_any N M _ _ B n x _ (HBK.out.go HB0.out) HX.out HM.out).mono ?_; rw [HI.out]; rintro e w1 ⟨rfl, hb1⟩; (try clear c0); have HB1 := Lib.hid (bel HB0.out hb1); have c1 := (old_of HB1.out).1; clear hb1)
        | (go_at_call 45; refine (isFit_any N M _ _ B 4 n x _ (HBK.out.go HB1.out) HG.out (HX.out.go HM.out HB1.out) (Nat.le_trans HM.out HB1.out.size) (okGift_nat HI.out) hn1).mono ?_; rw [HFB.out]; rintro e w2 ⟨rfl, hb2⟩; (try clear c1); have HB2 := Lib.hid (bel HB1.out hb2); have c2 := (old_of HB2.out).1; clear hb2))
      go_ret
      exact ⟨ret_bool HF.out.symm, fin HB.out HB2.out⟩
  · have h40i : ¬ (n : Int) ≤ 40 := by omega
    have HF : Hid (fitsL B n x = false) := by unfold Hid fitsL; rw [decide_eq_false h40]; rfl
    clear h40
    go_enter Try.func13, Try.ntmps13
    go_wp2
    go_ret
    exact ⟨ret_bool HF.out.symm, HB.out⟩

/-- a gift that fits is one of the list -/
theorem fits_mem {B : SB} {n : Nat} {x : Nat → Int} (h : fitsL B n x = true) : natL n x ∈ giftsL B := by
  unfold fitsL at h
  rw [Bool.and_eq_true, Bool.and_eq_true] at h
  obtain ⟨⟨_, hg⟩, hf⟩ := h
  have hx := okGift_nat hg
  refine giftsL_all hf (natL_lt hx) ?_
  have hup : ∀ i j, i < j → j < n → x i < x j := by
    intro i j hij
    induction j with
    | zero => omega
    | succ j ih =>
      intro hj
      have h2 := allB_true.1 (by unfold okGift at hg; exact hg) (j + 1) hj
      simp only [Bool.and_eq_true, Bool.or_eq_true, decide_eq_true_eq, Nat.add_sub_cancel] at h2
      rcases Nat.lt_or_ge i j with h3 | h3
      · have := ih h3 (by omega)
        rcases h2.2 with h4 | h4 <;> omega
      · have : i = j := by omega
        subst this
        rcases h2.2 with h4 | h4 <;> omega
  unfold natL
  rw [List.pairwise_map]
  refine List.Pairwise.imp_of_mem ?_ List.pairwise_lt_range
  intro a b ha hb hab
  have h1 := hup a b hab (List.mem_range.1 hb)
  have h2 := hx a (List.mem_range.1 ha)
  omega
/-- the best is the greatest of all -/
theorem best_ge {f : List Nat → Nat} : ∀ (l : List (List Nat)) (g : List Nat), g ∈ l → f g ≤ f (bestL f l) := by
  have h : ∀ (l : List (List Nat)) (b : List Nat), f b ≤ f (l.foldl (bestStep f) b) ∧ ∀ g, g ∈ l → f g ≤ f (l.foldl (bestStep f) b) := by
    intro l
    induction l with
    | nil => intro b; exact ⟨Nat.le_refl _, fun g hg => by cases hg⟩
    | cons a l ih =>
      intro b
      obtain ⟨h1, h2⟩ := ih (bestStep f b a)
      have h3 : f b ≤ f (bestStep f b a) ∧ f a ≤ f (bestStep f b a) := by unfold bestStep; split <;> omega
      refine ⟨Nat.le_trans h3.1 h1, fun g hg => ?_⟩
      rcases List.mem_cons.1 hg with rfl | hg
      · exact Nat.le_trans h3.2 h1
      · exact h2 g hg
  intro l g hg
  exact (h l []).2 g hg

end Go.Proofs.Ytnnngbnimmcjiaa
