/-
  Each0: a gift without one of its wants; lost sorts, in words of lists.
-/
import Derived.Test.YtnnngbnimmcjiaaMore0
namespace Go.Proofs.Ytnnngbnimmcjiaa
open Go.RowKit

theorem okGift_up {nw n : Nat} {x : Nat → Int} (hg : okGift nw n x = true) : ∀ i j, i < j → j < n → x i < x j := by
  intro i j hij
  induction j with
  | zero => omega
  | succ j ih =>
    intro hj
    have h2 := allB_true.1 (by unfold okGift at hg; exact hg) (j + 1) hj
    simp only [Bool.and_eq_true, Bool.or_eq_true, decide_eq_true_eq, Nat.add_sub_cancel] at h2
    rcases Nat.lt_or_ge i j with h3 | h3
    · have := ih h3 (by omega)
      rcases h2.2 with h4 | h4 <;> omega
    · have : i = j := by omega
      subst this
      rcases h2.2 with h4 | h4 <;> omega
/-- without the p-th -/
def dropX (x : Nat → Int) (p : Nat) (i : Nat) : Int := if i < p then x i else x (i + 1)
theorem drop_ok {nw n p : Nat} {x : Nat → Int} (hg : okGift nw n x = true) (hp : p < n) : okGift nw (n - 1) (dropX x p) = true := by
  have hx := okGift_nat hg
  have hu := okGift_up hg
  unfold okGift
  refine allB_true.2 fun i hi => ?_
  simp only [Bool.and_eq_true, Bool.or_eq_true, decide_eq_true_eq]
  refine ⟨?_, ?_⟩
  · unfold dropX
    split
    · exact hx i (by omega)
    · exact hx (i + 1) (by omega)
  · by_cases h0 : i = 0
    · exact .inl h0
    · refine .inr ?_
      unfold dropX
      split <;> split
      · exact hu _ _ (by omega) (by omega)
      · exact hu _ _ (by omega) (by omega)
      · omega
      · exact hu _ _ (by omega) (by omega)
theorem natL_get {n : Nat} {x : Nat → Int} {i : Nat} (h : i < (natL n x).length) : (natL n x)[i] = (x i).toNat := by simp [natL]
theorem drop_sub {n p : Nat} {x : Nat → Int} (hp : p < n) : (natL (n - 1) (dropX x p)).Sublist (natL n x) := by
  have e : natL (n - 1) (dropX x p) = (natL n x).eraseIdx p := by
    apply List.ext_getElem
    · rw [List.length_eraseIdx_of_lt (by rw [natL_len]; exact hp), natL_len, natL_len]
    · intro i h1 h2
      rw [List.getElem_eraseIdx]
      rw [natL_get]
      unfold dropX
      by_cases h : i < p
      · rw [dif_pos h, natL_get, if_pos h]
      · rw [dif_neg h, natL_get, if_neg h]
  rw [e]
  exact List.eraseIdx_sublist _ _
theorem fits_ok {B : SB} {n : Nat} {x : Nat → Int} (h : fitsL B n x = true) : n ≤ 40 ∧ okGift B.nw n x = true ∧ fitL B (natL n x) = true := by
  unfold fitsL at h
  rw [Bool.and_eq_true, Bool.and_eq_true, decide_eq_true_eq] at h
  exact ⟨h.1.1, h.1.2, h.2⟩
theorem eFits_ok {B : SB} {n : Nat} {x : Nat → Int} (hv : okL B = true) (hg : okGift B.nw n x = true) (hf : fitL B (natL n x) = true) : eFits B n x = (true, 0) := by
  unfold eFits; rw [hv, hg, hf]; rfl
theorem drop_fits {B : SB} {n p : Nat} {x : Nat → Int} (hv : okL B = true) (hg : okGift B.nw n x = true) (hf : fitL B (natL n x) = true) (hp : p < n) : eFits B (n - 1) (dropX x p) = (true, 0) :=
  eFits_ok hv (drop_ok hg hp) (fit_sub (goodL hv) (drop_sub hp) (natL_lt (okGift_nat hg)) hf)
theorem each_rank {B : SB} (hG : GoodL B 4) {g : List Nat} (h : g ∈ giftsL B) : decide (rankC (cS B (bestL (rankG B) (giftsL B))) B.ns < rankC (cS B g) B.ns) = false := by
  have h1 := best_ge (f := rankG B) _ _ h
  have ok1 := giftsL_ok (best_in (B := B) (rankG B))
  have ok2 := giftsL_ok h
  have h2 := rank_pad (c := cS B g) (d := cS B (bestL (rankG B) (giftsL B))) (n := B.ns) (ok2.cS0 hG) (ok1.cS0 hG) (4 - B.ns)
  have := hG.ns
  rw [show B.ns + (4 - B.ns) = 4 by omega] at h2
  refine decide_eq_false fun hl => ?_
  have h3 := h2.2 hl
  change rankC _ 4 ≤ rankC _ 4 at h1
  omega
theorem safeN_ge {B : SB} {g : List Nat} (h : g ∈ giftsL B) : safeG B g ≤ safeN B := best_ge (f := safeG B) _ _ h

theorem sel_pad {p : Nat → Bool} {n : Nat} (h : ∀ i, n ≤ i → p i = false) : ∀ m, sel p (n + m) = sel p n := by
  intro m
  induction m with
  | zero => rfl
  | succ m ih => rw [← Nat.add_assoc, sel_miss (h _ (by omega)), ih]
theorem lost_sel {B : SB} (hG : GoodL B 4) {g : List Nat} (h : g ∈ giftsL B) (f : Nat) : sel (lostP B g f) 4 = sel (lostP B g f) B.ns := by
  have := hG.ns
  have h1 := sel_pad (p := lostP B g f) (n := B.ns) (fun i hi => by
    unfold lostP; rw [(giftsL_ok h).cS0 hG i hi]; rfl) (4 - B.ns)
  rw [show B.ns + (4 - B.ns) = 4 by omega] at h1
  exact h1
theorem sel_mem {p : Nat → Bool} {s : Int} : ∀ n, s ∈ sel p n ↔ ∃ k : Nat, k < n ∧ p k = true ∧ s = k := by
  intro n
  induction n with
  | zero => constructor
            · intro h; cases h
            · intro ⟨k, h, _⟩; omega
  | succ n ih =>
    unfold sel
    split
    · rename_i hp
      rw [List.mem_append, ih, List.mem_singleton]
      constructor
      · rintro (⟨k, h1, h2, h3⟩ | h)
        · exact ⟨k, by omega, h2, h3⟩
        · exact ⟨n, by omega, hp, h⟩
      · rintro ⟨k, h1, h2, h3⟩
        by_cases e : k = n
        · subst e; exact .inr h3
        · exact .inl ⟨k, by omega, h2, h3⟩
    · rename_i hp
      rw [ih]
      constructor
      · rintro ⟨k, h1, h2, h3⟩; exact ⟨k, by omega, h2, h3⟩
      · rintro ⟨k, h1, h2, h3⟩
        by_cases e : k = n
        · subst e; exact absurd h2 hp
        · exact ⟨k, by omega, h2, h3⟩
theorem sel_in {p : Nat → Bool} {n s : Nat} (hs : s < n) : (anyB (sel p n).length fun i => decide ((sel p n).getD i 0 = (s : Int))) = p s := by
  rw [Bool.eq_iff_iff, anyB_true]
  constructor
  · rintro ⟨i, hi, he⟩
    have hm : (s : Int) ∈ sel p n := by
      rw [← of_decide_eq_true he, List.getD_eq_getElem?_getD, List.getElem?_eq_getElem hi]
      exact List.getElem_mem _
    obtain ⟨k, _, h2, h3⟩ := (sel_mem n).1 hm
    have : s = k := by omega
    rw [this]; exact h2
  · intro h
    obtain ⟨i, hi, he⟩ := List.getElem_of_mem ((sel_mem n).2 ⟨s, hs, h, rfl⟩)
    exact ⟨i, hi, by rw [List.getD_eq_getElem?_getD, List.getElem?_eq_getElem hi]; exact decide_eq_true he⟩
/-- what is lost was given once -/
theorem lost_one {B : SB} {g : List Nat} {f i : Nat} {n : Nat} (hi : i < (sel (lostP B g f) n).length) : ∃ s : Nat, (sel (lostP B g f) n).getD i 0 = (s : Int) ∧ s < n ∧ cS B g s = 1 := by
  have hm : (sel (lostP B g f) n).getD i 0 ∈ sel (lostP B g f) n := by
    rw [List.getD_eq_getElem?_getD, List.getElem?_eq_getElem hi]; exact List.getElem_mem _
  obtain ⟨k, h1, h2, h3⟩ := (sel_mem n).1 hm
  unfold lostP at h2
  rw [Bool.and_eq_true, decide_eq_true_eq] at h2
  exact ⟨k, h3, h1, h2.1⟩
theorem lost_is {B : SB} {g : List Nat} {f s : Nat} (hc : cT B g s f ≤ 1) : lostP B g f s = (decide (cS B g s = 1) && decide (cT B g s f = 1)) := by
  unfold lostP
  rw [cT_fr]
  congr 1
  exact decide_eq_decide.2 (by omega)

end Go.Proofs.Ytnnngbnimmcjiaa
