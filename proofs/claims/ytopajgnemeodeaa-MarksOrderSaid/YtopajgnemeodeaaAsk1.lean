/-
  The next mark: what After and Next are (no program here).
-/
import Derived.Test.YtopajgnemeodeaaMore1
import Derived.Test.YtopajgnemeodeaaTold3
namespace Go.Proofs.Ytopajgnemeodeaa
open Go.RowKit

theorem nx_spec (B : Bk) (R : Fr) (f : Nat) : ∀ k, ((nx B R f k).2.2 = true → (nx B R f k).1 < k ∧ R.X f (nx B R f k).1 = -1 ∧ (nx B R f k).2.1 = afterOf B R f (nx B R f k).1 ∧
      ∀ j, j < k → R.X f j = -1 → afterOf B R f (nx B R f k).1 ≤ afterOf B R f j ∧ (afterOf B R f j = afterOf B R f (nx B R f k).1 → (nx B R f k).1 ≤ j)) ∧
    ((nx B R f k).2.2 = false → ∀ j, j < k → R.X f j ≠ -1)
  | 0 => ⟨fun h => by simp [nx] at h, fun _ j hj => by omega⟩
  | k + 1 => by
    have ih := nx_spec B R f k
    unfold nx
    by_cases hx : R.X f k ≠ -1
    · rw [if_pos hx]
      refine ⟨fun h => ?_, fun h j hj => ?_⟩
      · obtain ⟨h1, h2, h3, h4⟩ := ih.1 h
        refine ⟨by omega, h2, h3, fun j hj hjx => ?_⟩
        rcases Nat.lt_succ_iff_lt_or_eq.1 hj with h' | h'
        · exact h4 j h' hjx
        · subst h'; exact absurd hjx hx
      · rcases Nat.lt_succ_iff_lt_or_eq.1 hj with h' | h'
        · exact ih.2 h j h'
        · subst h'; exact hx
    · rw [if_neg hx]
      have hx' : R.X f k = -1 := by simpa using hx
      by_cases hc : (nx B R f k).2.2 = false ∨ afterOf B R f k < (nx B R f k).2.1
      · rw [if_pos hc]
        refine ⟨fun _ => ⟨Nat.lt_succ_self _, hx', rfl, fun j hj hjx => ?_⟩, fun h => by simp at h⟩
        rcases Nat.lt_succ_iff_lt_or_eq.1 hj with h' | h'
        · rcases hc with hc | hc
          · exact absurd hjx (ih.2 hc j h')
          · by_cases hf : (nx B R f k).2.2 = false
            · exact absurd hjx (ih.2 hf j h')
            · obtain ⟨_, _, h3, h4⟩ := ih.1 (by simpa using hf)
              have := h4 j h' hjx
              rw [h3] at hc
              show afterOf B R f k ≤ _ ∧ (_ → k ≤ j)
              exact ⟨by omega, fun e => by have e' : afterOf B R f j = afterOf B R f k := e; omega⟩
        · subst h'; exact ⟨Nat.le_refl _, fun _ => Nat.le_refl _⟩
      · rw [if_neg hc]
        have hf : (nx B R f k).2.2 = true := by
          cases h : (nx B R f k).2.2 with
          | true => rfl
          | false => exact absurd (Or.inl h) hc
        refine ⟨fun h => ?_, fun h => by rw [hf] at h; simp at h⟩
        obtain ⟨h1, h2, h3, h4⟩ := ih.1 h
        refine ⟨by omega, h2, h3, fun j hj hjx => ?_⟩
        rcases Nat.lt_succ_iff_lt_or_eq.1 hj with h' | h'
        · exact h4 j h' hjx
        · subst h'
          have : ¬ afterOf B R f j < (nx B R f j).2.1 := fun h => hc (.inr h)
          rw [h3] at this
          exact ⟨by omega, fun _ => by omega⟩

theorem le_maxTo {g : Nat → Nat} : ∀ {n i : Nat}, i < n → g i ≤ maxTo n g
  | n + 1, i, h => by
    simp only [maxTo]
    rcases Nat.lt_succ_iff_lt_or_eq.1 h with h' | h'
    · have := le_maxTo (g := g) h'; omega
    · subst h'; omega

theorem sorts_see {B : Bk} {R : Fr} {f m : Nat} {y : Int} (hf : f < R.n) (hm : m < B.nv) (h0 : R.X f m = -1) : (sorts B (R.set f m y)).length ≤ (sorts B R).length :=
  sel_le fun s _ hp => decide_eq_true (by have := of_decide_eq_true hp; have := (wrong_see (s := s) (y := y) hf hm h0).1; omega)

theorem after_le {B : Bk} {R : Fr} {f m : Nat} (hf : f < R.n) (hm : m < B.nv) (h0 : R.X f m = -1) : afterOf B R f m ≤ (sorts B R).length :=
  maxTo_le _ _ _ fun _ _ => sorts_see hf hm h0

theorem after_ge {B : Bk} {R : Fr} {f m : Nat} {y : Int} (h0 : 0 ≤ y) (h1 : y < B.V m) : (sorts B (R.set f m y)).length ≤ afterOf B R f m := by
  have := le_maxTo (g := fun x => (sorts B (R.set f m x)).length) (n := (B.V m).toNat) (i := y.toNat) (by omega)
  have e : ((y.toNat : Nat) : Int) = y := Int.toNat_of_nonneg h0
  have h' : (sorts B (R.set f m ((y.toNat : Nat) : Int))).length ≤ afterOf B R f m := this
  rwa [e] at h'

theorem can_range {n : Nat} {c : Nat → Int} {hi : Int} (h : okCan n c hi = true) {i : Nat} (hin : i < n) : 0 ≤ c i ∧ c i < hi := by
  unfold okCan at h
  simp only [Bool.and_eq_true, allB_true, decide_eq_true_eq] at h
  exact (h.2 i hin).1

/-- of each sort there is a value of a mark that was not looked at by which no more values are wrong -/
theorem see_best {B : Bk} {R : Fr} {s f m : Nat} (hg : Good B R) (hs : s < B.ns) (hf : f < R.n) (hm : m < B.nv) (hx : R.X f m = -1) :
    ∃ y : Int, 0 ≤ y ∧ y < B.V m ∧ wrong B (R.set f m y) s ≤ wrong B R s := by
  have h0 := hg.ncc s hs m hm
  obtain ⟨i, hi, he⟩ := lm_hit (B := B) (R := R) (s := s) (m := m) f h0
  have hc := can_range (hg.can s hs m hm) hi
  refine ⟨B.can s m i, hc.1, hc.2, ?_⟩
  have e1 : lm B (R.set f m (B.can s m i)) s m ≤ lm B R s m := by
    refine Nat.le_trans (lm_le_mw (f := (f : Int)) h0 (inCan_can hi)) ?_
    rw [← he]
    have e := cnt_put (n := R.n) (f := f) (p := fun g => decide (R.X g m ≠ -1) && !right (B.F m == 1) f (B.can s m i) (B.ncc s m) (B.can s m) g (R.X g m))
      (q := fun g => decide ((R.set f m (B.can s m i)).X g m ≠ -1) && !right (B.F m == 1) f (B.can s m i) (B.ncc s m) (B.can s m) g ((R.set f m (B.can s m i)).X g m)) hf
      (fun j _ hjf => by simp [Fr.set, hjf])
    have q1 : (decide ((R.set f m (B.can s m i)).X f m ≠ -1) && !right (B.F m == 1) f (B.can s m i) (B.ncc s m) (B.can s m) f ((R.set f m (B.can s m i)).X f m)) = false := by
      have : right (B.F m == 1) f (B.can s m i) (B.ncc s m) (B.can s m) f ((R.set f m (B.can s m i)).X f m) = true := by simp [right, Fr.set]
      rw [this]; simp
    have q2 : (decide (R.X f m ≠ -1) && !right (B.F m == 1) f (B.can s m i) (B.ncc s m) (B.can s m) f (R.X f m)) = false := by simp [hx]
    simp only [q1, q2] at e
    exact Nat.le_of_eq (Nat.add_right_cancel e).symm
  have e : sumTo B.nv (lm B R s) + lm B (R.set f m (B.can s m i)) s m = sumTo B.nv (lm B (R.set f m (B.can s m i)) s) + lm B R s m := sumTo_put hm fun j _ hj => (lm_set hj).symm
  unfold wrong
  omega

theorem sel_pos {p : Nat → Bool} {k : Nat} (hp : p k = true) : ∀ {n}, k < n → 0 < (sel p n).length
  | n + 1, h => by
    rcases Nat.lt_succ_iff_lt_or_eq.1 h with h' | h'
    · have := sel_pos hp h'
      cases hq : p n with
      | true => rw [sel_hit hq]; simp
      | false => rw [sel_miss hq]; exact this
    · subst h'; rw [sel_hit hp]; simp

theorem after_pos {B : Bk} {R : Fr} {f m : Nat} (hg : Good B R) (hf : f < R.n) (hm : m < B.nv) (hx : R.X f m = -1) (hl : 0 < (sorts B R).length) : 1 ≤ afterOf B R f m := by
  obtain ⟨s, hs, hp, _⟩ := sel_one (i := 0) hl
  obtain ⟨y, h0, h1, hw⟩ := see_best hg hs hf hm hx
  have : 0 < (sorts B (R.set f m y)).length := sel_pos (k := s) (decide_eq_true (by have := of_decide_eq_true hp; omega)) hs
  exact Nat.le_trans this (after_ge h0 h1)

theorem full_cnt {n : Nat} {p : Nat → Bool} (h : ∀ i, i < n → p i = true) : cnt n p = n := by
  induction n with
  | zero => rfl
  | succ n ih => simp only [cnt]; rw [ih fun i hi => h i (by omega), h n (by omega)]; simp

end Go.Proofs.Ytopajgnemeodeaa
