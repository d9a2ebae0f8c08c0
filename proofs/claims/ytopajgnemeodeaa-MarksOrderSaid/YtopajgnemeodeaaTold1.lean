/-
  Two sorts apart: what the marks that they have not in common do to the numbers of wrong values (no program here).
-/
import Derived.Test.YtopajgnemeodeaaApart
import Derived.Test.YtopajgnemeodeaaBoxB
namespace Go.Proofs.Ytopajgnemeodeaa
open Go.RowKit

theorem minTo_zero {n : Nat} {g : Nat → Nat} {a : Nat} (h : minTo n g a = 0) (ha : 0 < a) : ∃ i, i < n ∧ g i = 0 := by
  induction n with
  | zero => simp only [minTo] at h; omega
  | succ n ih =>
    simp only [minTo] at h
    by_cases hg : g n = 0
    · exact ⟨n, by omega, hg⟩
    · obtain ⟨i, hi, h'⟩ := ih (by omega)
      exact ⟨i, by omega, h'⟩

theorem cnt_zero {n : Nat} {p : Nat → Bool} (h : cnt n p = 0) : ∀ i, i < n → p i = false := by
  induction n with
  | zero => intro i hi; omega
  | succ n ih =>
    simp only [cnt] at h
    intro i hi
    rcases Nat.lt_succ_iff_lt_or_eq.1 hi with h' | h'
    · exact ih (by omega) i h'
    · subst h'
      cases hp : p i with
      | false => rfl
      | true => simp [hp] at h

/-- a mark with no wrong value: what is seen of it is a value that the sort can have -/
theorem lm_zero {B : Bk} {R : Fr} {s m f : Nat} (h : lm B R s m = 0) (hf : f < R.n) (hx : R.X f m ≠ -1) : ∃ i, i < B.ncc s m ∧ B.can s m i = R.X f m := by
  obtain ⟨i, hi, h0⟩ := minTo_zero h (by omega)
  have h1 := cnt_zero h0 f hf
  simp only [hx, ne_eq, not_false_eq_true, decide_true, Bool.true_and, Bool.not_eq_false'] at h1
  unfold right at h1
  split at h1
  · exact ⟨i, hi, by have := of_decide_eq_true h1; exact this.symm⟩
  · obtain ⟨j, hj, h2⟩ := anyB_true.1 h1
    exact ⟨j, hj, by have := of_decide_eq_true h2; exact this.symm⟩

theorem lm_apart {B : Bk} {R : Fr} {s t m f : Nat} (hc : common B s t m = false) (hf : f < R.n) (hx : R.X f m ≠ -1) : 1 ≤ lm B R s m + lm B R t m := by
  by_cases h1 : lm B R s m = 0
  · by_cases h2 : lm B R t m = 0
    · obtain ⟨i, hi, e1⟩ := lm_zero h1 hf hx
      obtain ⟨j, hj, e2⟩ := lm_zero h2 hf hx
      have := anyB_false.1 (anyB_false.1 hc i hi) j hj
      simp [e1, e2] at this
    · omega
  · omega

theorem sel_sum {p : Nat → Bool} {a b : Nat → Nat} : ∀ n, (∀ m, m < n → p m = true → 1 ≤ a m + b m) → (sel p n).length ≤ sumTo n a + sumTo n b
  | 0, _ => by simp [sel]
  | n + 1, h => by
    have ih := sel_sum n fun m hm => h m (by omega)
    simp only [sumTo]
    cases hp : p n with
    | true =>
      have := h n (by omega) hp
      rw [sel_hit hp]
      simp only [List.length_append, List.length_cons, List.length_nil]
      omega
    | false => rw [sel_miss hp]; omega

/-- where a fruit was seen whole, two sorts have at least as many wrong values as marks not in common -/
theorem apart_wrong {B : Bk} {R : Fr} {s t f : Nat} (hf : f < R.n) (hw : ∀ m, m < B.nv → R.X f m ≠ -1) : (apartL B s t).length ≤ wrong B R s + wrong B R t :=
  sel_sum B.nv fun m hm hp => lm_apart (by simpa using hp) hf (hw m hm)

theorem common_comm (B : Bk) (s t m : Nat) : common B s t m = common B t s m := by
  rw [Bool.eq_iff_iff]
  simp only [common, anyB_true, decide_eq_true_eq]
  constructor
  · rintro ⟨i, hi, j, hj, h⟩; exact ⟨j, hj, i, hi, h.symm⟩
  · rintro ⟨i, hi, j, hj, h⟩; exact ⟨j, hj, i, hi, h.symm⟩

theorem apartL_comm (B : Bk) (s t : Nat) : apartL B s t = apartL B t s := by
  unfold apartL
  rw [show (fun m => !common B s t m) = fun m => !common B t s m from funext fun m => by rw [common_comm]]

theorem sel_get {p : Nat → Bool} : ∀ n i, i < (sel p n).length → (0 ≤ (sel p n).getD i 0 ∧ (sel p n).getD i 0 < (n : Int)) ∧ (i = 0 ∨ (sel p n).getD (i - 1) 0 < (sel p n).getD i 0)
  | 0, i, h => by simp [sel] at h
  | n + 1, i, h => by
    cases hp : p n with
    | false =>
      rw [sel_miss hp] at h ⊢
      have := sel_get n i h
      exact ⟨⟨this.1.1, by have := this.1.2; omega⟩, this.2⟩
    | true =>
      rw [sel_hit hp] at h ⊢
      have key : ∀ j, j < (sel p n).length → (sel p n ++ [(n : Int)]).getD j 0 = (sel p n).getD j 0 := fun j hj => by
        simp [List.getD_eq_getElem?_getD, List.getElem?_append_left hj]
      have top : (sel p n ++ [(n : Int)]).getD (sel p n).length 0 = (n : Int) := by simp [List.getD_eq_getElem?_getD]
      simp only [List.length_append, List.length_cons, List.length_nil] at h
      by_cases hi : i < (sel p n).length
      · have := sel_get n i hi
        rw [key i hi]
        refine ⟨⟨this.1.1, by have := this.1.2; omega⟩, ?_⟩
        rcases this.2 with h0 | h0
        · exact .inl h0
        · exact .inr (by rw [key (i - 1) (by omega)]; exact h0)
      · have he : i = (sel p n).length := by omega
        subst he
        rw [top]
        refine ⟨⟨by omega, by omega⟩, ?_⟩
        by_cases h0 : (sel p n).length = 0
        · exact .inl h0
        · have := sel_get (p := p) n ((sel p n).length - 1) (by omega)
          exact .inr (by rw [key _ (by omega)]; exact this.1.2)

theorem sel_rises (p : Nat → Bool) (n : Nat) : rises (sel p n).length (fun i => (sel p n).getD i 0) 0 ((n : Int) - 1) = true := by
  unfold rises
  rw [allB_true]
  intro i hi
  obtain ⟨⟨h1, h2⟩, h3⟩ := sel_get n i hi
  simp only [risesAt, Bool.and_eq_true, Bool.or_eq_true, decide_eq_true_eq]
  exact ⟨⟨h1, by omega⟩, h3⟩

theorem sel_mem {p : Nat → Bool} {k : Nat} : ∀ {n}, anyB (sel p n).length (fun i => decide ((sel p n).getD i 0 = (k : Int))) = true → k < n ∧ p k = true
  | 0, h => by simp [sel, anyB] at h
  | n + 1, h => by
    obtain ⟨i, hi, he⟩ := anyB_true.1 h
    have he := of_decide_eq_true he
    cases hp : p n with
    | false =>
      rw [sel_miss hp] at hi he
      have := sel_mem (p := p) (k := k) (n := n) (anyB_true.2 ⟨i, hi, decide_eq_true he⟩)
      exact ⟨by omega, this.2⟩
    | true =>
      rw [sel_hit hp] at hi he
      by_cases hl : i < (sel p n).length
      · simp only [List.getD_eq_getElem?_getD, List.getElem?_append_left hl] at he
        have := sel_mem (p := p) (k := k) (n := n) (anyB_true.2 ⟨i, hl, decide_eq_true (by rw [List.getD_eq_getElem?_getD]; exact he)⟩)
        exact ⟨by omega, this.2⟩
      · simp only [List.length_append, List.length_cons, List.length_nil] at hi
        have : i = (sel p n).length := by omega
        subst this
        simp [List.getD_eq_getElem?_getD] at he
        have hk : k = n := by omega
        subst hk
        exact ⟨by omega, hp⟩

theorem cnt_full {n : Nat} {p : Nat → Bool} (h : cnt n p = n) : ∀ i, i < n → p i = true := by
  induction n with
  | zero => intro i hi; omega
  | succ n ih =>
    have hl := cnt_le n p
    simp only [cnt] at h
    cases hp : p n with
    | false => simp [hp] at h; omega
    | true =>
      simp [hp] at h
      intro i hi
      rcases Nat.lt_succ_iff_lt_or_eq.1 hi with h' | h'
      · exact ih h i h'
      · rw [h']; exact hp

/-- two sorts that both can be: at most twice Wrong marks not in common, where a fruit was seen whole -/
theorem apart_both {B : Bk} {R : Fr} {s t f : Nat} (hf : f < R.n) (hw : ∀ m, m < B.nv → R.X f m ≠ -1)
    (h1 : anyB (sorts B R).length (fun i => decide ((sorts B R).getD i 0 = (s : Int))) = true) (h2 : anyB (sorts B R).length (fun i => decide ((sorts B R).getD i 0 = (t : Int))) = true) :
    ((apartL B s t).length : Int) ≤ 2 * B.wr := by
  have k1 := of_decide_eq_true (sel_mem h1).2
  have k2 := of_decide_eq_true (sel_mem h2).2
  have := apart_wrong (s := s) (t := t) hf hw
  omega

end Go.Proofs.Ytopajgnemeodeaa
