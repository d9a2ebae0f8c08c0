/-
  What the chapter counts, and what the program counts: the same numbers (no program here).
-/
import Derived.Test.YtopajgnemeodeaaTold1
import Derived.Test.YtopajgnemeodeaaBoxB
namespace Go.Proofs.Ytopajgnemeodeaa
open Go.RowKit

theorem cnt_congr {n : Nat} {p q : Nat → Bool} (h : ∀ i, i < n → p i = q i) : cnt n p = cnt n q := by
  induction n with
  | zero => rfl
  | succ n ih => simp only [cnt]; rw [ih fun i hi => h i (by omega), h n (by omega)]
theorem cnt_mono {n : Nat} {p q : Nat → Bool} (h : ∀ i, i < n → p i = true → q i = true) : cnt n p ≤ cnt n q := by
  induction n with
  | zero => exact Nat.le_refl _
  | succ n ih =>
    simp only [cnt]
    have h1 := ih fun i hi => h i (by omega)
    cases hp : p n with
    | false => simp; omega
    | true => rw [h n (by omega) hp]; simp; omega
theorem cnt_zero_of {n : Nat} {p : Nat → Bool} (h : ∀ i, i < n → p i = false) : cnt n p = 0 := by
  induction n with
  | zero => rfl
  | succ n ih => simp only [cnt]; rw [ih fun i hi => h i (by omega), h n (by omega)]; rfl
theorem minTo_congr {n : Nat} {g h : Nat → Nat} {a : Nat} (e : ∀ i, i < n → g i = h i) : minTo n g a = minTo n h a := by
  induction n with
  | zero => rfl
  | succ n ih => simp only [minTo]; rw [ih fun i hi => e i (by omega), e n (by omega)]
theorem minTo_le_at {n : Nat} {g : Nat → Nat} {a i : Nat} (hi : i < n) : minTo n g a ≤ g i := by
  induction n with
  | zero => omega
  | succ n ih =>
    simp only [minTo]
    rcases Nat.lt_succ_iff_lt_or_eq.1 hi with h | h
    · have := ih h; omega
    · subst h; omega
theorem minTo_hit (n : Nat) (g : Nat → Nat) (a : Nat) : minTo n g a = a ∨ ∃ i, i < n ∧ minTo n g a = g i := by
  induction n with
  | zero => exact .inl rfl
  | succ n ih =>
    simp only [minTo]
    by_cases h : minTo n g a ≤ g n
    · rw [Nat.min_eq_left h]
      rcases ih with ih | ⟨i, hi, ih⟩
      · exact .inl ih
      · exact .inr ⟨i, by omega, ih⟩
    · rw [Nat.min_eq_right (by omega)]
      exact .inr ⟨n, by omega, rfl⟩
theorem minTo_le_init {n : Nat} {g : Nat → Nat} {a b : Nat} (h : a ≤ b) : minTo n g a ≤ minTo n g b := by
  induction n with
  | zero => exact h
  | succ n ih => simp only [minTo]; omega
theorem minTo_init {n : Nat} {g : Nat → Nat} {a b : Nat} (h0 : 0 < n) (hg : ∀ i, i < n → g i ≤ a) (hab : a ≤ b) : minTo n g b = minTo n g a := by
  have h1 := minTo_le_init (n := n) (g := g) hab
  have h2 : minTo n g b ≤ minTo n g a := by
    rcases minTo_hit n g a with h | ⟨i, hi, h⟩
    · have := minTo_le_at (g := g) (a := b) h0; have := hg 0 h0; omega
    · rw [h]; exact minTo_le_at hi
  omega
theorem sumTo_congr {n : Nat} {g h : Nat → Nat} (e : ∀ i, i < n → g i = h i) : sumTo n g = sumTo n h := by
  induction n with
  | zero => rfl
  | succ n ih => simp only [sumTo]; rw [ih fun i hi => e i (by omega), e n (by omega)]
theorem sumTo_mono {n : Nat} {g h : Nat → Nat} (e : ∀ i, i < n → g i ≤ h i) : sumTo n g ≤ sumTo n h := by
  induction n with
  | zero => exact Nat.le_refl _
  | succ n ih => simp only [sumTo]; have := ih fun i hi => e i (by omega); have := e n (by omega); omega
theorem sumTo_zero {n : Nat} {g : Nat → Nat} (e : ∀ i, i < n → g i = 0) : sumTo n g = 0 := by
  induction n with
  | zero => rfl
  | succ n ih => simp only [sumTo]; rw [ih fun i hi => e i (by omega), e n (by omega)]
/-- one place of a sum, put differently -/
theorem sumTo_put {n m : Nat} {g h : Nat → Nat} (hm : m < n) (e : ∀ i, i < n → i ≠ m → g i = h i) : sumTo n g + h m = sumTo n h + g m := by
  induction n with
  | zero => omega
  | succ n ih =>
    simp only [sumTo]
    by_cases hmn : m = n
    · subst hmn
      rw [sumTo_congr fun i hi => e i (by omega) (by omega)]; omega
    · have := ih (by omega) fun i hi hne => e i (by omega) hne
      have := e n (by omega) (by omega)
      omega

theorem bad_congr {R : Fr} {m n : Nat} {r r' : Nat → Int → Bool} (h : ∀ f, f < n → R.X f m ≠ -1 → r f (R.X f m) = r' f (R.X f m)) : bad R m r n = bad R m r' n := by
  unfold bad
  refine cnt_congr fun f hf => ?_
  by_cases hx : R.X f m = -1
  · simp [hx]
  · rw [h f hf hx]

/-- of all fruits the value x -/
def unl (R : Fr) (m : Nat) (x : Int) : Nat := bad R m (fun _ v => decide (v = x)) R.n
def inCan (B : Bk) (s m : Nat) (v : Int) : Bool := anyB (B.ncc s m) fun i => decide (v = B.can s m i)
/-- not one that the sort can have -/
def outC (B : Bk) (R : Fr) (s m : Nat) : Nat := bad R m (fun _ v => inCan B s m v) R.n

theorem unl_le (R : Fr) (m : Nat) (x : Int) : unl R m x ≤ R.n := bad_le _ _ _ _
theorem outC_le (B : Bk) (R : Fr) (s m : Nat) : outC B R s m ≤ R.n := bad_le _ _ _ _

theorem mw_firm {B : Bk} {R : Fr} {s m : Nat} {f x : Int} (hF : B.F m = 1) : mw B R s f m x = unl R m x :=
  bad_congr fun g _ _ => by simp [right, hF]

theorem mw_loose {B : Bk} {R : Fr} {s m : Nat} {f x : Int} (hF : B.F m ≠ 1) : mw B R s f m x = bad R m (fun g v => if (g : Int) = f then decide (v = x) else inCan B s m v) R.n :=
  bad_congr fun g _ _ => by
    have : (B.F m == 1) = false := by simpa using hF
    by_cases hg : (g : Int) = f <;> simp [right, this, hg, inCan]

theorem inCan_can {B : Bk} {s m i : Nat} (hi : i < B.ncc s m) : inCan B s m (B.can s m i) = true := anyB_true.2 ⟨i, hi, by simp⟩

theorem outC_le_mw {B : Bk} {R : Fr} {s m : Nat} {f x : Int} (hF : B.F m ≠ 1) (hx : inCan B s m x = true) : outC B R s m ≤ mw B R s f m x := by
  rw [mw_loose hF]
  refine cnt_mono fun g _ h => ?_
  simp only [Bool.and_eq_true, Bool.not_eq_true'] at h ⊢
  refine ⟨h.1, ?_⟩
  split
  · have h2 := h.2
    cases hd : decide (R.X g m = x) with
    | false => rfl
    | true => rw [of_decide_eq_true hd, hx] at h2; cases h2
  · exact h.2

theorem mw_best {B : Bk} {R : Fr} {s m f : Nat} {x : Int} (hF : B.F m ≠ 1) (hx : inCan B s m x = true) (h : R.X f m = x ∨ R.X f m = -1 ∨ inCan B s m (R.X f m) = false) : mw B R s f m x = outC B R s m := by
  rw [mw_loose hF]
  refine bad_congr fun g _ hne => ?_
  by_cases hg : (g : Int) = f
  · have hgf : g = f := by omega
    subst hgf
    rw [if_pos rfl]
    rcases h with h | h | h
    · rw [h, hx]; simp
    · exact absurd h hne
    · rw [h]
      simp only [decide_eq_false_iff_not]
      intro hh; rw [hh, hx] at h; cases h
  · rw [if_neg hg]

/-- some real value of the fruit f costs no more than must be -/
theorem mw_some {B : Bk} {R : Fr} {s m : Nat} (f : Nat) (hF : B.F m ≠ 1) (h0 : 0 < B.ncc s m) : ∃ i, i < B.ncc s m ∧ mw B R s f m (B.can s m i) = outC B R s m := by
  cases hc : inCan B s m (R.X f m) with
  | true =>
    obtain ⟨i, hi, h⟩ := anyB_true.1 hc
    have h := of_decide_eq_true h
    exact ⟨i, hi, mw_best hF (inCan_can hi) (.inl h)⟩
  | false => exact ⟨0, h0, mw_best hF (inCan_can h0) (.inr (.inr hc))⟩

theorem lm_loose {B : Bk} {R : Fr} {s m : Nat} (hF : B.F m ≠ 1) (h0 : 0 < B.ncc s m) : lm B R s m = outC B R s m := by
  obtain ⟨i, hi, h⟩ := mw_some (R := R) 0 hF h0
  have h1 : lm B R s m ≤ outC B R s m := by rw [← h]; exact minTo_le_at (g := fun i => mw B R s 0 m (B.can s m i)) hi
  have h2 : outC B R s m ≤ lm B R s m := by
    rcases minTo_hit (B.ncc s m) (fun i => mw B R s 0 m (B.can s m i)) R.n with e | ⟨j, hj, e⟩
    · unfold lm; rw [e]; exact outC_le _ _ _ _
    · unfold lm; rw [e]; exact outC_le_mw hF (inCan_can hj)
  omega

theorem lm_firm {B : Bk} {R : Fr} {s m : Nat} (hF : B.F m = 1) : lm B R s m = minTo (B.ncc s m) (fun i => unl R m (B.can s m i)) R.n :=
  minTo_congr fun i _ => mw_firm hF

theorem lm_le_mw {B : Bk} {R : Fr} {s m : Nat} {f x : Int} (h0 : 0 < B.ncc s m) (hx : inCan B s m x = true) : lm B R s m ≤ mw B R s f m x := by
  by_cases hF : B.F m = 1
  · rw [lm_firm hF, mw_firm hF]
    obtain ⟨i, hi, h⟩ := anyB_true.1 hx
    have h := of_decide_eq_true h
    rw [h]
    exact minTo_le_at (g := fun i => unl R m (B.can s m i)) hi
  · rw [lm_loose hF h0]; exact outC_le_mw hF hx

theorem lm_hit {B : Bk} {R : Fr} {s m : Nat} (f : Nat) (h0 : 0 < B.ncc s m) : ∃ i, i < B.ncc s m ∧ mw B R s f m (B.can s m i) = lm B R s m := by
  by_cases hF : B.F m = 1
  · rcases minTo_hit (B.ncc s m) (fun i => unl R m (B.can s m i)) R.n with e | ⟨j, hj, e⟩
    · refine ⟨0, h0, ?_⟩
      have h1 := minTo_le_at (g := fun i => unl R m (B.can s m i)) (a := R.n) h0
      have h2 := unl_le R m (B.can s m 0)
      rw [mw_firm hF, lm_firm hF, e]
      have h1' : R.n ≤ unl R m (B.can s m 0) := by rw [← e]; exact h1
      omega
    · exact ⟨j, hj, by rw [mw_firm hF, lm_firm hF, e]⟩
  · rw [lm_loose hF h0]; exact mw_some f hF h0

/-- what the chapter counts of a mark whose values can be n numbers c -/
def ofm (B : Bk) (R : Fr) (m n : Nat) (c : Nat → Int) : Nat := if B.F m = 1 then minTo n (fun k => unl R m (c k)) 1000 else bad R m (fun _ v => anyB n fun i => decide (v = c i)) R.n

theorem ofm_can {B : Bk} {R : Fr} {s m : Nat} (h0 : 0 < B.ncc s m) (hn : R.n ≤ 1000) : ofm B R m (B.ncc s m) (B.can s m) = lm B R s m := by
  unfold ofm
  by_cases hF : B.F m = 1
  · rw [if_pos hF, lm_firm hF]; exact minTo_init h0 (fun i _ => unl_le _ _ _) hn
  · rw [if_neg hF, lm_loose hF h0]; rfl

theorem lm_set {B : Bk} {R : Fr} {s i f m : Nat} {x : Int} (hi : i ≠ m) : lm B (R.set f m x) s i = lm B R s i := by
  unfold lm
  refine minTo_congr fun k _ => ?_
  unfold mw bad
  exact cnt_congr fun g _ => by simp [Fr.set, hi]

theorem cnt_put {n f : Nat} {p q : Nat → Bool} (hf : f < n) (e : ∀ i, i < n → i ≠ f → p i = q i) : cnt n p + (if q f then 1 else 0) = cnt n q + (if p f then 1 else 0) := by
  induction n with
  | zero => omega
  | succ n ih =>
    simp only [cnt]
    by_cases hfn : f = n
    · subst hfn
      rw [cnt_congr fun i hi => e i (by omega) (by omega)]; omega
    · have := ih (by omega) fun i hi hne => e i (by omega) hne
      have h2 := e n (by omega) (by omega)
      rw [h2]; omega

/-- what the chapter counts if a mark of a fruit really has a value -/
def rl (B : Bk) (R : Fr) (s f m : Nat) (x : Int) : Nat :=
  (if R.X f m ≠ -1 ∧ R.X f m ≠ x then 1 else 0) + sumTo B.nv fun i => if i = m ∧ B.F i = 1 then ofm B (R.set f m (-1)) i 1 (fun _ => x) else ofm B (R.set f m (-1)) i (B.ncc s i) (B.can s i)

theorem rl_firm {B : Bk} {R : Fr} {f m : Nat} {x : Int} (hn : R.n ≤ 1000) (hf : f < R.n) (hF : B.F m = 1) :
    (if (decide (R.X f m ≠ -1) && !decide (R.X f m = x)) = true then 1 else 0) + ofm B (R.set f m (-1)) m 1 (fun _ => x) = unl R m x := by
  unfold ofm
  rw [if_pos hF]
  have hu : unl (R.set f m (-1)) m x ≤ R.n := unl_le _ _ _
  have hmin : minTo 1 (fun _ => unl (R.set f m (-1)) m x) 1000 = unl (R.set f m (-1)) m x := by simp only [minTo]; omega
  rw [hmin]
  have := cnt_put (n := R.n) (f := f) (p := fun g => decide (R.X g m ≠ -1) && !decide (R.X g m = x)) (q := fun g => decide ((R.set f m (-1)).X g m ≠ -1) && !decide ((R.set f m (-1)).X g m = x)) hf
    (fun i _ hne => by simp [Fr.set, hne])
  have e1 : (decide ((R.set f m (-1)).X f m ≠ -1) && !decide ((R.set f m (-1)).X f m = x)) = false := by simp [Fr.set]
  rw [e1] at this
  have e2 : unl R m x = cnt R.n fun g => decide (R.X g m ≠ -1) && !decide (R.X g m = x) := rfl
  have e3 : unl (R.set f m (-1)) m x = cnt R.n fun g => decide ((R.set f m (-1)).X g m ≠ -1) && !decide ((R.set f m (-1)).X g m = x) := rfl
  rw [e2, e3]
  simp only [Bool.false_eq_true, if_false, Nat.add_zero] at this
  omega

theorem rl_loose {B : Bk} {R : Fr} {s f m : Nat} {x : Int} (hf : f < R.n) (hF : B.F m ≠ 1) :
    (if (decide (R.X f m ≠ -1) && !decide (R.X f m = x)) = true then 1 else 0) + ofm B (R.set f m (-1)) m (B.ncc s m) (B.can s m) = mw B R s f m x := by
  rw [mw_loose hF]
  unfold ofm
  rw [if_neg hF]
  have := cnt_put (n := R.n) (f := f) (p := fun g => decide (R.X g m ≠ -1) && !(if (g : Int) = f then decide (R.X g m = x) else inCan B s m (R.X g m))) (q := fun g => decide ((R.set f m (-1)).X g m ≠ -1) && !inCan B s m ((R.set f m (-1)).X g m)) hf
    (fun i _ hne => by
      have : ¬ ((i : Int) = f) := by omega
      simp [Fr.set, hne, this])
  have e1 : (decide ((R.set f m (-1)).X f m ≠ -1) && !inCan B s m ((R.set f m (-1)).X f m)) = false := by simp [Fr.set]
  rw [e1, if_pos rfl] at this
  have e5 : bad (R.set f m (-1)) m (fun _ v => anyB (B.ncc s m) fun i => decide (v = B.can s m i)) (R.set f m (-1)).n = cnt R.n fun g => decide ((R.set f m (-1)).X g m ≠ -1) && !inCan B s m ((R.set f m (-1)).X g m) := rfl
  have e6 : bad R m (fun g v => if (g : Int) = f then decide (v = x) else inCan B s m v) R.n = cnt R.n fun g => decide (R.X g m ≠ -1) && !(if (g : Int) = f then decide (R.X g m = x) else inCan B s m (R.X g m)) := rfl
  rw [e5, e6]
  simp only [Bool.false_eq_true, if_false, Nat.add_zero] at this
  omega

theorem rl_eq {B : Bk} {R : Fr} {s f m : Nat} {x : Int} (hn : R.n ≤ 1000) (hf : f < R.n) (hm : m < B.nv) (h0 : ∀ i, i < B.nv → 0 < B.ncc s i) : rl B R s f m x + lm B R s m = wrong B R s + mw B R s f m x := by
  have e4 : (if R.X f m ≠ -1 ∧ R.X f m ≠ x then 1 else 0) = (if (decide (R.X f m ≠ -1) && !decide (R.X f m = x)) = true then 1 else 0) := by simp
  have hsum := sumTo_put (n := B.nv) (m := m) (g := fun i => if i = m ∧ B.F i = 1 then ofm B (R.set f m (-1)) i 1 (fun _ => x) else ofm B (R.set f m (-1)) i (B.ncc s i) (B.can s i)) (h := lm B R s) hm
    (fun i hi hne => by
      simp only [hne, false_and, if_false]
      rw [ofm_can (R := R.set f m (-1)) (h0 i hi) hn]
      exact lm_set hne)
  unfold rl wrong
  rw [e4]
  by_cases hF : B.F m = 1
  · have h1 := rl_firm (B := B) (x := x) hn hf hF
    rw [← mw_firm (s := s) (f := f) hF] at h1
    simp only [hF, and_self, if_true] at hsum
    omega
  · have h1 := rl_loose (s := s) (x := x) hf hF
    simp only [hF, and_false, if_false] at hsum
    omega

theorem lm_le_wrong {B : Bk} {R : Fr} {s m : Nat} (hm : m < B.nv) : lm B R s m ≤ wrong B R s := by
  have := sumTo_put (n := B.nv) (m := m) (g := lm B R s) (h := fun i => if i = m then 0 else lm B R s i) hm (fun i _ hne => by simp [hne])
  simp at this
  unfold wrong
  omega

/-- the chapter's test whether a value is real in a truth of a sort, and the program's -/
theorem rl_ex {B : Bk} {R : Fr} {s f m : Nat} {x : Int} (hg : Good B R) (hs : s < B.ns) (hf : f < R.n) (hm : m < B.nv) (hx : inCan B s m x = true) : decide ((rl B R s f m x : Int) ≤ B.wr) = ex B R s f m x := by
  have h := rl_eq (x := x) (by have := hg.n; omega) hf hm (hg.ncc s hs)
  have hx' : (anyB (B.ncc s m) fun i => decide (x = B.can s m i)) = true := hx
  unfold ex
  rw [hx', Bool.true_and, Bool.eq_iff_iff]
  simp only [decide_eq_true_eq]
  omega

/-- there are real values of a place just if there is a sort -/
theorem vals_nil {B : Bk} {R : Fr} {f m : Nat} (hg : Good B R) (hm : m < B.nv) : (vals B R f m).length = 0 ↔ (sorts B R).length = 0 := by
  have key : (∃ x : Nat, x < (B.V m).toNat ∧ exAny B R f m x = true) ↔ ∃ s, s < B.ns ∧ (wrong B R s : Int) ≤ B.wr := by
    constructor
    · rintro ⟨x, _, hx⟩
      obtain ⟨s, hs, h⟩ := anyB_true.1 hx
      refine ⟨s, hs, ?_⟩
      simp only [ex, Bool.and_eq_true, decide_eq_true_eq] at h
      have := lm_le_mw (R := R) (f := (f : Int)) (hg.ncc s hs m hm) (show inCan B s m x = true from h.1)
      omega
    · rintro ⟨s, hs, h⟩
      obtain ⟨i, hi, e⟩ := lm_hit (R := R) (s := s) (m := m) f (hg.ncc s hs m hm)
      have hc := hg.can s hs m hm
      simp only [okCan, Bool.and_eq_true, decide_eq_true_eq, allB_true] at hc
      have hci := (hc.2 i hi).1
      refine ⟨(B.can s m i).toNat, by omega, anyB_true.2 ⟨s, hs, ?_⟩⟩
      have e2 : (((B.can s m i).toNat : Nat) : Int) = B.can s m i := Int.toNat_of_nonneg hci.1
      rw [e2]
      simp only [ex, Bool.and_eq_true, decide_eq_true_eq]
      exact ⟨inCan_can hi, by rw [e]; omega⟩
  have l0 : ∀ (p : Nat → Bool) n, (sel p n).length = 0 ↔ ¬ ∃ i, i < n ∧ p i = true := by
    intro p n
    induction n with
    | zero => simp [sel]
    | succ n ih =>
      cases hp : p n with
      | true =>
        rw [sel_hit hp]
        simp only [List.length_append, List.length_cons, List.length_nil]
        constructor
        · intro h; omega
        · intro h; exact absurd ⟨n, by omega, hp⟩ h
      | false =>
        rw [sel_miss hp, ih]
        constructor
        · rintro h ⟨i, hi, h2⟩
          rcases Nat.lt_succ_iff_lt_or_eq.1 hi with h3 | h3
          · exact h ⟨i, h3, h2⟩
          · subst h3; rw [hp] at h2; cases h2
        · rintro h ⟨i, hi, h2⟩; exact h ⟨i, by omega, h2⟩
  unfold vals sorts
  rw [l0, l0, key]
  simp only [decide_eq_true_eq]

end Go.Proofs.Ytopajgnemeodeaa
