/-
  Truths: what a truth says of Wrong, Sorts, Values and Mistakes (no program here).
-/
import Derived.Test.YtopajgnemeodeaaNothing1
import Derived.Test.YtopajgnemeodeaaRefK
namespace Go.Proofs.Ytopajgnemeodeaa
open Go.RowKit

def realI (B : Bk) (Q : Fr) (s f i : Nat) : Bool := cin B s i (Q.X f i) && !(B.F i == 1 && Q.X f i != Q.X 0 i)
def realF (B : Bk) (Q : Fr) (s f : Nat) : Bool := decide (Q.L f = B.nv) && allB B.nv (realI B Q s f)
def realB (B : Bk) (n : Nat) (s : Int) (Q : Fr) : Bool := (decide (0 ≤ s) && decide (s < (B.ns : Int))) && decide (Q.n = n) && allB n (realF B Q s.toNat)

/-- a value that was seen, and is not the real one -/
def offB (R Q : Fr) (f i : Nat) : Bool := decide (R.X f i ≠ -1) && decide (R.X f i ≠ Q.X f i)
def wrongIn (R Q : Fr) : Nat := sumTo R.n fun f => cnt (R.L f) (offB R Q f)
def truthB (B : Bk) (R : Fr) (s : Int) (Q : Fr) : Bool := realB B R.n s Q && decide ((wrongIn R Q : Int) ≤ B.wr)

structure IsT (B : Bk) (R Q : Fr) (s : Nat) : Prop where
  hs : s < B.ns
  n : Q.n = R.n
  L : ∀ f, f < R.n → Q.L f = B.nv
  c : ∀ f, f < R.n → ∀ i, i < B.nv → cin B s i (Q.X f i) = true
  F : ∀ f, f < R.n → ∀ i, i < B.nv → B.F i = 1 → Q.X f i = Q.X 0 i

theorem isT_of {B : Bk} {R Q : Fr} {s : Int} (h : realB B R.n s Q = true) : ∃ k : Nat, s = k ∧ IsT B R Q k := by
  simp only [realB, Bool.and_eq_true, decide_eq_true_eq, allB_true] at h
  obtain ⟨⟨⟨h1, h2⟩, h3⟩, h4⟩ := h
  have key : ∀ f, f < R.n → Q.L f = B.nv ∧ ∀ i, i < B.nv → realI B Q s.toNat f i = true := fun f hf => by
    have := h4 f hf
    simp only [realF, Bool.and_eq_true, decide_eq_true_eq, allB_true] at this
    exact this
  refine ⟨s.toNat, (Int.toNat_of_nonneg h1).symm, by omega, h3, fun f hf => (key f hf).1, fun f hf i hi => ?_, fun f hf i hi hF => ?_⟩
  · have := (key f hf).2 i hi
    simp only [realI, Bool.and_eq_true] at this
    exact this.1
  · have := (key f hf).2 i hi
    simp only [realI, hF, beq_self_eq_true, Bool.true_and, Bool.and_eq_true, Bool.not_eq_true', bne_eq_false_iff_eq] at this
    exact this.2

theorem sum_swap (p : Nat → Nat → Bool) (b : Nat) : ∀ a, sumTo a (fun i => cnt b (p i)) = sumTo b (fun j => cnt a (fun i => p i j))
  | 0 => (sumTo_zero fun _ _ => rfl).symm
  | a + 1 => by
    have ih := sum_swap p b a
    have e : ∀ n, sumTo n (fun j => cnt (a + 1) (fun i => p i j)) = sumTo n (fun j => cnt a (fun i => p i j)) + cnt n (p a) := fun n => by
      induction n with
      | zero => rfl
      | succ n ihn =>
        have e1 : sumTo (n + 1) (fun j => cnt (a + 1) (fun i => p i j)) = sumTo n (fun j => cnt (a + 1) (fun i => p i j)) + (cnt a (fun i => p i n) + (if p a n = true then 1 else 0)) := rfl
        have e2 : cnt (n + 1) (p a) = cnt n (p a) + (if p a n = true then 1 else 0) := rfl
        have e3 : sumTo (n + 1) (fun j => cnt a (fun i => p i j)) = sumTo n (fun j => cnt a (fun i => p i j)) + cnt a (fun i => p i n) := rfl
        rw [e1, e2, e3, ihn]; omega
    rw [e]
    simp only [sumTo, ih]

def col (R Q : Fr) (m : Nat) : Nat := cnt R.n fun f => offB R Q f m

theorem col_sum {B : Bk} {R Q : Fr} (hL : ∀ f, f < R.n → R.L f = B.nv) : sumTo B.nv (col R Q) = wrongIn R Q := by
  unfold wrongIn col
  rw [← sum_swap (offB R Q) B.nv R.n]
  exact sumTo_congr fun f hf => by rw [hL f hf]

theorem mw_col {B : Bk} {R Q : Fr} {s f m : Nat} (h : IsT B R Q s) (hf : f < R.n) (hm : m < B.nv) : mw B R s f m (Q.X f m) ≤ col R Q m := by
  refine cnt_mono fun g hg hh => ?_
  simp only [Bool.and_eq_true, Bool.not_eq_true', decide_eq_true_eq] at hh
  unfold offB
  simp only [Bool.and_eq_true, decide_eq_true_eq]
  refine ⟨hh.1, fun e => ?_⟩
  have h2 := hh.2
  unfold right at h2
  split at h2
  · rename_i hc
    simp only [decide_eq_false_iff_not] at h2
    simp only [Bool.or_eq_true, beq_iff_eq, decide_eq_true_eq] at hc
    rcases hc with hc | hc
    · exact h2 (by rw [e, h.F g hg m hm hc, h.F f hf m hm hc])
    · have : g = f := by omega
      subst this; exact h2 e
  · have := h.c g hg m hm
    rw [cin_inCan, ← e] at this
    unfold inCan at this
    rw [this] at h2; simp at h2

theorem lm_col {B : Bk} {R Q : Fr} {s m : Nat} (hg : Good B R) (h : IsT B R Q s) (hm : m < B.nv) : lm B R s m ≤ col R Q m := by
  rcases Nat.eq_zero_or_pos R.n with h0 | h0
  · have := lm_le B R s m; omega
  · exact Nat.le_trans (lm_le_mw (f := ((0 : Nat) : Int)) (hg.ncc s h.hs m hm) (by rw [← cin_inCan]; exact h.c 0 h0 m hm)) (mw_col h h0 hm)

theorem wrong_truth {B : Bk} {R Q : Fr} {s : Nat} (hg : Good B R) (h : IsT B R Q s) : wrong B R s ≤ wrongIn R Q := by
  rw [← col_sum hg.L]
  exact sumTo_mono fun m hm => lm_col hg h hm

theorem ex_truth {B : Bk} {R Q : Fr} {s f m : Nat} (hg : Good B R) (h : IsT B R Q s) (hf : f < R.n) (hm : m < B.nv) (hw : (wrongIn R Q : Int) ≤ B.wr) : ex B R s f m (Q.X f m) = true := by
  have e1 := h.c f hf m hm
  rw [cin_inCan] at e1
  unfold inCan at e1
  have e2 := mw_col h hf hm
  have e3 : sumTo B.nv (fun i => if i = m then 0 else lm B R s i) + lm B R s m = wrong B R s := by
    have := sumTo_put (n := B.nv) (m := m) (g := fun i => if i = m then 0 else lm B R s i) (h := lm B R s) hm fun i _ hi => by simp [hi]
    simp only [if_true] at this
    unfold wrong; omega
  have e4 : sumTo B.nv (fun i => if i = m then 0 else lm B R s i) + col R Q m ≤ sumTo B.nv (col R Q) := by
    have := sumTo_put (n := B.nv) (m := m) (g := fun i => if i = m then 0 else col R Q i) (h := col R Q) hm fun i _ hi => by simp [hi]
    simp only [if_true] at this
    have h2 : sumTo B.nv (fun i => if i = m then 0 else lm B R s i) ≤ sumTo B.nv (fun i => if i = m then 0 else col R Q i) := sumTo_mono fun i hi => by
      split
      · exact Nat.le_refl _
      · exact lm_col hg h hi
    omega
  rw [col_sum hg.L] at e4
  unfold ex
  rw [e1, Bool.true_and]
  exact decide_eq_true (by omega)

theorem can_val {B : Bk} {R Q : Fr} {s f m : Nat} (hg : Good B R) (h : IsT B R Q s) (hf : f < R.n) (hm : m < B.nv) : 0 ≤ Q.X f m ∧ Q.X f m < B.V m := by
  obtain ⟨i, hi, e⟩ := anyB_true.1 (h.c f hf m hm)
  have e := of_decide_eq_true e
  rw [← e]
  exact can_range (hg.can s h.hs m hm) hi

theorem vals_truth {B : Bk} {R Q : Fr} {s f m : Nat} (hg : Good B R) (h : IsT B R Q s) (hf : f < R.n) (hm : m < B.nv) (hw : (wrongIn R Q : Int) ≤ B.wr) :
    (anyB (vals B R f m).length fun i => decide ((vals B R f m).getD i 0 = Q.X f m)) = true := by
  obtain ⟨h0, h1⟩ := can_val hg h hf hm
  have e : (((Q.X f m).toNat : Nat) : Int) = Q.X f m := Int.toNat_of_nonneg h0
  have := sel_has (p := fun x => exAny B R f m x) (k := (Q.X f m).toNat) (by
    show exAny B R f m ((Q.X f m).toNat : Nat) = true
    rw [e]
    exact anyB_true.2 ⟨s, h.hs, ex_truth hg h hf hm hw⟩) (n := (B.V m).toNat) (by omega)
  rw [e] at this
  exact this

theorem mis_truth {B : Bk} {R Q : Fr} {s f m : Nat} (hg : Good B R) (h : IsT B R Q s) (hf : f < R.n) (hm : m < B.nv) (hw : (wrongIn R Q : Int) ≤ B.wr) (hx : misB B R f m = true) : offB R Q f m = true := by
  unfold misB at hx
  simp only [Bool.and_eq_true, decide_eq_true_eq, Bool.not_eq_true'] at hx
  unfold offB
  simp only [Bool.and_eq_true, decide_eq_true_eq]
  refine ⟨hx.1, fun e => ?_⟩
  have h2 := hx.2
  rw [e] at h2
  have := ex_truth hg h hf hm hw
  exact absurd this (by rw [anyB_false.1 h2 s h.hs]; simp)

theorem rowP_cnt (p : Nat → Nat → Bool) (f : Nat) : ∀ n, (rowP p f n).length = cnt n (p f)
  | 0 => rfl
  | n + 1 => by
    have ih := rowP_cnt p f n
    simp only [rowP, cnt]
    split <;> simp [ih]
theorem allP_cnt (p : Nat → Nat → Bool) (n : Nat) : ∀ k, (allP p n k).length = sumTo k fun f => cnt n (p f)
  | 0 => rfl
  | k + 1 => by simp only [allP, sumTo, List.length_append, allP_cnt p n k, rowP_cnt]
theorem rowP_mem {p : Nat → Nat → Bool} {f : Nat} {x : Nat × Nat} : ∀ {n}, x ∈ rowP p f n → x.1 = f ∧ x.2 < n ∧ p x.1 x.2 = true
  | 0, h => by simp [rowP] at h
  | n + 1, h => by
    simp only [rowP] at h
    split at h
    · rename_i hp
      simp only [List.mem_append, List.mem_cons, List.not_mem_nil, or_false] at h
      rcases h with h | h
      · have := rowP_mem h; exact ⟨this.1, by omega, this.2.2⟩
      · subst h; exact ⟨rfl, Nat.lt_succ_self _, hp⟩
    · have := rowP_mem h; exact ⟨this.1, by omega, this.2.2⟩
theorem allP_mem {p : Nat → Nat → Bool} {n : Nat} {x : Nat × Nat} : ∀ {k}, x ∈ allP p n k → x.1 < k ∧ x.2 < n ∧ p x.1 x.2 = true
  | 0, h => by simp [allP] at h
  | k + 1, h => by
    simp only [allP, List.mem_append] at h
    rcases h with h | h
    · have := allP_mem h; exact ⟨by omega, this.2⟩
    · have := rowP_mem h; exact ⟨by omega, this.2⟩

theorem mistakes_truth {B : Bk} {R Q : Fr} {s : Nat} (hg : Good B R) (h : IsT B R Q s) (hw : (wrongIn R Q : Int) ≤ B.wr) :
    (mistakes B R).length ≤ wrongIn R Q ∧ ∀ i, i < (mistakes B R).length → ((mistakes B R).getD i (0, 0)).1 < R.n ∧ ((mistakes B R).getD i (0, 0)).2 < B.nv ∧ offB R Q ((mistakes B R).getD i (0, 0)).1 ((mistakes B R).getD i (0, 0)).2 = true := by
  refine ⟨?_, fun i hi => ?_⟩
  · unfold mistakes wrongIn
    rw [allP_cnt]
    exact sumTo_mono fun f hf => by
      rw [hg.L f hf]
      exact cnt_mono fun i hi hx => mis_truth hg h hf hi hw hx
  · have hmem : (mistakes B R).getD i (0, 0) ∈ mistakes B R := by
      rw [List.getD_eq_getElem?_getD, List.getElem?_eq_getElem hi]
      exact List.getElem_mem _
    obtain ⟨h1, h2, h3⟩ := allP_mem hmem
    exact ⟨h1, h2, mis_truth hg h h1 h2 hw h3⟩

end Go.Proofs.Ytopajgnemeodeaa
