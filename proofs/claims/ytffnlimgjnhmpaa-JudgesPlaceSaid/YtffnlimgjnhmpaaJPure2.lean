/-
  JPure2: judges, in words of lists: how many get a prize, what a plate needs, other numbers.
-/
import Derived.Test.YtffnlimgjnhmpaaJPure
namespace Go.Proofs.Ytffnlimgjnhmpaa

section
variable {t s : Nat → Int} {np : Nat}
theorem bet_trans {i j k : Nat} (h1 : bet t s i j = true) (h2 : bet t s j k = true) : bet t s i k = true := by
  simp only [bet, Bool.or_eq_true, Bool.and_eq_true, decide_eq_true_eq] at *
  omega
theorem bet_irr (i : Nat) : bet t s i i = false := by
  simp only [bet, Bool.or_eq_false_iff, Bool.and_eq_false_iff, decide_eq_false_iff_not]
  omega
/-- a better one has a lesser place -/
theorem place_lt {i j : Nat} (hj : j < np) (h : bet t s j i = true) : placeN t s np j < placeN t s np i := by
  unfold placeN
  refine Nat.succ_lt_succ ?_
  have h1 : (List.range np).countP (fun k => bet t s k j) + 1 ≤ (List.range np).countP (fun k => bet t s k j) + (List.range np).countP (fun k => decide (k = j)) := by
    have : 0 < (List.range np).countP (fun k => decide (k = j)) := List.countP_pos_iff.2 ⟨j, List.mem_range.2 hj, decide_eq_true rfl⟩
    omega
  have h2 : ∀ l : List Nat, l.countP (fun k => bet t s k j) + l.countP (fun k => decide (k = j)) ≤ l.countP (fun k => bet t s k i) := by
    intro l
    induction l with
    | nil => exact Nat.le_refl _
    | cons a l ih =>
      rw [List.countP_cons, List.countP_cons, List.countP_cons]
      by_cases e : a = j
      · subst e
        rw [bet_irr, h]
        simp
        omega
      · rw [if_neg (show ¬ decide (a = j) = true by simpa using e)]
        by_cases hb : bet t s a j = true
        · rw [if_pos hb, if_pos (bet_trans hb h)]; omega
        · rw [if_neg hb]; omega
  have := h2 (List.range np)
  omega
theorem place_pos (i : Nat) : 1 ≤ placeN t s np i := by unfold placeN; omega
theorem place_le {i : Nat} (hi : i < np) : placeN t s np i ≤ np := by
  unfold placeN
  have h2 : ∀ l : List Nat, l.countP (fun k => bet t s k i) + l.countP (fun k => decide (k = i)) ≤ l.length := by
    intro l
    induction l with
    | nil => exact Nat.le_refl _
    | cons a l ih =>
      rw [List.countP_cons, List.countP_cons, List.length_cons]
      by_cases e : a = i
      · subst e; rw [bet_irr]; simp; omega
      · rw [if_neg (show ¬ decide (a = i) = true by simpa using e)]; split <;> omega
  have h1 : 0 < (List.range np).countP (fun k => decide (k = i)) := List.countP_pos_iff.2 ⟨i, List.mem_range.2 hi, decide_eq_true rfl⟩
  have := h2 (List.range np)
  rw [List.length_range] at this
  omega

/-- of a property that some number below n has there is a number with the least f -/
theorem least_of (p : Nat → Prop) (f : Nat → Nat) (h : ∃ i, p i) : ∃ i, p i ∧ ∀ j, p j → f i ≤ f j := by
  obtain ⟨i, hi⟩ := h
  generalize hm : f i = m
  induction m using Nat.strongRecOn generalizing i with
  | _ m ih =>
    by_cases h : ∃ j, p j ∧ f j < m
    · obtain ⟨j, hj, hlt⟩ := h
      exact ih (f j) hlt j hj rfl
    · exact ⟨i, hi, fun j hj => by
        rcases Nat.lt_or_ge (f j) m with h1 | h1
        · exact absurd ⟨j, hj, h1⟩ h
        · omega⟩
/-- as many plates get prizes as there are prizes, or more -/
theorem many_get : ∀ z, z ≤ np → z ≤ (List.range np).countP fun i => decide (placeN t s np i ≤ z) := by
  intro z
  induction z with
  | zero => intro _; exact Nat.zero_le _
  | succ z ih =>
    intro hz
    have h0 := ih (by omega)
    have hmono : (List.range np).countP (fun i => decide (placeN t s np i ≤ z)) ≤ (List.range np).countP fun i => decide (placeN t s np i ≤ z + 1) := List.countP_mono_left fun i _ h => by
      simp only [decide_eq_true_eq] at *; omega
    rcases Nat.lt_or_ge z ((List.range np).countP fun i => decide (placeN t s np i ≤ z)) with h1 | h1
    · omega
    · -- one is left that has no prize yet: the best of these
      have hex : ∃ i, i < np ∧ z < placeN t s np i := by
        rcases Classical.em (∃ i, i < np ∧ z < placeN t s np i) with h | h
        · exact h
        · exfalso
          have : (List.range np).countP (fun i => decide (placeN t s np i ≤ z)) = (List.range np).length := by
            rw [List.countP_eq_length]
            intro i hi
            rw [decide_eq_true_eq]
            rcases Nat.lt_or_ge z (placeN t s np i) with h2 | h2
            · exact absurd ⟨i, List.mem_range.1 hi, h2⟩ h
            · exact h2
          rw [List.length_range] at this
          omega
      obtain ⟨i, ⟨hi, hiz⟩, hmin⟩ := least_of (fun i => i < np ∧ z < placeN t s np i) (placeN t s np) hex
      have hle : placeN t s np i ≤ z + 1 := by
        have : (List.range np).countP (fun j => bet t s j i) ≤ (List.range np).countP fun j => decide (placeN t s np j ≤ z) := List.countP_mono_left fun j hj hb => by
          rw [decide_eq_true_eq]
          rcases Nat.lt_or_ge z (placeN t s np j) with h2 | h2
          · have := hmin j ⟨List.mem_range.1 hj, h2⟩
            have := place_lt (List.mem_range.1 hj) hb
            omega
          · exact h2
        unfold placeN at *
        omega
      have h2 : ∀ l : List Nat, l.countP (fun j => decide (placeN t s np j ≤ z)) + l.countP (fun j => decide (j = i)) ≤ l.countP fun j => decide (placeN t s np j ≤ z + 1) := by
        intro l
        induction l with
        | nil => exact Nat.le_refl _
        | cons a l ih =>
          rw [List.countP_cons, List.countP_cons, List.countP_cons]
          by_cases e : a = i
          · subst e
            rw [if_neg (show ¬ decide (placeN t s np a ≤ z) = true by simp; omega), if_pos (show decide (a = a) = true by simp), if_pos (decide_eq_true hle)]
            omega
          · rw [if_neg (show ¬ decide (a = i) = true by simpa using e)]
            by_cases h3 : placeN t s np a ≤ z
            · rw [if_pos (decide_eq_true h3), if_pos (decide_eq_true (by omega))]; omega
            · rw [if_neg (by simpa using h3)]; omega
      have h3 : 0 < (List.range np).countP (fun j => decide (j = i)) := List.countP_pos_iff.2 ⟨i, List.mem_range.2 hi, decide_eq_true rfl⟩
      have := h2 (List.range np)
      omega
theorem many_min (z : Int) (hz : 0 ≤ z) : min z np ≤ (((List.range np).countP fun i => decide ((placeN t s np i : Int) ≤ z) : Nat) : Int) := by
  obtain ⟨n, rfl⟩ : ∃ n : Nat, z = n := ⟨z.toNat, by omega⟩
  have e : ((List.range np).countP fun i => decide ((placeN t s np i : Int) ≤ (n : Int))) = (List.range np).countP fun i => decide (placeN t s np i ≤ n) := List.countP_congr fun i _ => by simp
  rw [e]
  rcases Nat.le_total n np with h | h
  · have := many_get (t := t) (s := s) n h
    omega
  · have h1 : (List.range np).countP (fun i => decide (placeN t s np i ≤ n)) = (List.range np).length := by
      rw [List.countP_eq_length]
      intro i hi
      have := place_le (t := t) (s := s) (List.mem_range.1 hi)
      exact decide_eq_true (by omega)
    rw [h1, List.length_range]
    omega
end

/-- one total is another one -/
def upd (t : Nat → Int) (i : Nat) (x : Int) (j : Nat) : Int := if j = i then x else t j
theorem upd_at (t : Nat → Int) (i : Nat) (x : Int) : upd t i x i = x := if_pos rfl
theorem upd_ne {t : Nat → Int} {i j : Nat} {x : Int} (h : j ≠ i) : upd t i x j = t j := if_neg h
/-- a greater total of one plate: its place is not greater, those of the others are not less -/
theorem place_up {t s : Nat → Int} {np i : Nat} {x y : Int} (h : x ≤ y) : placeN (upd t i y) s np i ≤ placeN (upd t i x) s np i :=
  place_mono (by rw [upd_at, upd_at]; exact h) fun j _ hj => by rw [upd_ne hj, upd_ne hj]; exact Int.le_refl _
theorem place_others {t s : Nat → Int} {np i j : Nat} {x y : Int} (h : x ≤ y) (hj : j ≠ i) : placeN (upd t i x) s np j ≤ placeN (upd t i y) s np j :=
  place_mono (by rw [upd_ne hj, upd_ne hj]; exact Int.le_refl _) fun k _ _ => by
    by_cases e : k = i
    · subst e; rw [upd_at, upd_at]; exact h
    · rw [upd_ne e, upd_ne e]; exact Int.le_refl _
/-- between two totals with which the same plates get prizes they do with each -/
theorem get_between {t s : Nat → Int} {np i : Nat} {x y z : Int} {p : Int} (h1 : x ≤ y) (h2 : y ≤ z) (h : ∀ j, j < np → (decide ((placeN (upd t i x) s np j : Int) ≤ p) = decide ((placeN (upd t i z) s np j : Int) ≤ p))) (j : Nat) (hj : j < np) : decide ((placeN (upd t i y) s np j : Int) ≤ p) = decide ((placeN (upd t i x) s np j : Int) ≤ p) := by
  have h3 := h j hj
  rw [decide_eq_decide] at h3 ⊢
  by_cases e : j = i
  · subst e
    have a := place_up (t := t) (s := s) (np := np) (i := j) h1
    have b := place_up (t := t) (s := s) (np := np) (i := j) h2
    omega
  · have a := place_others (t := t) (s := s) (np := np) h1 e
    have b := place_others (t := t) (s := s) (np := np) h2 e
    omega

end Go.Proofs.Ytffnlimgjnhmpaa
