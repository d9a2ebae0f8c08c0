/-
  JPure: judges, in words of lists: totals, places, what is known of a prize.
-/
namespace Go.Proofs.Ytffnlimgjnhmpaa

/-- a list with one number more, where it belongs -/
def ins (a : Int) : List Int → List Int
  | [] => [a]
  | b :: l => if a ≤ b then a :: b :: l else b :: ins a l
def srt : List Int → List Int
  | [] => []
  | a :: l => ins a (srt l)
theorem ins_perm (a : Int) : ∀ l : List Int, (ins a l).Perm (a :: l) := by
  intro l
  induction l with
  | nil => exact List.Perm.refl _
  | cons b l ih =>
    unfold ins
    split
    · exact List.Perm.refl _
    · exact (List.Perm.cons b ih).trans (List.Perm.swap a b l)
theorem srt_perm : ∀ l : List Int, (srt l).Perm l := by
  intro l
  induction l with
  | nil => exact List.Perm.refl _
  | cons a l ih => exact (ins_perm a (srt l)).trans (List.Perm.cons a ih)
theorem ins_up (a : Int) : ∀ l : List Int, l.Pairwise (· ≤ ·) → (ins a l).Pairwise (· ≤ ·) := by
  intro l
  induction l with
  | nil => intro _; exact List.pairwise_singleton _ _
  | cons b l ih =>
    intro h
    obtain ⟨h1, h2⟩ := List.pairwise_cons.1 h
    unfold ins
    split
    · rename_i hab
      refine List.pairwise_cons.2 ⟨fun c hc => ?_, h⟩
      rcases List.mem_cons.1 hc with rfl | hc
      · exact hab
      · have := h1 c hc; omega
    · rename_i hab
      refine List.pairwise_cons.2 ⟨fun c hc => ?_, ih h2⟩
      rcases List.mem_cons.1 ((ins_perm a l).mem_iff.1 hc) with rfl | hc
      · omega
      · exact h1 c hc
theorem srt_up : ∀ l : List Int, (srt l).Pairwise (· ≤ ·) := by
  intro l
  induction l with
  | nil => exact List.Pairwise.nil
  | cons a l ih => exact ins_up a _ ih
theorem srt_len (l : List Int) : (srt l).length = l.length := (srt_perm l).length_eq

/-- the k-th least is at most x just if more than k are at most x -/
theorem up_count {l : List Int} (h : l.Pairwise (· ≤ ·)) {k : Nat} (hk : k < l.length) (x : Int) : l[k] ≤ x ↔ k < l.countP fun y => decide (y ≤ x) := by
  have hp := List.pairwise_iff_getElem.1 h
  have e : l.countP (fun y => decide (y ≤ x)) = (l.take (k + 1)).countP (fun y => decide (y ≤ x)) + (l.drop (k + 1)).countP (fun y => decide (y ≤ x)) := by
    rw [← List.countP_append, List.take_append_drop]
  constructor
  · intro hx
    have h1 : (l.take (k + 1)).countP (fun y => decide (y ≤ x)) = (l.take (k + 1)).length := by
      rw [List.countP_eq_length]
      intro y hy
      obtain ⟨i, hi, rfl⟩ := List.getElem_of_mem hy
      rw [List.length_take] at hi
      rw [List.getElem_take]
      rcases Nat.lt_or_ge i k with h2 | h2
      · have := hp i k (by omega) hk h2; exact decide_eq_true (by omega)
      · have : i = k := by omega
        subst this; exact decide_eq_true hx
    rw [e, h1, List.length_take]
    omega
  · intro hc
    rcases Int.lt_or_le x l[k] with hx | hx
    · exfalso
      have h1 : (l.drop k).countP (fun y => decide (y ≤ x)) = 0 := by
        rw [List.countP_eq_zero]
        intro y hy
        obtain ⟨i, hi, rfl⟩ := List.getElem_of_mem hy
        rw [List.length_drop] at hi
        rw [List.getElem_drop, decide_eq_true_eq]
        rcases Nat.eq_zero_or_pos i with h2 | h2
        · subst h2; simp; omega
        · have := hp k (k + i) hk (by omega) (by omega); omega
      have e2 : l.countP (fun y => decide (y ≤ x)) = (l.take k).countP (fun y => decide (y ≤ x)) + (l.drop k).countP (fun y => decide (y ≤ x)) := by
        rw [← List.countP_append, List.take_append_drop]
      have h2 : (l.take k).countP (fun y => decide (y ≤ x)) ≤ (l.take k).length := List.countP_le_length
      rw [List.length_take] at h2
      omega
    · exact hx
/-- a list in order is the only one with its numbers -/
theorem up_unique {l m : List Int} (hl : l.Pairwise (· ≤ ·)) (hm : m.Pairwise (· ≤ ·)) (h : l.Perm m) : l = m := by
  apply List.ext_getElem h.length_eq
  intro k h1 h2
  have a := (up_count hl h1 m[k]).2 (by rw [h.countP_eq]; exact (up_count hm h2 m[k]).1 (Int.le_refl _))
  have b := (up_count hm h2 l[k]).2 (by rw [← h.countP_eq]; exact (up_count hl h1 l[k]).1 (Int.le_refl _))
  omega
theorem srt_unique {l m : List Int} (hm : m.Pairwise (· ≤ ·)) (h : m.Perm l) : m = srt l := up_unique hm (srt_up l) (h.trans (srt_perm l).symm)
theorem srt_of_perm {l m : List Int} (h : l.Perm m) : srt l = srt m := up_unique (srt_up l) (srt_up m) ((srt_perm l).trans (h.trans (srt_perm m).symm))

/-- no number is greater: none in order is -/
theorem srt_mono {l m : List Int} (hlen : l.length = m.length) (h : ∀ i (h1 : i < l.length) (h2 : i < m.length), l[i] ≤ m[i]) (k : Nat) (h1 : k < (srt l).length) (h2 : k < (srt m).length) : (srt l)[k] ≤ (srt m)[k] := by
  rw [up_count (srt_up l) h1, (srt_perm l).countP_eq]
  have h3 := (up_count (srt_up m) h2 (srt m)[k]).1 (Int.le_refl _)
  rw [(srt_perm m).countP_eq] at h3
  refine Nat.lt_of_lt_of_le h3 ?_
  generalize (srt m)[k] = x
  clear h1 h2 h3
  induction l generalizing m with
  | nil =>
    have : m = [] := List.length_eq_zero_iff.1 hlen.symm
    subst this; exact Nat.le_refl _
  | cons a l ih =>
    cases m with
    | nil => cases hlen
    | cons b m =>
      have h0 := h 0 (by simp) (by simp)
      have hr := ih (m := m) (by simpa using hlen) fun i h1 h2 => by
        have := h (i + 1) (by simpa using h1) (by simpa using h2)
        simpa using this
      rw [List.countP_cons, List.countP_cons]
      simp only [List.getElem_cons_zero] at h0
      by_cases hb : b ≤ x
      · rw [if_pos (decide_eq_true (show a ≤ x by omega)), if_pos (decide_eq_true hb)]; omega
      · rw [if_neg (by simpa using hb)]; omega

/-- the sum without the d highest and the d lowest -/
def tot (d : Nat) (l : List Int) : Int := (((srt l).drop d).take (l.length - 2 * d)).sum
theorem sum_mono : ∀ (l m : List Int), l.length = m.length → (∀ i (h1 : i < l.length) (h2 : i < m.length), l[i] ≤ m[i]) → l.sum ≤ m.sum := by
  intro l
  induction l with
  | nil => intro m hm _; rw [List.length_eq_zero_iff.1 hm.symm]; exact Int.le_refl _
  | cons a l ih =>
    intro m hm h
    cases m with
    | nil => cases hm
    | cons b m =>
      have h0 := h 0 (by simp) (by simp)
      have hr := ih m (by simpa using hm) fun i h1 h2 => by
        have := h (i + 1) (by simpa using h1) (by simpa using h2)
        simpa using this
      simp only [List.getElem_cons_zero] at h0
      rw [List.sum_cons, List.sum_cons]
      omega
/-- more points never make a total less -/
theorem tot_mono (d : Nat) {l m : List Int} (hlen : l.length = m.length) (h : ∀ i (h1 : i < l.length) (h2 : i < m.length), l[i] ≤ m[i]) : tot d l ≤ tot d m := by
  unfold tot
  refine sum_mono _ _ (by rw [List.length_take, List.length_take, List.length_drop, List.length_drop, srt_len, srt_len, hlen]) fun i h1 h2 => ?_
  rw [List.getElem_take, List.getElem_take, List.getElem_drop, List.getElem_drop]
  exact srt_mono hlen h _ _ _
theorem tot_perm {d : Nat} {l m : List Int} (h : l.Perm m) : tot d l = tot d m := by
  unfold tot; rw [srt_of_perm h, h.length_eq]

/-- a show -/
structure JB where
  J : Int
  D : Int
  Z : Int
  np : Nat
  sz : Nat → Int
  pts : Nat → List Int

/-- is a plate better than another one, by these totals? -/
def bet (t s : Nat → Int) (i j : Nat) : Bool := decide (t j < t i) || (decide (t i = t j) && decide (s j < s i))
def placeN (t s : Nat → Int) (np i : Nat) : Nat := (List.range np).countP (fun j => bet t s j i) + 1
/-- a total is greater, those of the others are not: no place is greater -/
theorem place_mono {t t' s : Nat → Int} {np i : Nat} (hi : t i ≤ t' i) (h : ∀ j, j < np → j ≠ i → t' j ≤ t j) : placeN t' s np i ≤ placeN t s np i := by
  unfold placeN
  refine Nat.succ_le_succ (List.countP_mono_left fun j hj hb => ?_)
  by_cases e : j = i
  · subst e
    simp only [bet, Bool.or_eq_true, Bool.and_eq_true, decide_eq_true_eq] at hb
    omega
  · have := h j (List.mem_range.1 hj) e
    simp only [bet, Bool.or_eq_true, Bool.and_eq_true, decide_eq_true_eq] at hb ⊢
    omega
/-- all points that are not in are n -/
def fil (n : Int) (l : List Int) : List Int := l.map fun p => if p = -1 then n else p
theorem fil_len (n : Int) (l : List Int) : (fil n l).length = l.length := by simp [fil]
/-- what points can be that come in: the others are as they are -/
def Jdg (l m : List Int) : Prop := m.length = l.length ∧ ∀ i (h1 : i < l.length) (h2 : i < m.length), (l[i] = -1 → 0 ≤ m[i] ∧ m[i] ≤ 20) ∧ (l[i] ≠ -1 → m[i] = l[i])
theorem jdg_low {d : Nat} {l m : List Int} (h : Jdg l m) : tot d (fil 0 l) ≤ tot d m := by
  refine tot_mono d (by rw [fil_len, h.1]) fun i h1 h2 => ?_
  rw [fil_len] at h1
  obtain ⟨h3, h4⟩ := h.2 i h1 h2
  simp only [fil, List.getElem_map]
  split
  · rename_i e; exact (h3 e).1
  · rename_i e; exact Int.le_of_eq (h4 e).symm
theorem jdg_high {d : Nat} {l m : List Int} (h : Jdg l m) : tot d m ≤ tot d (fil 20 l) := by
  refine tot_mono d (by rw [fil_len, h.1]) fun i h1 h2 => ?_
  rw [fil_len] at h2
  obtain ⟨h3, h4⟩ := h.2 i h2 h1
  simp only [fil, List.getElem_map]
  split
  · rename_i e; exact (h3 e).2
  · rename_i e; exact Int.le_of_eq (h4 e)

end Go.Proofs.Ytffnlimgjnhmpaa
