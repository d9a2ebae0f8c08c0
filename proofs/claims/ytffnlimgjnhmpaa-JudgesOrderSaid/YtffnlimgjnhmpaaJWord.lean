/-
  JPure: judges, in words of lists: totals, places, what is known of a prize.
  JPure2: judges, in words of lists: how many get a prize, what a plate needs, other numbers.
  Sort: a list that is put in order by exchanges; partial sums.
  Judge: the laws of a show, in words of lists.
  JWord: what the functions of layer 8 answer, in words of lists: the same words for the program and for the reference.
-/
namespace Go.Proofs.Ytffnlimgjnhmpaa

/-- a list with one number more, where it belongs -/
def ins (a : Int) : List Int → List Int
  | [] => [a]
  | b :: l => if a ≤ b then a :: b :: l else b :: ins a l
def srt : List Int → List Int
  | [] => []
  | a :: l => ins a (srt l)
theorem ins_perm (a : Int) : ∀ l : List Int, (ins a l).Perm (a :: l) := by
  intro l
  induction l with
  | nil => exact List.Perm.refl _
  | cons b l ih =>
    unfold ins
    split
    · exact List.Perm.refl _
    · exact (List.Perm.cons b ih).trans (List.Perm.swap a b l)
theorem srt_perm : ∀ l : List Int, (srt l).Perm l := by
  intro l
  induction l with
  | nil => exact List.Perm.refl _
  | cons a l ih => exact (ins_perm a (srt l)).trans (List.Perm.cons a ih)
theorem ins_up (a : Int) : ∀ l : List Int, l.Pairwise (· ≤ ·) → (ins a l).Pairwise (· ≤ ·) := by
  intro l
  induction l with
  | nil => intro _; exact List.pairwise_singleton _ _
  | cons b l ih =>
    intro h
    obtain ⟨h1, h2⟩ := List.pairwise_cons.1 h
    unfold ins
    split
    · rename_i hab
      refine List.pairwise_cons.2 ⟨fun c hc => ?_, h⟩
      rcases List.mem_cons.1 hc with rfl | hc
      · exact hab
      · have := h1 c hc; omega
    · rename_i hab
      refine List.pairwise_cons.2 ⟨fun c hc => ?_, ih h2⟩
      rcases List.mem_cons.1 ((ins_perm a l).mem_iff.1 hc) with rfl | hc
      · omega
      · exact h1 c hc
theorem srt_up : ∀ l : List Int, (srt l).Pairwise (· ≤ ·) := by
  intro l
  induction l with
  | nil => exact List.Pairwise.nil
  | cons a l ih => exact ins_up a _ ih
theorem srt_len (l : List Int) : (srt l).length = l.length := (srt_perm l).length_eq

/-- the k-th least is at most x just if more than k are at most x -/
theorem up_count {l : List Int} (h : l.Pairwise (· ≤ ·)) {k : Nat} (hk : k < l.length) (x : Int) : l[k] ≤ x ↔ k < l.countP fun y => decide (y ≤ x) := by
  have hp := List.pairwise_iff_getElem.1 h
  have e : l.countP (fun y => decide (y ≤ x)) = (l.take (k + 1)).countP (fun y => decide (y ≤ x)) + (l.drop (k + 1)).countP (fun y => decide (y ≤ x)) := by
    rw [← List.countP_append, List.take_append_drop]
  constructor
  · intro hx
    have h1 : (l.take (k + 1)).countP (fun y => decide (y ≤ x)) = (l.take (k + 1)).length := by
      rw [List.countP_eq_length]
      intro y hy
      obtain ⟨i, hi, rfl⟩ := List.getElem_of_mem hy
      rw [List.length_take] at hi
      rw [List.getElem_take]
      rcases Nat.lt_or_ge i k with h2 | h2
      · have := hp i k (by omega) hk h2; exact decide_eq_true (by omega)
      · have : i = k := by omega
        subst this; exact decide_eq_true hx
    rw [e, h1, List.length_take]
    omega
  · intro hc
    rcases Int.lt_or_le x l[k] with hx | hx
    · exfalso
      have h1 : (l.drop k).countP (fun y => decide (y ≤ x)) = 0 := by
        rw [List.countP_eq_zero]
        intro y hy
        obtain ⟨i, hi, rfl⟩ := List.getElem_of_mem hy
        rw [List.length_drop] at hi
        rw [List.getElem_drop, decide_eq_true_eq]
        rcases Nat.eq_zero_or_pos i with h2 | h2
        · subst h2; simp; omega
        · have := hp k (k + i) hk (by omega) (by omega); omega
      have e2 : l.countP (fun y => decide (y ≤ x)) = (l.take k).countP (fun y => decide (y ≤ x)) + (l.drop k).countP (fun y => decide (y ≤ x)) := by
        rw [← List.countP_append, List.take_append_drop]
      have h2 : (l.take k).countP (fun y => decide (y ≤ x)) ≤ (l.take k).length := List.countP_le_length
      rw [List.length_take] at h2
      omega
    · exact hx
/-- a list in order is the only one with its numbers -/
theorem up_unique {l m : List Int} (hl : l.Pairwise (· ≤ ·)) (hm : m.Pairwise (· ≤ ·)) (h : l.Perm m) : l = m := by
  apply List.ext_getElem h.length_eq
  intro k h1 h2
  have a := (up_count hl h1 m[k]).2 (by rw [h.countP_eq]; exact (up_count hm h2 m[k]).1 (Int.le_refl _))
  have b := (up_count hm h2 l[k]).2 (by rw [← h.countP_eq]; exact (up_count hl h1 l[k]).1 (Int.le_refl _))
  omega
theorem srt_unique {l m : List Int} (hm : m.Pairwise (· ≤ ·)) (h : m.Perm l) : m = srt l := up_unique hm (srt_up l) (h.trans (srt_perm l).symm)
theorem srt_of_perm {l m : List Int} (h : l.Perm m) : srt l = srt m := up_unique (srt_up l) (srt_up m) ((srt_perm l).trans (h.trans (srt_perm m).symm))

/-- no number is greater: none in order is -/
theorem srt_mono {l m : List Int} (hlen : l.length = m.length) (h : ∀ i (h1 : i < l.length) (h2 : i < m.length), l[i] ≤ m[i]) (k : Nat) (h1 : k < (srt l).length) (h2 : k < (srt m).length) : (srt l)[k] ≤ (srt m)[k] := by
  rw [up_count (srt_up l) h1, (srt_perm l).countP_eq]
  have h3 := (up_count (srt_up m) h2 (srt m)[k]).1 (Int.le_refl _)
  rw [(srt_perm m).countP_eq] at h3
  refine Nat.lt_of_lt_of_le h3 ?_
  generalize (srt m)[k] = x
  clear h1 h2 h3
  induction l generalizing m with
  | nil =>
    have : m = [] := List.length_eq_zero_iff.1 hlen.symm
    subst this; exact Nat.le_refl _
  | cons a l ih =>
    cases m with
    | nil => cases hlen
    | cons b m =>
      have h0 := h 0 (by simp) (by simp)
      have hr := ih (m := m) (by simpa using hlen) fun i h1 h2 => by
        have := h (i + 1) (by simpa using h1) (by simpa using h2)
        simpa using this
      rw [List.countP_cons, List.countP_cons]
      simp only [List.getElem_cons_zero] at h0
      by_cases hb : b ≤ x
      · rw [if_pos (decide_eq_true (show a ≤ x by omega)), if_pos (decide_eq_true hb)]; omega
      · rw [if_neg (by simpa using hb)]; omega

/-- the sum without the d highest and the d lowest -/
def tot (d : Nat) (l : List Int) : Int := (((srt l).drop d).take (l.length - 2 * d)).sum
theorem sum_mono : ∀ (l m : List Int), l.length = m.length → (∀ i (h1 : i < l.length) (h2 : i < m.length), l[i] ≤ m[i]) → l.sum ≤ m.sum := by
  intro l
  induction l with
  | nil => intro m hm _; rw [List.length_eq_zero_iff.1 hm.symm]; exact Int.le_refl _
  | cons a l ih =>
    intro m hm h
    cases m with
    | nil => cases hm
    | cons b m =>
      have h0 := h 0 (by simp) (by simp)
      have hr := ih m (by simpa using hm) fun i h1 h2 => by
        have := h (i + 1) (by simpa using h1) (by simpa using h2)
        simpa using this
      simp only [List.getElem_cons_zero] at h0
      rw [List.sum_cons, List.sum_cons]
      omega
/-- more points never make a total less -/
theorem tot_mono (d : Nat) {l m : List Int} (hlen : l.length = m.length) (h : ∀ i (h1 : i < l.length) (h2 : i < m.length), l[i] ≤ m[i]) : tot d l ≤ tot d m := by
  unfold tot
  refine sum_mono _ _ (by rw [List.length_take, List.length_take, List.length_drop, List.length_drop, srt_len, srt_len, hlen]) fun i h1 h2 => ?_
  rw [List.getElem_take, List.getElem_take, List.getElem_drop, List.getElem_drop]
  exact srt_mono hlen h _ _ _
theorem tot_perm {d : Nat} {l m : List Int} (h : l.Perm m) : tot d l = tot d m := by
  unfold tot; rw [srt_of_perm h, h.length_eq]

/-- a show -/
structure JB where
  J : Int
  D : Int
  Z : Int
  np : Nat
  sz : Nat → Int
  pts : Nat → List Int

/-- is a plate better than another one, by these totals? -/
def bet (t s : Nat → Int) (i j : Nat) : Bool := decide (t j < t i) || (decide (t i = t j) && decide (s j < s i))
def placeN (t s : Nat → Int) (np i : Nat) : Nat := (List.range np).countP (fun j => bet t s j i) + 1
/-- a total is greater, those of the others are not: no place is greater -/
theorem place_mono {t t' s : Nat → Int} {np i : Nat} (hi : t i ≤ t' i) (h : ∀ j, j < np → j ≠ i → t' j ≤ t j) : placeN t' s np i ≤ placeN t s np i := by
  unfold placeN
  refine Nat.succ_le_succ (List.countP_mono_left fun j hj hb => ?_)
  by_cases e : j = i
  · subst e
    simp only [bet, Bool.or_eq_true, Bool.and_eq_true, decide_eq_true_eq] at hb
    omega
  · have := h j (List.mem_range.1 hj) e
    simp only [bet, Bool.or_eq_true, Bool.and_eq_true, decide_eq_true_eq] at hb ⊢
    omega
/-- all points that are not in are n -/
def fil (n : Int) (l : List Int) : List Int := l.map fun p => if p = -1 then n else p
theorem fil_len (n : Int) (l : List Int) : (fil n l).length = l.length := by simp [fil]
/-- what points can be that come in: the others are as they are -/
def Jdg (l m : List Int) : Prop := m.length = l.length ∧ ∀ i (h1 : i < l.length) (h2 : i < m.length), (l[i] = -1 → 0 ≤ m[i] ∧ m[i] ≤ 20) ∧ (l[i] ≠ -1 → m[i] = l[i])
theorem jdg_low {d : Nat} {l m : List Int} (h : Jdg l m) : tot d (fil 0 l) ≤ tot d m := by
  refine tot_mono d (by rw [fil_len, h.1]) fun i h1 h2 => ?_
  rw [fil_len] at h1
  obtain ⟨h3, h4⟩ := h.2 i h1 h2
  simp only [fil, List.getElem_map]
  split
  · rename_i e; exact (h3 e).1
  · rename_i e; exact Int.le_of_eq (h4 e).symm
theorem jdg_high {d : Nat} {l m : List Int} (h : Jdg l m) : tot d m ≤ tot d (fil 20 l) := by
  refine tot_mono d (by rw [fil_len, h.1]) fun i h1 h2 => ?_
  rw [fil_len] at h2
  obtain ⟨h3, h4⟩ := h.2 i h2 h1
  simp only [fil, List.getElem_map]
  split
  · rename_i e; exact (h3 e).2
  · rename_i e; exact Int.le_of_eq (h4 e)

end Go.Proofs.Ytffnlimgjnhmpaa

namespace Go.Proofs.Ytffnlimgjnhmpaa

section
variable {t s : Nat → Int} {np : Nat}
theorem bet_trans {i j k : Nat} (h1 : bet t s i j = true) (h2 : bet t s j k = true) : bet t s i k = true := by
  simp only [bet, Bool.or_eq_true, Bool.and_eq_true, decide_eq_true_eq] at *
  omega
theorem bet_irr (i : Nat) : bet t s i i = false := by
  simp only [bet, Bool.or_eq_false_iff, Bool.and_eq_false_iff, decide_eq_false_iff_not]
  omega
/-- a better one has a lesser place -/
theorem place_lt {i j : Nat} (hj : j < np) (h : bet t s j i = true) : placeN t s np j < placeN t s np i := by
  unfold placeN
  refine Nat.succ_lt_succ ?_
  have h1 : (List.range np).countP (fun k => bet t s k j) + 1 ≤ (List.range np).countP (fun k => bet t s k j) + (List.range np).countP (fun k => decide (k = j)) := by
    have : 0 < (List.range np).countP (fun k => decide (k = j)) := List.countP_pos_iff.2 ⟨j, List.mem_range.2 hj, decide_eq_true rfl⟩
    omega
  have h2 : ∀ l : List Nat, l.countP (fun k => bet t s k j) + l.countP (fun k => decide (k = j)) ≤ l.countP (fun k => bet t s k i) := by
    intro l
    induction l with
    | nil => exact Nat.le_refl _
    | cons a l ih =>
      rw [List.countP_cons, List.countP_cons, List.countP_cons]
      by_cases e : a = j
      · subst e
        rw [bet_irr, h]
        simp
        omega
      · rw [if_neg (show ¬ decide (a = j) = true by simpa using e)]
        by_cases hb : bet t s a j = true
        · rw [if_pos hb, if_pos (bet_trans hb h)]; omega
        · rw [if_neg hb]; omega
  have := h2 (List.range np)
  omega
theorem place_pos (i : Nat) : 1 ≤ placeN t s np i := by unfold placeN; omega
theorem place_le {i : Nat} (hi : i < np) : placeN t s np i ≤ np := by
  unfold placeN
  have h2 : ∀ l : List Nat, l.countP (fun k => bet t s k i) + l.countP (fun k => decide (k = i)) ≤ l.length := by
    intro l
    induction l with
    | nil => exact Nat.le_refl _
    | cons a l ih =>
      rw [List.countP_cons, List.countP_cons, List.length_cons]
      by_cases e : a = i
      · subst e; rw [bet_irr]; simp; omega
      · rw [if_neg (show ¬ decide (a = i) = true by simpa using e)]; split <;> omega
  have h1 : 0 < (List.range np).countP (fun k => decide (k = i)) := List.countP_pos_iff.2 ⟨i, List.mem_range.2 hi, decide_eq_true rfl⟩
  have := h2 (List.range np)
  rw [List.length_range] at this
  omega

/-- of a property that some number below n has there is a number with the least f -/
theorem least_of (p : Nat → Prop) (f : Nat → Nat) (h : ∃ i, p i) : ∃ i, p i ∧ ∀ j, p j → f i ≤ f j := by
  obtain ⟨i, hi⟩ := h
  generalize hm : f i = m
  induction m using Nat.strongRecOn generalizing i with
  | _ m ih =>
    by_cases h : ∃ j, p j ∧ f j < m
    · obtain ⟨j, hj, hlt⟩ := h
      exact ih (f j) hlt j hj rfl
    · exact ⟨i, hi, fun j hj => by
        rcases Nat.lt_or_ge (f j) m with h1 | h1
        · exact absurd ⟨j, hj, h1⟩ h
        · omega⟩
/-- as many plates get prizes as there are prizes, or more -/
theorem many_get : ∀ z, z ≤ np → z ≤ (List.range np).countP fun i => decide (placeN t s np i ≤ z) := by
  intro z
  induction z with
  | zero => intro _; exact Nat.zero_le _
  | succ z ih =>
    intro hz
    have h0 := ih (by omega)
    have hmono : (List.range np).countP (fun i => decide (placeN t s np i ≤ z)) ≤ (List.range np).countP fun i => decide (placeN t s np i ≤ z + 1) := List.countP_mono_left fun i _ h => by
      simp only [decide_eq_true_eq] at *; omega
    rcases Nat.lt_or_ge z ((List.range np).countP fun i => decide (placeN t s np i ≤ z)) with h1 | h1
    · omega
    · -- one is left that has no prize yet: the best of these
      have hex : ∃ i, i < np ∧ z < placeN t s np i := by
        rcases Classical.em (∃ i, i < np ∧ z < placeN t s np i) with h | h
        · exact h
        · exfalso
          have : (List.range np).countP (fun i => decide (placeN t s np i ≤ z)) = (List.range np).length := by
            rw [List.countP_eq_length]
            intro i hi
            rw [decide_eq_true_eq]
            rcases Nat.lt_or_ge z (placeN t s np i) with h2 | h2
            · exact absurd ⟨i, List.mem_range.1 hi, h2⟩ h
            · exact h2
          rw [List.length_range] at this
          omega
      obtain ⟨i, ⟨hi, hiz⟩, hmin⟩ := least_of (fun i => i < np ∧ z < placeN t s np i) (placeN t s np) hex
      have hle : placeN t s np i ≤ z + 1 := by
        have : (List.range np).countP (fun j => bet t s j i) ≤ (List.range np).countP fun j => decide (placeN t s np j ≤ z) := List.countP_mono_left fun j hj hb => by
          rw [decide_eq_true_eq]
          rcases Nat.lt_or_ge z (placeN t s np j) with h2 | h2
          · have := hmin j ⟨List.mem_range.1 hj, h2⟩
            have := place_lt (List.mem_range.1 hj) hb
            omega
          · exact h2
        unfold placeN at *
        omega
      have h2 : ∀ l : List Nat, l.countP (fun j => decide (placeN t s np j ≤ z)) + l.countP (fun j => decide (j = i)) ≤ l.countP fun j => decide (placeN t s np j ≤ z + 1) := by
        intro l
        induction l with
        | nil => exact Nat.le_refl _
        | cons a l ih =>
          rw [List.countP_cons, List.countP_cons, List.countP_cons]
          by_cases e : a = i
          · subst e
            rw [if_neg (show ¬ decide (placeN t s np a ≤ z) = true by simp; omega), if_pos (show decide (a = a) = true by simp), if_pos (decide_eq_true hle)]
            omega
          · rw [if_neg (show ¬ decide (a = i) = true by simpa using e)]
            by_cases h3 : placeN t s np a ≤ z
            · rw [if_pos (decide_eq_true h3), if_pos (decide_eq_true (by omega))]; omega
            · rw [if_neg (by simpa using h3)]; omega
      have h3 : 0 < (List.range np).countP (fun j => decide (j = i)) := List.countP_pos_iff.2 ⟨i, List.mem_range.2 hi, decide_eq_true rfl⟩
      have := h2 (List.range np)
      omega
theorem many_min (z : Int) (hz : 0 ≤ z) : min z np ≤ (((List.range np).countP fun i => decide ((placeN t s np i : Int) ≤ z) : Nat) : Int) := by
  obtain ⟨n, rfl⟩ : ∃ n : Nat, z = n := ⟨z.toNat, by omega⟩
  have e : ((List.range np).countP fun i => decide ((placeN t s np i : Int) ≤ (n : Int))) = (List.range np).countP fun i => decide (placeN t s np i ≤ n) := List.countP_congr fun i _ => by simp
  rw [e]
  rcases Nat.le_total n np with h | h
  · have := many_get (t := t) (s := s) n h
    omega
  · have h1 : (List.range np).countP (fun i => decide (placeN t s np i ≤ n)) = (List.range np).length := by
      rw [List.countP_eq_length]
      intro i hi
      have := place_le (t := t) (s := s) (List.mem_range.1 hi)
      exact decide_eq_true (by omega)
    rw [h1, List.length_range]
    omega
end

/-- one total is another one -/
def upd (t : Nat → Int) (i : Nat) (x : Int) (j : Nat) : Int := if j = i then x else t j
theorem upd_at (t : Nat → Int) (i : Nat) (x : Int) : upd t i x i = x := if_pos rfl
theorem upd_ne {t : Nat → Int} {i j : Nat} {x : Int} (h : j ≠ i) : upd t i x j = t j := if_neg h
/-- a greater total of one plate: its place is not greater, those of the others are not less -/
theorem place_up {t s : Nat → Int} {np i : Nat} {x y : Int} (h : x ≤ y) : placeN (upd t i y) s np i ≤ placeN (upd t i x) s np i :=
  place_mono (by rw [upd_at, upd_at]; exact h) fun j _ hj => by rw [upd_ne hj, upd_ne hj]; exact Int.le_refl _
theorem place_others {t s : Nat → Int} {np i j : Nat} {x y : Int} (h : x ≤ y) (hj : j ≠ i) : placeN (upd t i x) s np j ≤ placeN (upd t i y) s np j :=
  place_mono (by rw [upd_ne hj, upd_ne hj]; exact Int.le_refl _) fun k _ _ => by
    by_cases e : k = i
    · subst e; rw [upd_at, upd_at]; exact h
    · rw [upd_ne e, upd_ne e]; exact Int.le_refl _
/-- between two totals with which the same plates get prizes they do with each -/
theorem get_between {t s : Nat → Int} {np i : Nat} {x y z : Int} {p : Int} (h1 : x ≤ y) (h2 : y ≤ z) (h : ∀ j, j < np → (decide ((placeN (upd t i x) s np j : Int) ≤ p) = decide ((placeN (upd t i z) s np j : Int) ≤ p))) (j : Nat) (hj : j < np) : decide ((placeN (upd t i y) s np j : Int) ≤ p) = decide ((placeN (upd t i x) s np j : Int) ≤ p) := by
  have h3 := h j hj
  rw [decide_eq_decide] at h3 ⊢
  by_cases e : j = i
  · subst e
    have a := place_up (t := t) (s := s) (np := np) (i := j) h1
    have b := place_up (t := t) (s := s) (np := np) (i := j) h2
    omega
  · have a := place_others (t := t) (s := s) (np := np) h1 e
    have b := place_others (t := t) (s := s) (np := np) h2 e
    omega

end Go.Proofs.Ytffnlimgjnhmpaa

namespace Go.Proofs.Ytffnlimgjnhmpaa

/-- the first i numbers are not greater than any one behind them -/
def Up (i : Nat) (L : List Int) : Prop := ∀ a b, a < i → a < b → b < L.length → L.getD a 0 ≤ L.getD b 0
def swp (L : List Int) (i k : Nat) : List Int := (L.set i (L.getD k 0)).set k (L.getD i 0)
theorem getD_at {L : List Int} {i : Nat} (h : i < L.length) : L.getD i 0 = L[i] := by simp [List.getD, List.getElem?_eq_getElem h]
theorem swp_len (L : List Int) (i k : Nat) : (swp L i k).length = L.length := by simp [swp]
theorem swp_perm {L : List Int} {i k : Nat} (hi : i < L.length) (hk : k < L.length) : (swp L i k).Perm L := by
  unfold swp
  rw [getD_at hi, getD_at hk]
  exact List.set_set_perm hi hk
theorem swp_at {L : List Int} {i k : Nat} (hi : i < L.length) (hk : k < L.length) (j : Nat) : (swp L i k).getD j 0 = if j = k then L.getD i 0 else if j = i then L.getD k 0 else L.getD j 0 := by
  unfold swp
  simp only [List.getD_eq_getElem?_getD, List.getElem?_set]
  by_cases h1 : j = k
  · subst h1; simp [hk]
  · rw [if_neg (fun e => h1 e.symm), if_neg h1]
    by_cases h2 : j = i
    · subst h2; simp [hi]
    · rw [if_neg (fun e => h2 e.symm), if_neg h2]
theorem up_swp {L : List Int} {i k : Nat} (h : Up i L) (hik : i < k) (hk : k < L.length) : Up i (swp L i k) := by
  intro a b ha hab hb
  rw [swp_len] at hb
  rw [swp_at (by omega) hk, swp_at (by omega) hk, if_neg (by omega), if_neg (by omega)]
  by_cases h1 : b = k
  · rw [if_pos h1]; exact h a i ha (by omega) (by omega)
  · rw [if_neg h1]
    by_cases h2 : b = i
    · rw [if_pos h2]; exact h a k ha (by omega) hk
    · rw [if_neg h2]; exact h a b ha hab hb
/-- so far the i-th is the least from there on -/
def Lst (i k : Nat) (L : List Int) : Prop := ∀ j, i < j → j < k → L.getD i 0 ≤ L.getD j 0
theorem lst_swp {L : List Int} {i k : Nat} (h : Lst i k L) (hik : i < k) (hk : k < L.length) (hl : L.getD k 0 < L.getD i 0) : Lst i (k + 1) (swp L i k) := by
  intro j h1 h2
  rw [swp_at (by omega) hk, swp_at (by omega) hk, if_neg (by omega), if_pos rfl]
  by_cases h3 : j = k
  · rw [if_pos h3]; omega
  · rw [if_neg h3, if_neg (by omega)]
    have := h j h1 (by omega)
    omega
theorem lst_keep {L : List Int} {i k : Nat} (h : Lst i k L) (hl : ¬ L.getD k 0 < L.getD i 0) : Lst i (k + 1) L := by
  intro j h1 h2
  by_cases h3 : j = k
  · subst h3; omega
  · exact h j h1 (by omega)
theorem up_next {L : List Int} {i : Nat} (h : Up i L) (hl : Lst i L.length L) : Up (i + 1) L := by
  intro a b ha hab hb
  rcases Nat.lt_succ_iff_lt_or_eq.1 ha with h1 | h1
  · exact h a b h1 hab hb
  · subst h1; exact hl b hab hb
theorem up_done {L M : List Int} (h : Up L.length L) (hp : L.Perm M) : L = srt M := by
  refine srt_unique (List.pairwise_iff_getElem.2 fun a b ha hb hab => ?_) hp
  have := h a b ha hab hb
  rw [getD_at ha, getD_at hb] at this
  exact this

/-- the sum from the d-th on, up to the i-th -/
def psum (d i : Nat) (L : List Int) : Int := ((L.drop d).take (i - d)).sum
theorem psum_zero (d : Nat) (L : List Int) : psum d d L = 0 := by simp [psum]
theorem psum_step {d i : Nat} {L : List Int} (hd : d ≤ i) (hi : i < L.length) : psum d (i + 1) L = psum d i L + L.getD i 0 := by
  unfold psum
  rw [show i + 1 - d = (i - d) + 1 by omega, List.take_add_one, List.sum_append, List.getElem?_drop, show d + (i - d) = i by omega, List.getElem?_eq_getElem hi, getD_at hi]
  simp
theorem psum_tot {d : Nat} {M : List Int} (h : 2 * d ≤ M.length) : psum d (M.length - d) (srt M) = tot d M := by
  unfold psum tot
  rw [show M.length - d - d = M.length - 2 * d by omega]
theorem psum_le {d : Nat} {L : List Int} (hL : ∀ x, x ∈ L → -1 ≤ x ∧ x ≤ 1000) : ∀ i, d ≤ i → i ≤ L.length → -(i : Int) ≤ psum d i L ∧ psum d i L ≤ 1000 * (i : Int) := by
  intro i
  induction i with
  | zero => intro h _; have : d = 0 := by omega
            subst this; rw [psum_zero]; omega
  | succ i ih =>
    intro hd hi
    by_cases e : d = i + 1
    · subst e; rw [psum_zero]; omega
    · have h1 := ih (by omega) (by omega)
      rw [psum_step (by omega) (by omega)]
      have h2 := hL (L.getD i 0) (by rw [getD_at (by omega)]; exact List.getElem_mem _)
      omega

end Go.Proofs.Ytffnlimgjnhmpaa

namespace Go.Proofs.Ytffnlimgjnhmpaa

/-- a valid show -/
structure GoodS (S : JB) : Prop where
  J1 : 1 ≤ S.J
  J5 : S.J ≤ 5
  D0 : 0 ≤ S.D
  DJ : 2 * S.D < S.J
  Z0 : 0 ≤ S.Z
  Z6 : S.Z ≤ 6
  np : S.np ≤ 6
  sz : ∀ i, i < S.np → 0 ≤ S.sz i ∧ S.sz i ≤ 999
  len : ∀ i, i < S.np → ((S.pts i).length : Int) = S.J
  pt : ∀ i, i < S.np → ∀ x, x ∈ S.pts i → -1 ≤ x ∧ x ≤ 20
/-- the points of a plate where those that are not in are 0; where they are 20 -/
def loT (S : JB) (i : Nat) : Int := tot S.D.toNat (fil 0 (S.pts i))
def hiT (S : JB) (i : Nat) : Int := tot S.D.toNat (fil 20 (S.pts i))
/-- the least and the greatest place -/
def plLo (S : JB) (i : Nat) : Nat := placeN (upd (loT S) i (hiT S i)) S.sz S.np i
def plHi (S : JB) (i : Nat) : Nat := placeN (upd (hiT S) i (loT S i)) S.sz S.np i
/-- what is known of a prize: 1 surely, 2 never, 3 perhaps -/
def prz (S : JB) (i : Nat) : Int := if (plHi S i : Int) ≤ S.Z then 1 else if S.Z < (plLo S i : Int) then 2 else 3
/-- is a plate better, with these totals? -/
def btr (s : Nat → Int) (i j : Nat) (a b : Int) : Bool := decide (b < a) || (decide (a = b) && decide (s j < s i))
theorem btr_bet (t s : Nat → Int) (i j : Nat) : bet t s i j = btr s i j (t i) (t j) := rfl
theorem btr_mono {s : Nat → Int} {i j : Nat} {a b a' b' : Int} (ha : a ≤ a') (hb : b' ≤ b) (h : btr s i j a b = true) : btr s i j a' b' = true := by
  simp only [btr, Bool.or_eq_true, Bool.and_eq_true, decide_eq_true_eq] at *
  omega
def kno (S : JB) (i j : Nat) : Int := if btr S.sz i j (loT S i) (hiT S j) then 1 else if btr S.sz i j (hiT S i) (loT S j) then 3 else 2

theorem fil_jdg {l : List Int} (n : Int) (h : 0 ≤ n ∧ n ≤ 20) : Jdg l (fil n l) := by
  refine ⟨fil_len n l, fun i h1 h2 => ?_⟩
  simp only [fil, List.getElem_map]
  constructor
  · intro e; rw [if_pos e]; exact h
  · intro e; rw [if_neg e]
theorem lo_hi (S : JB) (i : Nat) : loT S i ≤ hiT S i := jdg_high (fil_jdg 0 (by omega))

section
variable {S : JB} {m : Nat → List Int}
/-- each judging -/
theorem each_total (h : ∀ i, i < S.np → Jdg (S.pts i) (m i)) {i : Nat} (hi : i < S.np) : loT S i ≤ tot S.D.toNat (m i) ∧ tot S.D.toNat (m i) ≤ hiT S i := ⟨jdg_low (h i hi), jdg_high (h i hi)⟩
theorem each_place (h : ∀ i, i < S.np → Jdg (S.pts i) (m i)) {i : Nat} (hi : i < S.np) : plLo S i ≤ placeN (fun j => tot S.D.toNat (m j)) S.sz S.np i ∧ placeN (fun j => tot S.D.toNat (m j)) S.sz S.np i ≤ plHi S i :=
  ⟨place_mono (by rw [upd_at]; exact (each_total h hi).2) fun j hj hne => by rw [upd_ne hne]; exact (each_total h hj).1, place_mono (by rw [upd_at]; exact (each_total h hi).1) fun j hj hne => by rw [upd_ne hne]; exact (each_total h hj).2⟩
theorem pl_le (S : JB) (i : Nat) : plLo S i ≤ plHi S i := place_mono (by rw [upd_at, upd_at]; exact lo_hi S i) fun j _ hne => by rw [upd_ne hne, upd_ne hne]; exact lo_hi S j
theorem each_prize (h : ∀ i, i < S.np → Jdg (S.pts i) (m i)) {i : Nat} (hi : i < S.np) : (prz S i = 3) ∨ (prz S i = 1 ∧ (placeN (fun j => tot S.D.toNat (m j)) S.sz S.np i : Int) ≤ S.Z) ∨ (prz S i = 2 ∧ ¬ (placeN (fun j => tot S.D.toNat (m j)) S.sz S.np i : Int) ≤ S.Z) := by
  obtain ⟨h1, h2⟩ := each_place h hi
  unfold prz
  split
  · exact .inr (.inl ⟨rfl, by omega⟩)
  · split
    · exact .inr (.inr ⟨rfl, by omega⟩)
    · exact .inl rfl
theorem each_better (h : ∀ i, i < S.np → Jdg (S.pts i) (m i)) {i j : Nat} (hi : i < S.np) (hj : j < S.np) : (kno S i j = 3) ∨ (kno S i j = 1 ∧ bet (fun j => tot S.D.toNat (m j)) S.sz i j = true) ∨ (kno S i j = 2 ∧ bet (fun j => tot S.D.toNat (m j)) S.sz i j = false) := by
  obtain ⟨a1, a2⟩ := each_total h hi
  obtain ⟨b1, b2⟩ := each_total h hj
  unfold kno
  split
  · rename_i h1; exact .inr (.inl ⟨rfl, btr_mono a1 b2 h1⟩)
  · split
    · exact .inl rfl
    · rename_i h1 h2
      refine .inr (.inr ⟨rfl, ?_⟩)
      rw [Bool.eq_false_iff]
      intro h3
      exact h2 (btr_mono a2 b1 h3)
end

/-- a show of the same kind, whose totals are within the other one's -/
structure Nar (S S' : JB) : Prop where
  np : S'.np = S.np
  Z : S'.Z = S.Z
  sz : S'.sz = S.sz
  lo : ∀ i, i < S.np → loT S i ≤ loT S' i
  hi : ∀ i, i < S.np → hiT S' i ≤ hiT S i
theorem Nar.place {S S' : JB} (h : Nar S S') {i : Nat} (hi : i < S.np) : plLo S i ≤ plLo S' i ∧ plHi S' i ≤ plHi S i := by
  unfold plLo plHi
  rw [h.np, h.sz]
  exact ⟨place_mono (by rw [upd_at, upd_at]; exact h.hi i hi) fun j hj hne => by rw [upd_ne hne, upd_ne hne]; exact h.lo j hj, place_mono (by rw [upd_at, upd_at]; exact h.lo i hi) fun j hj hne => by rw [upd_ne hne, upd_ne hne]; exact h.hi j hj⟩
theorem Nar.prize {S S' : JB} (h : Nar S S') {i : Nat} (hi : i < S.np) : prz S i = 3 ∨ prz S' i = prz S i := by
  obtain ⟨h1, h2⟩ := h.place hi
  have h3 := pl_le S' i
  unfold prz
  rw [h.Z]
  split
  · rw [if_pos (by omega)]; exact .inr rfl
  · split
    · rw [if_neg (by omega), if_pos (by omega)]; exact .inr rfl
    · exact .inl rfl
theorem Nar.better {S S' : JB} (h : Nar S S') {i j : Nat} (hi : i < S.np) (hj : j < S.np) : kno S i j = 3 ∨ kno S' i j = kno S i j := by
  unfold kno
  rw [h.sz]
  split
  · rename_i h1
    rw [if_pos (btr_mono (h.lo i hi) (h.hi j hj) h1)]; exact .inr rfl
  · split
    · exact .inl rfl
    · rename_i h1 h2
      rw [if_neg, if_neg]
      · exact .inr rfl
      · intro h3; exact h2 (btr_mono (h.hi i hi) (h.lo j hj) h3)
      · intro h3; exact h2 (btr_mono (Int.le_trans (lo_hi S' i) (h.hi i hi)) (Int.le_trans (h.lo j hj) (lo_hi S' j)) h3)

/-- points that come in -/
def withP (S : JB) (q k : Nat) (x : Int) : JB := { S with pts := fun i => if i = q then (S.pts i).set k x else S.pts i }
theorem set_lo {l : List Int} {k : Nat} {x : Int} (hk : k < l.length) (h : l[k] = -1) (hx : 0 ≤ x ∧ x ≤ 20) (d : Nat) : tot d (fil 0 l) ≤ tot d (fil 0 (l.set k x)) ∧ tot d (fil 20 (l.set k x)) ≤ tot d (fil 20 l) := by
  constructor
  · refine tot_mono d (by simp [fil]) fun i h1 h2 => ?_
    simp only [fil, List.getElem_map, List.getElem_set]
    by_cases e : k = i
    · subst e; rw [if_pos h, if_pos rfl, if_neg (by omega)]; exact hx.1
    · rw [if_neg e]; exact Int.le_refl _
  · refine tot_mono d (by simp [fil]) fun i h1 h2 => ?_
    simp only [fil, List.getElem_map, List.getElem_set]
    by_cases e : k = i
    · subst e; rw [if_pos rfl, if_neg (by omega), if_pos h]; exact hx.2
    · rw [if_neg e]; exact Int.le_refl _
theorem nar_with {S : JB} {q k : Nat} {x : Int} (hq : q < S.np) (hk : k < (S.pts q).length) (h : (S.pts q)[k] = -1) (hx : 0 ≤ x ∧ x ≤ 20) : Nar S (withP S q k x) := by
  refine ⟨rfl, rfl, rfl, fun i _ => ?_, fun i _ => ?_⟩
  · show tot _ _ ≤ tot S.D.toNat (fil 0 (if i = q then (S.pts i).set k x else S.pts i))
    split
    · rename_i e; subst e; exact (set_lo hk h hx _).1
    · exact Int.le_refl _
  · show tot S.D.toNat (fil 20 (if i = q then (S.pts i).set k x else S.pts i)) ≤ _
    split
    · rename_i e; subst e; exact (set_lo hk h hx _).2
    · exact Int.le_refl _

/-- more points of a mark that is in -/
theorem set_more {l : List Int} {k : Nat} {x : Int} (hk : k < l.length) (h0 : 0 ≤ l[k]) (hx : l[k] ≤ x) (n : Int) (d : Nat) : tot d (fil n l) ≤ tot d (fil n (l.set k x)) := by
  refine tot_mono d (by simp [fil]) fun i h1 h2 => ?_
  simp only [fil, List.getElem_map, List.getElem_set]
  by_cases e : k = i
  · subst e; rw [if_pos rfl, if_neg (by omega), if_neg (by omega)]; exact hx
  · rw [if_neg e]; exact Int.le_refl _
/-- a show in which a plate has more points, or larger fruits -/
structure Grw (S S' : JB) (q : Nat) : Prop where
  np : S'.np = S.np
  own : S.sz q ≤ S'.sz q
  sz : ∀ i, i ≠ q → S'.sz i = S.sz i
  lo : loT S q ≤ loT S' q
  hi : hiT S q ≤ hiT S' q
  lo' : ∀ i, i ≠ q → loT S' i = loT S i
  hi' : ∀ i, i ≠ q → hiT S' i = hiT S i
theorem place_own {t t' s s' : Nat → Int} {np q : Nat} (ht : t q ≤ t' q) (hs : s q ≤ s' q) (h : ∀ j, j ≠ q → t' j = t j ∧ s' j = s j) : placeN t' s' np q ≤ placeN t s np q := by
  unfold placeN
  refine Nat.succ_le_succ (List.countP_mono_left fun j _ hb => ?_)
  by_cases e : j = q
  · subst e
    simp only [bet, Bool.or_eq_true, Bool.and_eq_true, decide_eq_true_eq] at hb
    omega
  · obtain ⟨h1, h2⟩ := h j e
    simp only [bet, Bool.or_eq_true, Bool.and_eq_true, decide_eq_true_eq] at hb ⊢
    omega
theorem place_oth {t t' s s' : Nat → Int} {np q i : Nat} (hi : i ≠ q) (ht : t q ≤ t' q) (hs : s q ≤ s' q) (h : ∀ j, j ≠ q → t' j = t j ∧ s' j = s j) : placeN t s np i ≤ placeN t' s' np i := by
  unfold placeN
  refine Nat.succ_le_succ (List.countP_mono_left fun j _ hb => ?_)
  obtain ⟨h1, h2⟩ := h i hi
  by_cases e : j = q
  · subst e
    simp only [bet, Bool.or_eq_true, Bool.and_eq_true, decide_eq_true_eq] at hb ⊢
    omega
  · obtain ⟨h3, h4⟩ := h j e
    simp only [bet, Bool.or_eq_true, Bool.and_eq_true, decide_eq_true_eq] at hb ⊢
    omega
theorem Grw.own_place {S S' : JB} {q : Nat} (h : Grw S S' q) : plLo S' q ≤ plLo S q ∧ plHi S' q ≤ plHi S q := by
  unfold plLo plHi
  rw [h.np]
  exact ⟨place_own (by rw [upd_at, upd_at]; exact h.hi) h.own fun j hj => ⟨by rw [upd_ne hj, upd_ne hj]; exact h.lo' j hj, h.sz j hj⟩, place_own (by rw [upd_at, upd_at]; exact h.lo) h.own fun j hj => ⟨by rw [upd_ne hj, upd_ne hj]; exact h.hi' j hj, h.sz j hj⟩⟩
theorem Grw.oth_place {S S' : JB} {q i : Nat} (h : Grw S S' q) (hi : i ≠ q) : plLo S i ≤ plLo S' i ∧ plHi S i ≤ plHi S' i := by
  unfold plLo plHi
  rw [h.np]
  constructor
  · refine place_oth hi (by rw [upd_ne hi.symm, upd_ne hi.symm]; exact h.lo) h.own fun j hj => ⟨?_, h.sz j hj⟩
    by_cases e : j = i
    · subst e; rw [upd_at, upd_at]; exact h.hi' j hj
    · rw [upd_ne e, upd_ne e]; exact h.lo' j hj
  · refine place_oth hi (by rw [upd_ne hi.symm, upd_ne hi.symm]; exact h.hi) h.own fun j hj => ⟨?_, h.sz j hj⟩
    by_cases e : j = i
    · subst e; rw [upd_at, upd_at]; exact h.lo' j hj
    · rw [upd_ne e, upd_ne e]; exact h.hi' j hj

/-- what a plate needs: with this total it gets a prize, whatever the others have -/
def nds (S : JB) (i : Nat) (n : Int) : Bool := decide ((placeN (upd (hiT S) i n) S.sz S.np i : Int) ≤ S.Z)
theorem nds_mono {S : JB} {i : Nat} {n n' : Int} (h : n ≤ n') (hn : nds S i n = true) : nds S i n' = true := by
  unfold nds at *
  rw [decide_eq_true_eq] at *
  have := place_up (t := hiT S) (s := S.sz) (np := S.np) (i := i) h
  omega
theorem nds_low (S : JB) (i : Nat) : nds S i (loT S i) = decide (prz S i = 1) := by
  unfold nds prz plHi
  split
  · rename_i h; rw [decide_eq_true h]; rfl
  · rename_i h
    rw [decide_eq_false h]
    split <;> rfl
theorem nds_never {S : JB} {i : Nat} (h : prz S i = 2) : nds S i (hiT S i) = false := by
  have h1 : placeN (upd (loT S) i (hiT S i)) S.sz S.np i ≤ placeN (upd (hiT S) i (hiT S i)) S.sz S.np i := place_mono (by rw [upd_at, upd_at]; exact Int.le_refl _) fun j _ hne => by rw [upd_ne hne, upd_ne hne]; exact lo_hi S j
  unfold prz at h
  split at h
  · omega
  · split at h
    · rename_i h2
      unfold nds
      refine decide_eq_false fun h3 => ?_
      unfold plLo at h2
      omega
    · omega
theorem nds_judged {S : JB} {m : Nat → List Int} (h : ∀ i, i < S.np → Jdg (S.pts i) (m i)) {i : Nat} (hi : i < S.np) {n : Int} (hn : nds S i n = true) (hm : n ≤ tot S.D.toNat (m i)) : (placeN (fun j => tot S.D.toNat (m j)) S.sz S.np i : Int) ≤ S.Z := by
  have h1 : placeN (fun j => tot S.D.toNat (m j)) S.sz S.np i ≤ placeN (upd (hiT S) i n) S.sz S.np i := place_mono (by rw [upd_at]; exact hm) fun j hj hne => by rw [upd_ne hne]; exact (each_total h hj).2
  unfold nds at hn
  rw [decide_eq_true_eq] at hn
  omega

/-- the plates that get a prize, when all is in -/
def gets (t s : Nat → Int) (np : Nat) (z : Int) (i : Nat) : Bool := decide ((placeN t s np i : Int) ≤ z)
/-- when all is in, the least total is the greatest -/
theorem fil_in {l : List Int} (h : ∀ x, x ∈ l → x ≠ -1) (n : Int) : fil n l = l := by
  unfold fil
  rw [List.map_congr_left (g := id) fun x hx => by rw [if_neg (h x hx)]; rfl, List.map_id]

/-- the order of places: of two plates one is ahead of the other one -/
theorem place_or {t s : Nat → Int} {np i j : Nat} (hi : i < np) (hj : j < np) : (bet t s i j = true ↔ placeN t s np i < placeN t s np j) := by
  constructor
  · exact place_lt hi
  · intro h
    by_cases h1 : bet t s j i = true
    · have := place_lt (t := t) (s := s) hj h1; omega
    · -- neither is better: the same plates are better than both
      by_cases h2 : bet t s i j = true
      · exact h2
      · exfalso
        have e : placeN t s np i = placeN t s np j := by
          unfold placeN
          congr 1
          refine List.countP_congr fun k _ => ?_
          simp only [bet, Bool.or_eq_true, Bool.and_eq_true, decide_eq_true_eq] at h1 h2 ⊢
          omega
        omega

end Go.Proofs.Ytffnlimgjnhmpaa

namespace Go.Proofs.Ytffnlimgjnhmpaa

/-- so many i below n with p i -/
def cnt : Nat → (Nat → Bool) → Nat
  | 0, _ => 0
  | n + 1, p => cnt n p + (if p n then 1 else 0)
theorem cnt_le (n : Nat) (p : Nat → Bool) : cnt n p ≤ n := by
  induction n with
  | zero => simp [cnt]
  | succ n ih => simp only [cnt]; split <;> omega
theorem cnt_hit {n : Nat} {p : Nat → Bool} (h : p n = true) : cnt (n + 1) p = cnt n p + 1 := by simp [cnt, h]
theorem cnt_miss {n : Nat} {p : Nat → Bool} (h : p n = false) : cnt (n + 1) p = cnt n p := by simp [cnt, h]
theorem cnt_range (n : Nat) (p : Nat → Bool) : (List.range n).countP p = cnt n p := by
  induction n with
  | zero => rfl
  | succ n ih => rw [List.range_succ, List.countP_append, ih]; simp [cnt]
theorem cnt_congr {n : Nat} {p q : Nat → Bool} (h : ∀ i, i < n → p i = q i) : cnt n p = cnt n q := by
  induction n with
  | zero => rfl
  | succ n ih => simp only [cnt]; rw [ih fun i hi => h i (by omega), h n (by omega)]
theorem cnt_mono {n : Nat} {p q : Nat → Bool} (h : ∀ i, i < n → p i = true → q i = true) : cnt n p ≤ cnt n q := by
  rw [← cnt_range, ← cnt_range]
  exact List.countP_mono_left fun i hi hp => h i (List.mem_range.1 hi) hp
/-- the numbers below n with p -/
def sel (p : Nat → Bool) : Nat → List Int
  | 0 => []
  | k + 1 => if p k then sel p k ++ [(k : Int)] else sel p k
theorem sel_len (p : Nat → Bool) (k : Nat) : (sel p k).length ≤ k := by
  induction k with
  | zero => simp [sel]
  | succ k ih =>
    unfold sel; split
    · simp; omega
    · omega
theorem sel_cnt (p : Nat → Bool) (k : Nat) : (sel p k).length = cnt k p := by
  induction k with
  | zero => rfl
  | succ k ih =>
    unfold sel cnt; split
    · simp [ih]
    · simp [ih]
theorem sel_hit {p : Nat → Bool} {k : Nat} (h : p k = true) : sel p (k + 1) = sel p k ++ [(k : Int)] := by simp [sel, h]
theorem sel_miss {p : Nat → Bool} {k : Nat} (h : p k = false) : sel p (k + 1) = sel p k := by simp [sel, h]
theorem sel_congr {p q : Nat → Bool} {n : Nat} (h : ∀ i, i < n → p i = q i) : sel p n = sel q n := by
  induction n with
  | zero => rfl
  | succ n ih => unfold sel; rw [ih fun i hi => h i (by omega), h n (by omega)]
theorem mem_sel {p : Nat → Bool} {n : Nat} {x : Int} : x ∈ sel p n ↔ ∃ i, i < n ∧ p i = true ∧ x = (i : Int) := by
  induction n with
  | zero => simp [sel]
  | succ n ih =>
    unfold sel
    split
    · rename_i h
      rw [List.mem_append, ih]
      constructor
      · rintro (⟨i, h1, h2, h3⟩ | h4)
        · exact ⟨i, by omega, h2, h3⟩
        · exact ⟨n, by omega, h, by simpa using h4⟩
      · rintro ⟨i, h1, h2, h3⟩
        rcases Nat.lt_or_ge i n with h4 | h4
        · exact .inl ⟨i, h4, h2, h3⟩
        · have : i = n := by omega
          subst this
          exact .inr (by simp [h3])
    · rename_i h
      rw [ih]
      constructor
      · rintro ⟨i, h1, h2, h3⟩; exact ⟨i, by omega, h2, h3⟩
      · rintro ⟨i, h1, h2, h3⟩
        refine ⟨i, ?_, h2, h3⟩
        rcases Nat.lt_or_ge i n with h4 | h4
        · exact h4
        · have : i = n := by omega
          subst this; exact absurd h2 h
/-- two such lists are the same just if they have the same numbers -/
theorem sel_eq {p q : Nat → Bool} {n : Nat} : sel p n = sel q n ↔ ∀ i, i < n → p i = q i := by
  constructor
  · intro h i hi
    rw [Bool.eq_iff_iff]
    have : ((i : Int) ∈ sel p n) ↔ ((i : Int) ∈ sel q n) := by rw [h]
    rw [mem_sel, mem_sel] at this
    constructor
    · intro hp
      obtain ⟨j, _, h2, h3⟩ := this.1 ⟨i, hi, hp, rfl⟩
      have : i = j := by omega
      subst this; exact h2
    · intro hp
      obtain ⟨j, _, h2, h3⟩ := this.2 ⟨i, hi, hp, rfl⟩
      have : i = j := by omega
      subst this; exact h2
  · exact fun h => sel_congr h

/-- is there an i below n with p i? -/
def anyB (n : Nat) (p : Nat → Bool) : Bool := (List.range n).any p
def allB (n : Nat) (p : Nat → Bool) : Bool := (List.range n).all p
theorem anyB_true {n : Nat} {p : Nat → Bool} : anyB n p = true ↔ ∃ i, i < n ∧ p i = true := by simp [anyB]
theorem anyB_false {n : Nat} {p : Nat → Bool} : anyB n p = false ↔ ∀ i, i < n → p i = false := by simp [anyB]
theorem allB_true {n : Nat} {p : Nat → Bool} : allB n p = true ↔ ∀ i, i < n → p i = true := by simp [allB]
theorem allB_false {n : Nat} {p : Nat → Bool} : allB n p = false ↔ ∃ i, i < n ∧ p i = false := by simp [allB]

/-- can these be points, or points that are not in yet? -/
def okPt (x : Int) : Bool := decide (-1 ≤ x) && decide (x ≤ 20)
/-- is it a plate of a show with J judges? -/
def okPl (J s : Int) (l : List Int) : Bool := (decide (0 ≤ s) && decide (s ≤ 999)) && (decide ((l.length : Int) = J) && l.all okPt)
def okN (S : JB) : Bool := (decide (1 ≤ S.J) && decide (S.J ≤ 5)) && ((decide (0 ≤ S.D) && decide (2 * S.D < S.J)) && ((decide (0 ≤ S.Z) && decide (S.Z ≤ 6)) && decide (S.np ≤ 6)))
def okS (S : JB) : Bool := okN S && allB S.np fun i => okPl S.J (S.sz i) (S.pts i)
theorem okS_good {S : JB} (h : okS S = true) : GoodS S := by
  unfold okS okN at h
  simp only [Bool.and_eq_true, decide_eq_true_eq, allB_true] at h
  obtain ⟨⟨⟨h1, h2⟩, ⟨h3, h4⟩, ⟨h5, h6⟩, h7⟩, h8⟩ := h
  refine ⟨h1, h2, h3, h4, h5, h6, h7, fun i hi => ?_, fun i hi => ?_, fun i hi x hx => ?_⟩
  all_goals
    have := h8 i hi
    unfold okPl at this
    simp only [Bool.and_eq_true, decide_eq_true_eq, List.all_eq_true] at this
  · exact this.1
  · exact this.2.1
  · have := this.2.2 x hx
    unfold okPt at this
    simpa using this
theorem good_okS {S : JB} (h : GoodS S) : okS S = true := by
  unfold okS okN
  simp only [Bool.and_eq_true, decide_eq_true_eq, allB_true]
  refine ⟨⟨⟨h.J1, h.J5⟩, ⟨h.D0, h.DJ⟩, ⟨h.Z0, h.Z6⟩, h.np⟩, fun i hi => ?_⟩
  unfold okPl
  simp only [Bool.and_eq_true, decide_eq_true_eq, List.all_eq_true]
  exact ⟨h.sz i hi, h.len i hi, fun x hx => by unfold okPt; simpa using h.pt i hi x hx⟩

/-- is it the number of one of so many? -/
def inN (a : Int) (n : Nat) : Bool := decide (0 ≤ a) && decide (a < n)
theorem inN_nat {a : Int} {n : Nat} (h : inN a n = true) : ∃ k : Nat, a = k ∧ k < n := by
  unfold inN at h
  simp only [Bool.and_eq_true, decide_eq_true_eq] at h
  exact ⟨a.toNat, by omega, by omega⟩
/-- the error of a show that is asked for something -/
def errA (ok is : Bool) : Int := if ok then (if is then 0 else 1) else 80
theorem errA_no {ok is : Bool} (h : (ok && is) = false) : errA ok is ≠ 0 := by
  unfold errA; cases ok <;> cases is <;> simp_all
/-- .. when all must be in -/
def errC (ok is cl : Bool) : Int := if ok then (if is then (if cl then 0 else 81) else 1) else 80
theorem errC_no {ok is cl : Bool} (h : (ok && is && cl) = false) : errC ok is cl ≠ 0 := by
  unfold errC; cases ok <;> cases is <;> cases cl <;> simp_all

/-- a total: all points that are not in are n -/
def totP (S : JB) (i : Nat) (n : Int) : Int := tot S.D.toNat (fil n (S.pts i))
/-- is mark k of plate i not in yet? -/
def opn (S : JB) (i k : Nat) : Bool := decide ((S.pts i).getD k 0 = -1)
/-- are all points in? -/
def allIn (S : JB) : Bool := allB S.np fun i => !(S.pts i).any fun x => decide (x = -1)
/-- the least number from n on, so many tried, with p -/
def fstI (p : Int → Bool) : Nat → Int → Option Int
  | 0, _ => none
  | m + 1, n => if p n then some n else fstI p m (n + 1)
/-- how many are not known at the most if a mark comes in: the greatest over the numbers below m -/
def opens (S : JB) : Nat := cnt S.np fun i => decide (prz S i = 3)
def aft (S : JB) (q k : Nat) : Nat → Nat
  | 0 => 0
  | m + 1 => max (aft S q k m) (opens (withP S q k m))
theorem aft_le {S : JB} {q k : Nat} : ∀ {m x : Nat}, x < m → opens (withP S q k x) ≤ aft S q k m := by
  intro m
  induction m with
  | zero => intro x h; omega
  | succ m ih =>
    intro x h
    show _ ≤ max (aft S q k m) (opens (withP S q k m))
    rcases Nat.lt_or_ge x m with h1 | h1
    · have := ih h1; omega
    · have : x = m := by omega
      subst this; omega
theorem opens_le (S : JB) : opens S ≤ S.np := cnt_le _ _
theorem aft_np (S : JB) (q k m : Nat) : aft S q k m ≤ S.np := by
  induction m with
  | zero => exact Nat.zero_le _
  | succ m ih =>
    have := opens_le (withP S q k m)
    show max _ _ ≤ _
    have e : (withP S q k m).np = S.np := rfl
    omega
/-- the first of the marks with the least number behind it: of the marks below (i, k) -/
def nxtRow (S : JB) (i : Nat) : Nat → Option (Nat × Nat × Nat) → Option (Nat × Nat × Nat)
  | 0, b => b
  | k + 1, b =>
    let b := nxtRow S i k b
    if opn S i k then
      match b with
      | none => some (i, k, aft S i k 21)
      | some (p, q, l) => if aft S i k 21 < l then some (i, k, aft S i k 21) else some (p, q, l)
    else b
def nxtAll (S : JB) : Nat → Option (Nat × Nat × Nat)
  | 0 => none
  | i + 1 => nxtRow S i S.J.toNat (nxtAll S i)

/-- the plates that get a prize, when all is in -/
def totI (S : JB) (i : Nat) : Int := tot S.D.toNat (S.pts i)
def plc (S : JB) (i : Nat) : Nat := placeN (totI S) S.sz S.np i
def gotP (S : JB) (i : Nat) : Bool := decide ((plc S i : Int) ≤ S.Z)
def getL (S : JB) : List Int := sel (gotP S) S.np
/-- all plates by their places -/
def rnk (S : JB) : Nat → List Int
  | 0 => []
  | m + 1 => rnk S m ++ sel (fun i => decide (plc S i = m + 1)) S.np
/-- between what the points of a mark could be: numbers below m were tried -/
def room (S : JB) (q k : Nat) : Nat → Int × Int
  | 0 => ((S.pts q).getD k 0, (S.pts q).getD k 0)
  | m + 1 => if getL (withP S q k m) = getL S then (min (room S q k m).1 m, max (room S q k m).2 m) else room S q k m
/-- a show without a judge -/
def drp (J D : Int) : Int := min D (max 0 (J - 2) / 2)
def withoutJ (S : JB) (k : Nat) : JB := { S with J := S.J - 1, D := drp S.J S.D, pts := fun i => (S.pts i).eraseIdx k }
def dec (S : JB) : List Int := sel (fun k => !decide (getL (withoutJ S k) = getL S)) S.J.toNat

end Go.Proofs.Ytffnlimgjnhmpaa
