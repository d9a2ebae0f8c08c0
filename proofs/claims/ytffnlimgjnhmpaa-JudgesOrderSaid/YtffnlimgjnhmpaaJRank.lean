/-
  JRank: a list that is sorted by exchanges of neighbours, such that the better plates come first, and of those that are as good the ones with the less number.
-/
import Derived.Test.YtffnlimgjnhmpaaJLink
namespace Go.Proofs.Ytffnlimgjnhmpaa

structure WO (lt : Int → Int → Bool) : Prop where
  asym : ∀ a b, lt a b = true → lt b a = false
  ntr : ∀ a b c, lt a c = true → lt a b = true ∨ lt b c = true
def bef (lt : Int → Int → Bool) (x y : Int) : Prop := lt x y = true ∨ (lt y x = false ∧ x < y)
theorem WO.irr {lt : Int → Int → Bool} (h : WO lt) (a : Int) : lt a a = false := by
  cases e : lt a a with
  | false => rfl
  | true => have := h.asym a a e; rw [e] at this; exact this
def RO (lt : Int → Int → Bool) (n k : Nat) (L : List Int) : Prop :=
  L.length = n ∧ (∀ i, k ≤ i → i < n → L.getD i 0 = i) ∧ (∀ i, i < k → i < n → 0 ≤ L.getD i 0 ∧ L.getD i 0 < k) ∧ ∀ a b, a < b → b < k → b < n → bef lt (L.getD a 0) (L.getD b 0)
def RN (lt : Int → Int → Bool) (n k m : Nat) (L : List Int) : Prop :=
  L.length = n ∧ (∀ i, k < i → i < n → L.getD i 0 = i) ∧ L.getD m 0 = k ∧ (∀ i, i ≤ k → i ≠ m → 0 ≤ L.getD i 0 ∧ L.getD i 0 < k) ∧ (∀ a b, a < b → b ≤ k → a ≠ m → b ≠ m → bef lt (L.getD a 0) (L.getD b 0)) ∧ ∀ b, m < b → b ≤ k → lt k (L.getD b 0) = true
theorem rn_start {lt : Int → Int → Bool} {n k : Nat} {L : List Int} (h : RO lt n k L) (hk : k < n) : RN lt n k k L :=
  ⟨h.1, fun i h1 h2 => h.2.1 i (by omega) h2, h.2.1 k (Nat.le_refl _) hk, fun i h1 h2 => h.2.2.1 i (by omega) (by omega), fun a b h1 h2 h3 h4 => h.2.2.2 a b h1 (by omega) (by omega), fun b h1 h2 => absurd h1 (by omega)⟩
theorem rn_done {lt : Int → Int → Bool} {n k m : Nat} {L : List Int} (h : RN lt n k m L) (hk : k < n) (hm : m ≤ k) (ha : ∀ a, a < m → bef lt (L.getD a 0) k) : RO lt n (k + 1) L := by
  obtain ⟨h1, h2, h3, h4, h5, h6⟩ := h
  refine ⟨h1, fun i hi hn => h2 i (by omega) hn, fun i hi hn => ?_, fun a b hab hb hn => ?_⟩
  · by_cases e : i = m
    · subst e; rw [h3]; omega
    · have := h4 i (by omega) e; omega
  · by_cases e : a = m
    · subst e; rw [h3]; exact .inl (h6 b hab (by omega))
    · by_cases e2 : b = m
      · subst e2; rw [h3]; exact ha a hab
      · exact h5 a b hab (by omega) e e2
theorem rn_zero {lt : Int → Int → Bool} {n k : Nat} {L : List Int} (h : RN lt n k 0 L) (hk : k < n) : RO lt n (k + 1) L := rn_done h hk (Nat.zero_le _) fun a ha => absurd ha (Nat.not_lt_zero a)
theorem rn_stop {lt : Int → Int → Bool} (hw : WO lt) {n k j : Nat} {L : List Int} (h : RN lt n k (j + 1) L) (hk : k < n) (hj : j + 1 ≤ k) (hl : lt (L.getD (j + 1) 0) (L.getD j 0) = false) : RO lt n (k + 1) L := by
  refine rn_done h hk hj fun a ha => ?_
  obtain ⟨h1, h2, h3, h4, h5, h6⟩ := h
  rw [h3] at hl
  have hlt := (h4 a (by omega) (by omega)).2
  refine .inr ⟨?_, hlt⟩
  by_cases e : a = j
  · subst e; exact hl
  · have hb := h5 a j (by omega) (by omega) (by omega) (by omega)
    cases hc : lt (k : Int) (L.getD a 0) with
    | false => rfl
    | true =>
      exfalso
      rcases hw.ntr _ (L.getD j 0) _ hc with h7 | h7
      · rw [h7] at hl; cases hl
      · rcases hb with h8 | h8
        · have := hw.asym _ _ h8; rw [h7] at this; cases this
        · rw [h8.1] at h7; cases h7
theorem rn_swp {lt : Int → Int → Bool} {n k j : Nat} {L : List Int} (h : RN lt n k (j + 1) L) (hk : k < n) (hj : j + 1 ≤ k) (hl : lt (L.getD (j + 1) 0) (L.getD j 0) = true) : RN lt n k j (swp L (j + 1) j) := by
  obtain ⟨h1, h2, h3, h4, h5, h6⟩ := h
  have hat := fun i => swp_at (L := L) (i := j + 1) (k := j) (by omega) (by omega) i
  refine ⟨by rw [swp_len, h1], fun i hi hn => ?_, ?_, fun i hi hne => ?_, fun a b hab hb ha hbj => ?_, fun b hb hbk => ?_⟩
  · rw [hat, if_neg (by omega), if_neg (by omega)]; exact h2 i hi hn
  · rw [hat, if_pos rfl]; exact h3
  · rw [hat, if_neg hne]
    by_cases e : i = j + 1
    · rw [if_pos e]; exact h4 j (by omega) (by omega)
    · rw [if_neg e]; exact h4 i hi e
  · rw [hat, hat, if_neg ha, if_neg hbj]
    by_cases e : a = j + 1
    · rw [if_pos e, if_neg (by omega)]; exact h5 j b (by omega) hb (by omega) (by omega)
    · rw [if_neg e]
      by_cases e2 : b = j + 1
      · rw [if_pos e2]; exact h5 a j (by omega) (by omega) e (by omega)
      · rw [if_neg e2]; exact h5 a b hab hb e e2
  · rw [hat, if_neg (by omega)]
    by_cases e : b = j + 1
    · rw [if_pos e]; rw [h3] at hl; exact hl
    · rw [if_neg e]; exact h6 b (by omega) hbk
/-- the numbers below n -/
def upTo (n : Nat) : List Int := sel (fun _ => true) n
theorem upTo_len (n : Nat) : (upTo n).length = n := by
  unfold upTo; rw [sel_cnt]
  induction n with
  | zero => rfl
  | succ n ih => simp [cnt, ih]
theorem upTo_at {n i : Nat} (h : i < n) : (upTo n).getD i 0 = i := by
  induction n with
  | zero => omega
  | succ n ih =>
    unfold upTo; rw [sel_hit rfl]
    have hl := upTo_len n
    rcases Nat.lt_or_ge i n with h1 | h1
    · rw [List.getD_eq_getElem?_getD, List.getElem?_append_left (by unfold upTo at hl; omega), ← List.getD_eq_getElem?_getD]
      exact ih h1
    · have : i = n := by omega
      subst this
      rw [List.getD_eq_getElem?_getD, List.getElem?_append_right (by unfold upTo at hl; omega)]
      unfold upTo at hl
      rw [hl]; simp
theorem ro_start (lt : Int → Int → Bool) (n : Nat) (k : Nat) (hk : k ≤ 1) : RO lt n k (upTo n) :=
  ⟨upTo_len n, fun i _ h => upTo_at h, fun i h1 h2 => by rw [upTo_at h2]; omega, fun a b h1 h2 h3 => by omega⟩
theorem ro_pw {lt : Int → Int → Bool} {n : Nat} {L : List Int} (h : RO lt n n L) : L.Pairwise (bef lt) := by
  rw [List.pairwise_iff_getElem]
  intro a b ha hb hab
  have := h.2.2.2 a b hab (by rw [← h.1]; exact hb) (by rw [← h.1]; exact hb)
  rwa [getD_at ha, getD_at hb] at this

/-- which plate is ahead -/
def ltS (S : JB) (x y : Int) : Bool := bet (hiT S) S.sz x.toNat y.toNat
theorem ltS_wo (S : JB) : WO (ltS S) := by
  constructor
  · intro a b h
    simp only [ltS, bet, Bool.or_eq_true, Bool.and_eq_true, decide_eq_true_eq, Bool.or_eq_false_iff, Bool.and_eq_false_iff, decide_eq_false_iff_not] at *
    omega
  · intro a b c h
    simp only [ltS, bet, Bool.or_eq_true, Bool.and_eq_true, decide_eq_true_eq] at *
    omega
theorem ltS_place {S : JB} (h : allIn S = true) {i j : Nat} (hi : i < S.np) (hj : j < S.np) : ltS S i j = true ↔ plc S i < plc S j := by
  have e : ltS S i j = bet (totI S) S.sz i j := by
    unfold ltS bet
    rw [Int.toNat_natCast, Int.toNat_natCast, in_hi h hi, in_hi h hj]
  rw [e]; exact place_or hi hj
theorem mem_rnk {S : JB} {m : Nat} {x : Int} : x ∈ rnk S m ↔ ∃ i, i < S.np ∧ x = (i : Int) ∧ 1 ≤ plc S i ∧ plc S i ≤ m := by
  induction m with
  | zero => simp [rnk]; intro i _ _ h; omega
  | succ m ih =>
    unfold rnk
    rw [List.mem_append, ih, mem_sel]
    constructor
    · rintro (⟨i, h1, h2, h3, h4⟩ | ⟨i, h1, h2, h3⟩)
      · exact ⟨i, h1, h2, h3, by omega⟩
      · have := of_decide_eq_true h2
        exact ⟨i, h1, h3, by omega, by omega⟩
    · rintro ⟨i, h1, h2, h3, h4⟩
      by_cases e : plc S i = m + 1
      · exact .inr ⟨i, h1, decide_eq_true e, h2⟩
      · exact .inl ⟨i, h1, h2, h3, by omega⟩
theorem sel_pw (p : Nat → Bool) (n : Nat) : (sel p n).Pairwise (· < ·) := by
  induction n with
  | zero => exact List.Pairwise.nil
  | succ n ih =>
    unfold sel; split
    · rw [List.pairwise_append]
      refine ⟨ih, List.pairwise_singleton _ _, fun a ha b hb => ?_⟩
      obtain ⟨i, h1, _, rfl⟩ := mem_sel.1 ha
      rw [List.mem_singleton.1 hb]; omega
    · exact ih
theorem rnk_pw {S : JB} (h : allIn S = true) (m : Nat) : (rnk S m).Pairwise (bef (ltS S)) := by
  induction m with
  | zero => exact List.Pairwise.nil
  | succ m ih =>
    unfold rnk
    rw [List.pairwise_append]
    refine ⟨ih, ?_, fun a ha b hb => ?_⟩
    · refine (sel_pw _ _).imp_of_mem fun {a b} ha hb hab => ?_
      obtain ⟨i, h1, h2, rfl⟩ := mem_sel.1 ha
      obtain ⟨j, h3, h4, rfl⟩ := mem_sel.1 hb
      have e1 := of_decide_eq_true h2
      have e2 := of_decide_eq_true h4
      refine .inr ⟨?_, hab⟩
      cases hc : ltS S j i with
      | false => rfl
      | true => have := (ltS_place h h3 h1).1 hc; omega
    · obtain ⟨i, h1, rfl, _, h2⟩ := mem_rnk.1 ha
      obtain ⟨j, h3, h4, rfl⟩ := mem_sel.1 hb
      have e2 := of_decide_eq_true h4
      exact .inl ((ltS_place h h1 h3).2 (by omega))
theorem cnt_lt {n : Nat} {p : Nat → Bool} {i : Nat} (hi : i < n) (h : p i = false) : cnt n p < n := by
  induction n with
  | zero => omega
  | succ n ih =>
    by_cases e : i = n
    · subst e; rw [cnt_miss h]; have := cnt_le i p; omega
    · have := ih (by omega)
      simp only [cnt]; split <;> omega
theorem plc_bd (S : JB) {i : Nat} (hi : i < S.np) : 1 ≤ plc S i ∧ plc S i ≤ S.np := by
  unfold plc placeN
  refine ⟨by omega, ?_⟩
  have : (List.range S.np).countP (fun j => bet (totI S) S.sz j i) < S.np := by
    rw [cnt_range]; exact cnt_lt hi (bet_irr i)
  omega
theorem bef_ne {lt : Int → Int → Bool} (hw : WO lt) {a b : Int} (h : bef lt a b) : a ≠ b := by
  rintro rfl
  rcases h with h | h
  · rw [hw.irr] at h; cases h
  · omega
theorem bef_anti {lt : Int → Int → Bool} (hw : WO lt) {a b : Int} (h1 : bef lt a b) (h2 : bef lt b a) : a = b := by
  exfalso
  rcases h1 with h1 | h1
  · rcases h2 with h2 | h2
    · rw [hw.asym _ _ h1] at h2; cases h2
    · rw [h1] at h2; exact absurd h2.1 (by decide)
  · rcases h2 with h2 | h2
    · rw [h2] at h1; exact absurd h1.1 (by decide)
    · omega
theorem rnk_perm {S : JB} (h : allIn S = true) : (rnk S S.np).Perm (upTo S.np) := by
  have n1 : (rnk S S.np).Nodup := (rnk_pw h S.np).imp fun {a b} hab => bef_ne (ltS_wo S) hab
  have n2 : (upTo S.np).Nodup := (sel_pw _ _).imp fun {a b} hab => by omega
  refine (List.perm_ext_iff_of_nodup n1 n2).2 fun x => ?_
  rw [mem_rnk]
  unfold upTo
  rw [mem_sel]
  constructor
  · rintro ⟨i, h1, h2, _⟩; exact ⟨i, h1, rfl, h2⟩
  · rintro ⟨i, h1, _, h2⟩; exact ⟨i, h1, h2, plc_bd S h1⟩
theorem ro_rnk {S : JB} (h : allIn S = true) {L : List Int} (hr : RO (ltS S) S.np S.np L) (hp : L.Perm (upTo S.np)) : L = rnk S S.np :=
  List.Perm.eq_of_pairwise (le := bef (ltS S)) (fun a b _ _ h1 h2 => bef_anti (ltS_wo S) h1 h2) (ro_pw hr) (rnk_pw h _) (hp.trans (rnk_perm h).symm)

end Go.Proofs.Ytffnlimgjnhmpaa
