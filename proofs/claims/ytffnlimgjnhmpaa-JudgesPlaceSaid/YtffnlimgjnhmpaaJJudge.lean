/-
  Judge: the laws of a show, in words of lists.
-/
import Derived.Test.YtffnlimgjnhmpaaJSort
namespace Go.Proofs.Ytffnlimgjnhmpaa

/-- a valid show -/
structure GoodS (S : JB) : Prop where
  J1 : 1 ≤ S.J
  J5 : S.J ≤ 5
  D0 : 0 ≤ S.D
  DJ : 2 * S.D < S.J
  Z0 : 0 ≤ S.Z
  Z6 : S.Z ≤ 6
  np : S.np ≤ 6
  sz : ∀ i, i < S.np → 0 ≤ S.sz i ∧ S.sz i ≤ 999
  len : ∀ i, i < S.np → ((S.pts i).length : Int) = S.J
  pt : ∀ i, i < S.np → ∀ x, x ∈ S.pts i → -1 ≤ x ∧ x ≤ 20
/-- the points of a plate where those that are not in are 0; where they are 20 -/
def loT (S : JB) (i : Nat) : Int := tot S.D.toNat (fil 0 (S.pts i))
def hiT (S : JB) (i : Nat) : Int := tot S.D.toNat (fil 20 (S.pts i))
/-- the least and the greatest place -/
def plLo (S : JB) (i : Nat) : Nat := placeN (upd (loT S) i (hiT S i)) S.sz S.np i
def plHi (S : JB) (i : Nat) : Nat := placeN (upd (hiT S) i (loT S i)) S.sz S.np i
/-- what is known of a prize: 1 surely, 2 never, 3 perhaps -/
def prz (S : JB) (i : Nat) : Int := if (plHi S i : Int) ≤ S.Z then 1 else if S.Z < (plLo S i : Int) then 2 else 3
/-- is a plate better, with these totals? -/
def btr (s : Nat → Int) (i j : Nat) (a b : Int) : Bool := decide (b < a) || (decide (a = b) && decide (s j < s i))
theorem btr_bet (t s : Nat → Int) (i j : Nat) : bet t s i j = btr s i j (t i) (t j) := rfl
theorem btr_mono {s : Nat → Int} {i j : Nat} {a b a' b' : Int} (ha : a ≤ a') (hb : b' ≤ b) (h : btr s i j a b = true) : btr s i j a' b' = true := by
  simp only [btr, Bool.or_eq_true, Bool.and_eq_true, decide_eq_true_eq] at *
  omega
def kno (S : JB) (i j : Nat) : Int := if btr S.sz i j (loT S i) (hiT S j) then 1 else if btr S.sz i j (hiT S i) (loT S j) then 3 else 2

theorem fil_jdg {l : List Int} (n : Int) (h : 0 ≤ n ∧ n ≤ 20) : Jdg l (fil n l) := by
  refine ⟨fil_len n l, fun i h1 h2 => ?_⟩
  simp only [fil, List.getElem_map]
  constructor
  · intro e; rw [if_pos e]; exact h
  · intro e; rw [if_neg e]
theorem lo_hi (S : JB) (i : Nat) : loT S i ≤ hiT S i := jdg_high (fil_jdg 0 (by omega))

section
variable {S : JB} {m : Nat → List Int}
/-- each judging -/
theorem each_total (h : ∀ i, i < S.np → Jdg (S.pts i) (m i)) {i : Nat} (hi : i < S.np) : loT S i ≤ tot S.D.toNat (m i) ∧ tot S.D.toNat (m i) ≤ hiT S i := ⟨jdg_low (h i hi), jdg_high (h i hi)⟩
theorem each_place (h : ∀ i, i < S.np → Jdg (S.pts i) (m i)) {i : Nat} (hi : i < S.np) : plLo S i ≤ placeN (fun j => tot S.D.toNat (m j)) S.sz S.np i ∧ placeN (fun j => tot S.D.toNat (m j)) S.sz S.np i ≤ plHi S i :=
  ⟨place_mono (by rw [upd_at]; exact (each_total h hi).2) fun j hj hne => by rw [upd_ne hne]; exact (each_total h hj).1, place_mono (by rw [upd_at]; exact (each_total h hi).1) fun j hj hne => by rw [upd_ne hne]; exact (each_total h hj).2⟩
theorem pl_le (S : JB) (i : Nat) : plLo S i ≤ plHi S i := place_mono (by rw [upd_at, upd_at]; exact lo_hi S i) fun j _ hne => by rw [upd_ne hne, upd_ne hne]; exact lo_hi S j
theorem each_prize (h : ∀ i, i < S.np → Jdg (S.pts i) (m i)) {i : Nat} (hi : i < S.np) : (prz S i = 3) ∨ (prz S i = 1 ∧ (placeN (fun j => tot S.D.toNat (m j)) S.sz S.np i : Int) ≤ S.Z) ∨ (prz S i = 2 ∧ ¬ (placeN (fun j => tot S.D.toNat (m j)) S.sz S.np i : Int) ≤ S.Z) := by
  obtain ⟨h1, h2⟩ := each_place h hi
  unfold prz
  split
  · exact .inr (.inl ⟨rfl, by omega⟩)
  · split
    · exact .inr (.inr ⟨rfl, by omega⟩)
    · exact .inl rfl
theorem each_better (h : ∀ i, i < S.np → Jdg (S.pts i) (m i)) {i j : Nat} (hi : i < S.np) (hj : j < S.np) : (kno S i j = 3) ∨ (kno S i j = 1 ∧ bet (fun j => tot S.D.toNat (m j)) S.sz i j = true) ∨ (kno S i j = 2 ∧ bet (fun j => tot S.D.toNat (m j)) S.sz i j = false) := by
  obtain ⟨a1, a2⟩ := each_total h hi
  obtain ⟨b1, b2⟩ := each_total h hj
  unfold kno
  split
  · rename_i h1; exact .inr (.inl ⟨rfl, btr_mono a1 b2 h1⟩)
  · split
    · exact .inl rfl
    · rename_i h1 h2
      refine .inr (.inr ⟨rfl, ?_⟩)
      rw [Bool.eq_false_iff]
      intro h3
      exact h2 (btr_mono a2 b1 h3)
end

/-- a show of the same kind, whose totals are within the other one's -/
structure Nar (S S' : JB) : Prop where
  np : S'.np = S.np
  Z : S'.Z = S.Z
  sz : S'.sz = S.sz
  lo : ∀ i, i < S.np → loT S i ≤ loT S' i
  hi : ∀ i, i < S.np → hiT S' i ≤ hiT S i
theorem Nar.place {S S' : JB} (h : Nar S S') {i : Nat} (hi : i < S.np) : plLo S i ≤ plLo S' i ∧ plHi S' i ≤ plHi S i := by
  unfold plLo plHi
  rw [h.np, h.sz]
  exact ⟨place_mono (by rw [upd_at, upd_at]; exact h.hi i hi) fun j hj hne => by rw [upd_ne hne, upd_ne hne]; exact h.lo j hj, place_mono (by rw [upd_at, upd_at]; exact h.lo i hi) fun j hj hne => by rw [upd_ne hne, upd_ne hne]; exact h.hi j hj⟩
theorem Nar.prize {S S' : JB} (h : Nar S S') {i : Nat} (hi : i < S.np) : prz S i = 3 ∨ prz S' i = prz S i := by
  obtain ⟨h1, h2⟩ := h.place hi
  have h3 := pl_le S' i
  unfold prz
  rw [h.Z]
  split
  · rw [if_pos (by omega)]; exact .inr rfl
  · split
    · rw [if_neg (by omega), if_pos (by omega)]; exact .inr rfl
    · exact .inl rfl
theorem Nar.better {S S' : JB} (h : Nar S S') {i j : Nat} (hi : i < S.np) (hj : j < S.np) : kno S i j = 3 ∨ kno S' i j = kno S i j := by
  unfold kno
  rw [h.sz]
  split
  · rename_i h1
    rw [if_pos (btr_mono (h.lo i hi) (h.hi j hj) h1)]; exact .inr rfl
  · split
    · exact .inl rfl
    · rename_i h1 h2
      rw [if_neg, if_neg]
      · exact .inr rfl
      · intro h3; exact h2 (btr_mono (h.hi i hi) (h.lo j hj) h3)
      · intro h3; exact h2 (btr_mono (Int.le_trans (lo_hi S' i) (h.hi i hi)) (Int.le_trans (h.lo j hj) (lo_hi S' j)) h3)

/-- points that come in -/
def withP (S : JB) (q k : Nat) (x : Int) : JB := { S with pts := fun i => if i = q then (S.pts i).set k x else S.pts i }
theorem set_lo {l : List Int} {k : Nat} {x : Int} (hk : k < l.length) (h : l[k] = -1) (hx : 0 ≤ x ∧ x ≤ 20) (d : Nat) : tot d (fil 0 l) ≤ tot d (fil 0 (l.set k x)) ∧ tot d (fil 20 (l.set k x)) ≤ tot d (fil 20 l) := by
  constructor
  · refine tot_mono d (by simp [fil]) fun i h1 h2 => ?_
    simp only [fil, List.getElem_map, List.getElem_set]
    by_cases e : k = i
    · subst e; rw [if_pos h, if_pos rfl, if_neg (by omega)]; exact hx.1
    · rw [if_neg e]; exact Int.le_refl _
  · refine tot_mono d (by simp [fil]) fun i h1 h2 => ?_
    simp only [fil, List.getElem_map, List.getElem_set]
    by_cases e : k = i
    · subst e; rw [if_pos rfl, if_neg (by omega), if_pos h]; exact hx.2
    · rw [if_neg e]; exact Int.le_refl _
theorem nar_with {S : JB} {q k : Nat} {x : Int} (hq : q < S.np) (hk : k < (S.pts q).length) (h : (S.pts q)[k] = -1) (hx : 0 ≤ x ∧ x ≤ 20) : Nar S (withP S q k x) := by
  refine ⟨rfl, rfl, rfl, fun i _ => ?_, fun i _ => ?_⟩
  · show tot _ _ ≤ tot S.D.toNat (fil 0 (if i = q then (S.pts i).set k x else S.pts i))
    split
    · rename_i e; subst e; exact (set_lo hk h hx _).1
    · exact Int.le_refl _
  · show tot S.D.toNat (fil 20 (if i = q then (S.pts i).set k x else S.pts i)) ≤ _
    split
    · rename_i e; subst e; exact (set_lo hk h hx _).2
    · exact Int.le_refl _

/-- more points of a mark that is in -/
theorem set_more {l : List Int} {k : Nat} {x : Int} (hk : k < l.length) (h0 : 0 ≤ l[k]) (hx : l[k] ≤ x) (n : Int) (d : Nat) : tot d (fil n l) ≤ tot d (fil n (l.set k x)) := by
  refine tot_mono d (by simp [fil]) fun i h1 h2 => ?_
  simp only [fil, List.getElem_map, List.getElem_set]
  by_cases e : k = i
  · subst e; rw [if_pos rfl, if_neg (by omega), if_neg (by omega)]; exact hx
  · rw [if_neg e]; exact Int.le_refl _
/-- a show in which a plate has more points, or larger fruits -/
structure Grw (S S' : JB) (q : Nat) : Prop where
  np : S'.np = S.np
  own : S.sz q ≤ S'.sz q
  sz : ∀ i, i ≠ q → S'.sz i = S.sz i
  lo : loT S q ≤ loT S' q
  hi : hiT S q ≤ hiT S' q
  lo' : ∀ i, i ≠ q → loT S' i = loT S i
  hi' : ∀ i, i ≠ q → hiT S' i = hiT S i
theorem place_own {t t' s s' : Nat → Int} {np q : Nat} (ht : t q ≤ t' q) (hs : s q ≤ s' q) (h : ∀ j, j ≠ q → t' j = t j ∧ s' j = s j) : placeN t' s' np q ≤ placeN t s np q := by
  unfold placeN
  refine Nat.succ_le_succ (List.countP_mono_left fun j _ hb => ?_)
  by_cases e : j = q
  · subst e
    simp only [bet, Bool.or_eq_true, Bool.and_eq_true, decide_eq_true_eq] at hb
    omega
  · obtain ⟨h1, h2⟩ := h j e
    simp only [bet, Bool.or_eq_true, Bool.and_eq_true, decide_eq_true_eq] at hb ⊢
    omega
theorem place_oth {t t' s s' : Nat → Int} {np q i : Nat} (hi : i ≠ q) (ht : t q ≤ t' q) (hs : s q ≤ s' q) (h : ∀ j, j ≠ q → t' j = t j ∧ s' j = s j) : placeN t s np i ≤ placeN t' s' np i := by
  unfold placeN
  refine Nat.succ_le_succ (List.countP_mono_left fun j _ hb => ?_)
  obtain ⟨h1, h2⟩ := h i hi
  by_cases e : j = q
  · subst e
    simp only [bet, Bool.or_eq_true, Bool.and_eq_true, decide_eq_true_eq] at hb ⊢
    omega
  · obtain ⟨h3, h4⟩ := h j e
    simp only [bet, Bool.or_eq_true, Bool.and_eq_true, decide_eq_true_eq] at hb ⊢
    omega
theorem Grw.own_place {S S' : JB} {q : Nat} (h : Grw S S' q) : plLo S' q ≤ plLo S q ∧ plHi S' q ≤ plHi S q := by
  unfold plLo plHi
  rw [h.np]
  exact ⟨place_own (by rw [upd_at, upd_at]; exact h.hi) h.own fun j hj => ⟨by rw [upd_ne hj, upd_ne hj]; exact h.lo' j hj, h.sz j hj⟩, place_own (by rw [upd_at, upd_at]; exact h.lo) h.own fun j hj => ⟨by rw [upd_ne hj, upd_ne hj]; exact h.hi' j hj, h.sz j hj⟩⟩
theorem Grw.oth_place {S S' : JB} {q i : Nat} (h : Grw S S' q) (hi : i ≠ q) : plLo S i ≤ plLo S' i ∧ plHi S i ≤ plHi S' i := by
  unfold plLo plHi
  rw [h.np]
  constructor
  · refine place_oth hi (by rw [upd_ne hi.symm, upd_ne hi.symm]; exact h.lo) h.own fun j hj => ⟨?_, h.sz j hj⟩
    by_cases e : j = i
    · subst e; rw [upd_at, upd_at]; exact h.hi' j hj
    · rw [upd_ne e, upd_ne e]; exact h.lo' j hj
  · refine place_oth hi (by rw [upd_ne hi.symm, upd_ne hi.symm]; exact h.hi) h.own fun j hj => ⟨?_, h.sz j hj⟩
    by_cases e : j = i
    · subst e; rw [upd_at, upd_at]; exact h.lo' j hj
    · rw [upd_ne e, upd_ne e]; exact h.hi' j hj

/-- what a plate needs: with this total it gets a prize, whatever the others have -/
def nds (S : JB) (i : Nat) (n : Int) : Bool := decide ((placeN (upd (hiT S) i n) S.sz S.np i : Int) ≤ S.Z)
theorem nds_mono {S : JB} {i : Nat} {n n' : Int} (h : n ≤ n') (hn : nds S i n = true) : nds S i n' = true := by
  unfold nds at *
  rw [decide_eq_true_eq] at *
  have := place_up (t := hiT S) (s := S.sz) (np := S.np) (i := i) h
  omega
theorem nds_low (S : JB) (i : Nat) : nds S i (loT S i) = decide (prz S i = 1) := by
  unfold nds prz plHi
  split
  · rename_i h; rw [decide_eq_true h]; rfl
  · rename_i h
    rw [decide_eq_false h]
    split <;> rfl
theorem nds_never {S : JB} {i : Nat} (h : prz S i = 2) : nds S i (hiT S i) = false := by
  have h1 : placeN (upd (loT S) i (hiT S i)) S.sz S.np i ≤ placeN (upd (hiT S) i (hiT S i)) S.sz S.np i := place_mono (by rw [upd_at, upd_at]; exact Int.le_refl _) fun j _ hne => by rw [upd_ne hne, upd_ne hne]; exact lo_hi S j
  unfold prz at h
  split at h
  · omega
  · split at h
    · rename_i h2
      unfold nds
      refine decide_eq_false fun h3 => ?_
      unfold plLo at h2
      omega
    · omega
theorem nds_judged {S : JB} {m : Nat → List Int} (h : ∀ i, i < S.np → Jdg (S.pts i) (m i)) {i : Nat} (hi : i < S.np) {n : Int} (hn : nds S i n = true) (hm : n ≤ tot S.D.toNat (m i)) : (placeN (fun j => tot S.D.toNat (m j)) S.sz S.np i : Int) ≤ S.Z := by
  have h1 : placeN (fun j => tot S.D.toNat (m j)) S.sz S.np i ≤ placeN (upd (hiT S) i n) S.sz S.np i := place_mono (by rw [upd_at]; exact hm) fun j hj hne => by rw [upd_ne hne]; exact (each_total h hj).2
  unfold nds at hn
  rw [decide_eq_true_eq] at hn
  omega

/-- the plates that get a prize, when all is in -/
def gets (t s : Nat → Int) (np : Nat) (z : Int) (i : Nat) : Bool := decide ((placeN t s np i : Int) ≤ z)
/-- when all is in, the least total is the greatest -/
theorem fil_in {l : List Int} (h : ∀ x, x ∈ l → x ≠ -1) (n : Int) : fil n l = l := by
  unfold fil
  rw [List.map_congr_left (g := id) fun x hx => by rw [if_neg (h x hx)]; rfl, List.map_id]

/-- the order of places: of two plates one is ahead of the other one -/
theorem place_or {t s : Nat → Int} {np i j : Nat} (hi : i < np) (hj : j < np) : (bet t s i j = true ↔ placeN t s np i < placeN t s np j) := by
  constructor
  · exact place_lt hi
  · intro h
    by_cases h1 : bet t s j i = true
    · have := place_lt (t := t) (s := s) hj h1; omega
    · -- neither is better: the same plates are better than both
      by_cases h2 : bet t s i j = true
      · exact h2
      · exfalso
        have e : placeN t s np i = placeN t s np j := by
          unfold placeN
          congr 1
          refine List.countP_congr fun k _ => ?_
          simp only [bet, Bool.or_eq_true, Bool.and_eq_true, decide_eq_true_eq] at h1 h2 ⊢
          omega
        omega

end Go.Proofs.Ytffnlimgjnhmpaa
