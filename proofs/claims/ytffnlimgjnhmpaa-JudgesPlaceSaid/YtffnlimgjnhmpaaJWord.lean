/-
  JWord: what the functions of layer 8 answer, in words of lists: the same words for the program and for the reference.
-/
import Derived.Test.YtffnlimgjnhmpaaJJudge
namespace Go.Proofs.Ytffnlimgjnhmpaa

/-- so many i below n with p i -/
def cnt : Nat → (Nat → Bool) → Nat
  | 0, _ => 0
  | n + 1, p => cnt n p + (if p n then 1 else 0)
theorem cnt_le (n : Nat) (p : Nat → Bool) : cnt n p ≤ n := by
  induction n with
  | zero => simp [cnt]
  | succ n ih => simp only [cnt]; split <;> omega
theorem cnt_hit {n : Nat} {p : Nat → Bool} (h : p n = true) : cnt (n + 1) p = cnt n p + 1 := by simp [cnt, h]
theorem cnt_miss {n : Nat} {p : Nat → Bool} (h : p n = false) : cnt (n + 1) p = cnt n p := by simp [cnt, h]
theorem cnt_range (n : Nat) (p : Nat → Bool) : (List.range n).countP p = cnt n p := by
  induction n with
  | zero => rfl
  | succ n ih => rw [List.range_succ, List.countP_append, ih]; simp [cnt]
theorem cnt_congr {n : Nat} {p q : Nat → Bool} (h : ∀ i, i < n → p i = q i) : cnt n p = cnt n q := by
  induction n with
  | zero => rfl
  | succ n ih => simp only [cnt]; rw [ih fun i hi => h i (by omega), h n (by omega)]
theorem cnt_mono {n : Nat} {p q : Nat → Bool} (h : ∀ i, i < n → p i = true → q i = true) : cnt n p ≤ cnt n q := by
  rw [← cnt_range, ← cnt_range]
  exact List.countP_mono_left fun i hi hp => h i (List.mem_range.1 hi) hp
/-- the numbers below n with p -/
def sel (p : Nat → Bool) : Nat → List Int
  | 0 => []
  | k + 1 => if p k then sel p k ++ [(k : Int)] else sel p k
theorem sel_len (p : Nat → Bool) (k : Nat) : (sel p k).length ≤ k := by
  induction k with
  | zero => simp [sel]
  | succ k ih =>
    unfold sel; split
    · simp; omega
    · omega
theorem sel_cnt (p : Nat → Bool) (k : Nat) : (sel p k).length = cnt k p := by
  induction k with
  | zero => rfl
  | succ k ih =>
    unfold sel cnt; split
    · simp [ih]
    · simp [ih]
theorem sel_hit {p : Nat → Bool} {k : Nat} (h : p k = true) : sel p (k + 1) = sel p k ++ [(k : Int)] := by simp [sel, h]
theorem sel_miss {p : Nat → Bool} {k : Nat} (h : p k = false) : sel p (k + 1) = sel p k := by simp [sel, h]
theorem sel_congr {p q : Nat → Bool} {n : Nat} (h : ∀ i, i < n → p i = q i) : sel p n = sel q n := by
  induction n with
  | zero => rfl
  | succ n ih => unfold sel; rw [ih fun i hi => h i (by omega), h n (by omega)]
theorem mem_sel {p : Nat → Bool} {n : Nat} {x : Int} : x ∈ sel p n ↔ ∃ i, i < n ∧ p i = true ∧ x = (i : Int) := by
  induction n with
  | zero => simp [sel]
  | succ n ih =>
    unfold sel
    split
    · rename_i h
      rw [List.mem_append, ih]
      constructor
      · rintro (⟨i, h1, h2, h3⟩ | h4)
        · exact ⟨i, by omega, h2, h3⟩
        · exact ⟨n, by omega, h, by simpa using h4⟩
      · rintro ⟨i, h1, h2, h3⟩
        rcases Nat.lt_or_ge i n with h4 | h4
        · exact .inl ⟨i, h4, h2, h3⟩
        · have : i = n := by omega
          subst this
          exact .inr (by simp [h3])
    · rename_i h
      rw [ih]
      constructor
      · rintro ⟨i, h1, h2, h3⟩; exact ⟨i, by omega, h2, h3⟩
      · rintro ⟨i, h1, h2, h3⟩
        refine ⟨i, ?_, h2, h3⟩
        rcases Nat.lt_or_ge i n with h4 | h4
        · exact h4
        · have : i = n := by omega
          subst this; exact absurd h2 h
/-- two such lists are the same just if they have the same numbers -/
theorem sel_eq {p q : Nat → Bool} {n : Nat} : sel p n = sel q n ↔ ∀ i, i < n → p i = q i := by
  constructor
  · intro h i hi
    rw [Bool.eq_iff_iff]
    have : ((i : Int) ∈ sel p n) ↔ ((i : Int) ∈ sel q n) := by rw [h]
    rw [mem_sel, mem_sel] at this
    constructor
    · intro hp
      obtain ⟨j, _, h2, h3⟩ := this.1 ⟨i, hi, hp, rfl⟩
      have : i = j := by omega
      subst this; exact h2
    · intro hp
      obtain ⟨j, _, h2, h3⟩ := this.2 ⟨i, hi, hp, rfl⟩
      have : i = j := by omega
      subst this; exact h2
  · exact fun h => sel_congr h

/-- is there an i below n with p i? -/
def anyB (n : Nat) (p : Nat → Bool) : Bool := (List.range n).any p
def allB (n : Nat) (p : Nat → Bool) : Bool := (List.range n).all p
theorem anyB_true {n : Nat} {p : Nat → Bool} : anyB n p = true ↔ ∃ i, i < n ∧ p i = true := by simp [anyB]
theorem anyB_false {n : Nat} {p : Nat → Bool} : anyB n p = false ↔ ∀ i, i < n → p i = false := by simp [anyB]
theorem allB_true {n : Nat} {p : Nat → Bool} : allB n p = true ↔ ∀ i, i < n → p i = true := by simp [allB]
theorem allB_false {n : Nat} {p : Nat → Bool} : allB n p = false ↔ ∃ i, i < n ∧ p i = false := by simp [allB]

/-- can these be points, or points that are not in yet? -/
def okPt (x : Int) : Bool := decide (-1 ≤ x) && decide (x ≤ 20)
/-- is it a plate of a show with J judges? -/
def okPl (J s : Int) (l : List Int) : Bool := (decide (0 ≤ s) && decide (s ≤ 999)) && (decide ((l.length : Int) = J) && l.all okPt)
def okN (S : JB) : Bool := (decide (1 ≤ S.J) && decide (S.J ≤ 5)) && ((decide (0 ≤ S.D) && decide (2 * S.D < S.J)) && ((decide (0 ≤ S.Z) && decide (S.Z ≤ 6)) && decide (S.np ≤ 6)))
def okS (S : JB) : Bool := okN S && allB S.np fun i => okPl S.J (S.sz i) (S.pts i)
theorem okS_good {S : JB} (h : okS S = true) : GoodS S := by
  unfold okS okN at h
  simp only [Bool.and_eq_true, decide_eq_true_eq, allB_true] at h
  obtain ⟨⟨⟨h1, h2⟩, ⟨h3, h4⟩, ⟨h5, h6⟩, h7⟩, h8⟩ := h
  refine ⟨h1, h2, h3, h4, h5, h6, h7, fun i hi => ?_, fun i hi => ?_, fun i hi x hx => ?_⟩
  all_goals
    have := h8 i hi
    unfold okPl at this
    simp only [Bool.and_eq_true, decide_eq_true_eq, List.all_eq_true] at this
  · exact this.1
  · exact this.2.1
  · have := this.2.2 x hx
    unfold okPt at this
    simpa using this
theorem good_okS {S : JB} (h : GoodS S) : okS S = true := by
  unfold okS okN
  simp only [Bool.and_eq_true, decide_eq_true_eq, allB_true]
  refine ⟨⟨⟨h.J1, h.J5⟩, ⟨h.D0, h.DJ⟩, ⟨h.Z0, h.Z6⟩, h.np⟩, fun i hi => ?_⟩
  unfold okPl
  simp only [Bool.and_eq_true, decide_eq_true_eq, List.all_eq_true]
  exact ⟨h.sz i hi, h.len i hi, fun x hx => by unfold okPt; simpa using h.pt i hi x hx⟩

/-- is it the number of one of so many? -/
def inN (a : Int) (n : Nat) : Bool := decide (0 ≤ a) && decide (a < n)
theorem inN_nat {a : Int} {n : Nat} (h : inN a n = true) : ∃ k : Nat, a = k ∧ k < n := by
  unfold inN at h
  simp only [Bool.and_eq_true, decide_eq_true_eq] at h
  exact ⟨a.toNat, by omega, by omega⟩
/-- the error of a show that is asked for something -/
def errA (ok is : Bool) : Int := if ok then (if is then 0 else 1) else 80
theorem errA_no {ok is : Bool} (h : (ok && is) = false) : errA ok is ≠ 0 := by
  unfold errA; cases ok <;> cases is <;> simp_all
/-- .. when all must be in -/
def errC (ok is cl : Bool) : Int := if ok then (if is then (if cl then 0 else 81) else 1) else 80
theorem errC_no {ok is cl : Bool} (h : (ok && is && cl) = false) : errC ok is cl ≠ 0 := by
  unfold errC; cases ok <;> cases is <;> cases cl <;> simp_all

/-- a total: all points that are not in are n -/
def totP (S : JB) (i : Nat) (n : Int) : Int := tot S.D.toNat (fil n (S.pts i))
/-- is mark k of plate i not in yet? -/
def opn (S : JB) (i k : Nat) : Bool := decide ((S.pts i).getD k 0 = -1)
/-- are all points in? -/
def allIn (S : JB) : Bool := allB S.np fun i => !(S.pts i).any fun x => decide (x = -1)
/-- the least number from n on, so many tried, with p -/
def fstI (p : Int → Bool) : Nat → Int → Option Int
  | 0, _ => none
  | m + 1, n => if p n then some n else fstI p m (n + 1)
/-- how many are not known at the most if a mark comes in: the greatest over the numbers below m -/
def opens (S : JB) : Nat := cnt S.np fun i => decide (prz S i = 3)
def aft (S : JB) (q k : Nat) : Nat → Nat
  | 0 => 0
  | m + 1 => max (aft S q k m) (opens (withP S q k m))
theorem aft_le {S : JB} {q k : Nat} : ∀ {m x : Nat}, x < m → opens (withP S q k x) ≤ aft S q k m := by
  intro m
  induction m with
  | zero => intro x h; omega
  | succ m ih =>
    intro x h
    show _ ≤ max (aft S q k m) (opens (withP S q k m))
    rcases Nat.lt_or_ge x m with h1 | h1
    · have := ih h1; omega
    · have : x = m := by omega
      subst this; omega
theorem opens_le (S : JB) : opens S ≤ S.np := cnt_le _ _
theorem aft_np (S : JB) (q k m : Nat) : aft S q k m ≤ S.np := by
  induction m with
  | zero => exact Nat.zero_le _
  | succ m ih =>
    have := opens_le (withP S q k m)
    show max _ _ ≤ _
    have e : (withP S q k m).np = S.np := rfl
    omega
/-- the first of the marks with the least number behind it: of the marks below (i, k) -/
def nxtRow (S : JB) (i : Nat) : Nat → Option (Nat × Nat × Nat) → Option (Nat × Nat × Nat)
  | 0, b => b
  | k + 1, b =>
    let b := nxtRow S i k b
    if opn S i k then
      match b with
      | none => some (i, k, aft S i k 21)
      | some (p, q, l) => if aft S i k 21 < l then some (i, k, aft S i k 21) else some (p, q, l)
    else b
def nxtAll (S : JB) : Nat → Option (Nat × Nat × Nat)
  | 0 => none
  | i + 1 => nxtRow S i S.J.toNat (nxtAll S i)

/-- the plates that get a prize, when all is in -/
def totI (S : JB) (i : Nat) : Int := tot S.D.toNat (S.pts i)
def plc (S : JB) (i : Nat) : Nat := placeN (totI S) S.sz S.np i
def gotP (S : JB) (i : Nat) : Bool := decide ((plc S i : Int) ≤ S.Z)
def getL (S : JB) : List Int := sel (gotP S) S.np
/-- all plates by their places -/
def rnk (S : JB) : Nat → List Int
  | 0 => []
  | m + 1 => rnk S m ++ sel (fun i => decide (plc S i = m + 1)) S.np
/-- between what the points of a mark could be: numbers below m were tried -/
def room (S : JB) (q k : Nat) : Nat → Int × Int
  | 0 => ((S.pts q).getD k 0, (S.pts q).getD k 0)
  | m + 1 => if getL (withP S q k m) = getL S then (min (room S q k m).1 m, max (room S q k m).2 m) else room S q k m
/-- a show without a judge -/
def drp (J D : Int) : Int := min D (max 0 (J - 2) / 2)
def withoutJ (S : JB) (k : Nat) : JB := { S with J := S.J - 1, D := drp S.J S.D, pts := fun i => (S.pts i).eraseIdx k }
def dec (S : JB) : List Int := sel (fun k => !decide (getL (withoutJ S k) = getL S)) S.J.toNat

end Go.Proofs.Ytffnlimgjnhmpaa
