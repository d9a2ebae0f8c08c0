/-
  Sums, counts and minima are the same in any order that begins elsewhere (no program here).
-/
import Derived.Test.YtopajgnemeodeaaTrue1
namespace Go.Proofs.Ytopajgnemeodeaa
open Go.RowKit

theorem sumTo_front (g : Nat → Nat) : ∀ k, sumTo (k + 1) g = g 0 + sumTo k fun i => g (i + 1)
  | 0 => by simp [sumTo]
  | k + 1 => by
    have ih := sumTo_front g k
    have e1 : sumTo (k + 1 + 1) g = sumTo (k + 1) g + g (k + 1) := rfl
    have e2 : sumTo (k + 1) (fun i => g (i + 1)) = sumTo k (fun i => g (i + 1)) + g (k + 1) := rfl
    rw [e1, e2, ih]; omega

theorem sumTo_one (g : Nat → Nat) : ∀ n, sumTo n (fun i => g ((i + 1) % n)) = sumTo n g
  | 0 => rfl
  | k + 1 => by
    rw [sumTo_front g k]
    have e1 : sumTo (k + 1) (fun i => g ((i + 1) % (k + 1))) = sumTo k (fun i => g ((i + 1) % (k + 1))) + g ((k + 1) % (k + 1)) := rfl
    have e2 : sumTo k (fun i => g ((i + 1) % (k + 1))) = sumTo k (fun i => g (i + 1)) := sumTo_congr fun i hi => by rw [Nat.mod_eq_of_lt (by omega)]
    rw [e1, e2, Nat.mod_self]; omega

theorem sumTo_rot (g : Nat → Nat) (n : Nat) : ∀ a, sumTo n (fun i => g ((i + a) % n)) = sumTo n g
  | 0 => sumTo_congr fun i hi => by rw [Nat.add_zero, Nat.mod_eq_of_lt hi]
  | a + 1 => by
    rw [← sumTo_rot g n a, ← sumTo_one (fun i => g ((i + a) % n)) n]
    refine sumTo_congr fun i _ => ?_
    show g ((i + (a + 1)) % n) = g (((i + 1) % n + a) % n)
    rw [Nat.mod_add_mod]
    congr 2; omega

theorem cnt_sum (p : Nat → Bool) : ∀ n, cnt n p = sumTo n fun i => if p i = true then 1 else 0
  | 0 => rfl
  | n + 1 => by simp only [cnt, sumTo, cnt_sum p n]
theorem cnt_rot (p : Nat → Bool) (n a : Nat) : cnt n (fun i => p ((i + a) % n)) = cnt n p := by
  rw [cnt_sum, cnt_sum, ← sumTo_rot (fun i => if p i = true then 1 else 0) n a]

/-- each place is reached -/
theorem rot_hit {n : Nat} (a : Nat) {i : Nat} (hi : i < n) : ∃ j, j < n ∧ (j + a) % n = i := by
  refine ⟨(i + (n - a % n)) % n, Nat.mod_lt _ (by omega), ?_⟩
  have h1 : a % n < n := Nat.mod_lt _ (by omega)
  rw [Nat.mod_add_mod]
  have e : i + (n - a % n) + a = i + (n * (a / n) + n) := by
    have := Nat.div_add_mod a n
    omega
  have e2 : n * (a / n) + n = n * (a / n + 1) := by rw [Nat.mul_add, Nat.mul_one]
  rw [e, e2, Nat.add_mul_mod_self_left, Nat.mod_eq_of_lt hi]
theorem rot_lt {n : Nat} (a : Nat) {i : Nat} (hi : i < n) : (i + a) % n < n := Nat.mod_lt _ (by omega)
/-- and just once -/
theorem rot_inj {n : Nat} (a : Nat) {i j : Nat} (hi : i < n) (hj : j < n) (h : (i + a) % n = (j + a) % n) : i = j := by
  have h1 := Nat.div_add_mod (i + a) n
  have h2 := Nat.div_add_mod (j + a) n
  rw [h] at h1
  rcases Nat.lt_trichotomy ((i + a) / n) ((j + a) / n) with hlt | heq | hgt
  · have := Nat.mul_le_mul_left n (Nat.succ_le_of_lt hlt)
    rw [Nat.succ_eq_add_one, Nat.mul_add, Nat.mul_one] at this
    omega
  · rw [heq] at h1; omega
  · have := Nat.mul_le_mul_left n (Nat.succ_le_of_lt hgt)
    rw [Nat.succ_eq_add_one, Nat.mul_add, Nat.mul_one] at this
    omega

theorem minTo_le_of {n m : Nat} {g h : Nat → Nat} {a : Nat} (e : ∀ i, i < m → ∃ j, j < n ∧ g j ≤ h i) : minTo n g a ≤ minTo m h a := by
  rcases minTo_hit m h a with h1 | ⟨i, hi, h1⟩
  · rw [h1]; exact minTo_le _ _ _
  · rw [h1]
    obtain ⟨j, hj, h2⟩ := e i hi
    exact Nat.le_trans (minTo_le_at hj) h2
theorem minTo_rot (g : Nat → Nat) (n a b : Nat) : minTo n (fun i => g ((i + a) % n)) b = minTo n g b :=
  Nat.le_antisymm (minTo_le_of fun i hi => by obtain ⟨j, hj, e⟩ := rot_hit a hi; exact ⟨j, hj, by simp only [e]; exact Nat.le_refl _⟩)
    (minTo_le_of fun i hi => ⟨(i + a) % n, rot_lt a hi, Nat.le_refl _⟩)
theorem anyB_rot (p : Nat → Bool) (n a : Nat) : anyB n (fun i => p ((i + a) % n)) = anyB n p := by
  rw [Bool.eq_iff_iff, anyB_true, anyB_true]
  constructor
  · rintro ⟨i, hi, h⟩; exact ⟨_, rot_lt a hi, h⟩
  · rintro ⟨i, hi, h⟩; obtain ⟨j, hj, e⟩ := rot_hit a hi; exact ⟨j, hj, by rw [e]; exact h⟩

/-- a book whose sorts and marks come from some of them on -/
def turnB (B : Bk) (b a : Nat) : Bk :=
  ⟨B.nv, fun i => B.V ((i + a) % B.nv), B.nf, fun i => B.F ((i + a) % B.nv), B.ns, fun s => B.nc ((s + b) % B.ns), fun s i => B.ncc ((s + b) % B.ns) ((i + a) % B.nv), fun s i k => B.can ((s + b) % B.ns) ((i + a) % B.nv) k, B.wr⟩
/-- fruits, and their marks, that come from some of them on -/
def turnF (R : Fr) (nv c a : Nat) : Fr := ⟨R.n, fun f => R.L f, fun f i => R.X ((f + c) % R.n) ((i + a) % nv)⟩

theorem right_eq {firm : Bool} {f f' g g' x v : Int} {n : Nat} {c : Nat → Int} (h : g = f ↔ g' = f') : right firm f x n c g v = right firm f' x n c g' v := by
  by_cases hg : g = f
  · simp [right, hg, h.1 hg]
  · have : ¬ g' = f' := fun e => hg (h.2 e)
    simp [right, hg, this]

theorem mw_turn {B : Bk} {R : Fr} {b a c s m f : Nat} {x : Int} (hf : f < R.n) : mw (turnB B b a) (turnF R B.nv c a) s f m x = mw B R ((s + b) % B.ns) ((f + c) % R.n : Nat) ((m + a) % B.nv) x := by
  show cnt R.n _ = cnt R.n _
  rw [← cnt_rot (fun g => decide (R.X g ((m + a) % B.nv) ≠ -1) && !right (B.F ((m + a) % B.nv) == 1) ((f + c) % R.n : Nat) x (B.ncc ((s + b) % B.ns) ((m + a) % B.nv)) (B.can ((s + b) % B.ns) ((m + a) % B.nv)) (g : Nat) (R.X g ((m + a) % B.nv))) R.n c]
  refine cnt_congr fun g hg => ?_
  have e : (g : Int) = (f : Int) ↔ (((g + c) % R.n : Nat) : Int) = (((f + c) % R.n : Nat) : Int) := by
    constructor
    · intro h; have : g = f := by omega
      rw [this]
    · intro h; have := rot_inj c hg hf (by omega); omega
  show (decide (R.X ((g + c) % R.n) ((m + a) % B.nv) ≠ -1) && !right _ (f : Int) x _ _ (g : Int) (R.X ((g + c) % R.n) ((m + a) % B.nv))) = _
  rw [right_eq e]
  rfl

theorem lm_turn {B : Bk} {R : Fr} {b a c s m : Nat} (h0 : 0 < B.ncc ((s + b) % B.ns) ((m + a) % B.nv)) : lm (turnB B b a) (turnF R B.nv c a) s m = lm B R ((s + b) % B.ns) ((m + a) % B.nv) := by
  rcases Nat.eq_zero_or_pos R.n with hn | hn
  · have h1 := lm_le (turnB B b a) (turnF R B.nv c a) s m
    have h2 := lm_le B R ((s + b) % B.ns) ((m + a) % B.nv)
    have h3 : (turnF R B.nv c a).n = R.n := rfl
    omega
  · refine Nat.le_antisymm ?_ ?_
    · obtain ⟨i, hi, he⟩ := lm_hit (R := R) ((0 + c) % R.n) h0
      rw [← he, ← mw_turn (b := b) (a := a) (c := c) (s := s) (m := m) (f := 0) hn]
      exact lm_le_mw (B := turnB B b a) h0 (inCan_can (B := turnB B b a) (s := s) (m := m) hi)
    · obtain ⟨i, hi, he⟩ := lm_hit (B := turnB B b a) (R := turnF R B.nv c a) (s := s) (m := m) 0 h0
      rw [← he, mw_turn hn]
      exact lm_le_mw h0 (inCan_can (B := B) (s := (s + b) % B.ns) (m := (m + a) % B.nv) hi)

theorem wrong_turn {B : Bk} {R : Fr} {b a c s : Nat} (h0 : ∀ m, m < B.nv → 0 < B.ncc ((s + b) % B.ns) m) : wrong (turnB B b a) (turnF R B.nv c a) s = wrong B R ((s + b) % B.ns) := by
  have e : wrong (turnB B b a) (turnF R B.nv c a) s = sumTo B.nv fun m => lm B R ((s + b) % B.ns) ((m + a) % B.nv) :=
    sumTo_congr fun m hm => lm_turn (h0 _ (rot_lt a hm))
  rw [e, sumTo_rot (lm B R ((s + b) % B.ns)) B.nv a]; rfl

end Go.Proofs.Ytopajgnemeodeaa
