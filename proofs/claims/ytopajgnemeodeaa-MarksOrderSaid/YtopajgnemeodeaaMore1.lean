/-
  One more fruit, or one more value seen: what becomes of the numbers of wrong values (no program here).
-/
import Derived.Test.YtopajgnemeodeaaPure1
import Derived.Test.YtopajgnemeodeaaGrows
namespace Go.Proofs.Ytopajgnemeodeaa
open Go.RowKit

theorem minTo_mono {g h : Nat → Nat} {a b : Nat} (hab : a ≤ b) : ∀ {n : Nat}, (∀ i, i < n → g i ≤ h i) → minTo n g a ≤ minTo n h b
  | 0, _ => by simpa [minTo] using hab
  | n + 1, e => by
    have ih := minTo_mono hab (n := n) fun i hi => e i (by omega)
    have := e n (by omega)
    simp only [minTo]; omega
theorem minTo_add {g h : Nat → Nat} {a b c : Nat} (hab : b ≤ a + c) : ∀ {n : Nat}, (∀ i, i < n → h i ≤ g i + c) → minTo n h b ≤ minTo n g a + c
  | 0, _ => by simpa [minTo] using hab
  | n + 1, e => by
    have ih := minTo_add hab (n := n) fun i hi => e i (by omega)
    have := e n (by omega)
    simp only [minTo]; omega

theorem put_more (a b : Nat) (t : Bool) (e : a + (if t = true then 1 else 0) = b + (if false = true then 1 else 0)) : a ≤ b ∧ b ≤ a + 1 := by
  cases t <;> simp at e <;> omega

theorem mw_see {B : Bk} {R : Fr} {s f m : Nat} {z x y : Int} (hf : f < R.n) (h0 : R.X f m = -1) :
    mw B R s z m x ≤ mw B (R.set f m y) s z m x ∧ mw B (R.set f m y) s z m x ≤ mw B R s z m x + 1 := by
  have e := cnt_put (n := R.n) (f := f) (p := fun g => decide (R.X g m ≠ -1) && !right (B.F m == 1) z x (B.ncc s m) (B.can s m) g (R.X g m))
    (q := fun g => decide ((R.set f m y).X g m ≠ -1) && !right (B.F m == 1) z x (B.ncc s m) (B.can s m) g ((R.set f m y).X g m)) hf
    (fun i _ hif => by simp [Fr.set, hif])
  simp only [h0] at e
  have e1 : (decide ((-1 : Int) ≠ -1) && !right (B.F m == 1) z x (B.ncc s m) (B.can s m) (f : Int) (-1)) = false := by simp
  rw [e1] at e
  have c1 : mw B R s z m x = cnt R.n (fun g => decide (R.X g m ≠ -1) && !right (B.F m == 1) z x (B.ncc s m) (B.can s m) g (R.X g m)) := rfl
  have c2 : mw B (R.set f m y) s z m x = cnt R.n (fun g => decide ((R.set f m y).X g m ≠ -1) && !right (B.F m == 1) z x (B.ncc s m) (B.can s m) g ((R.set f m y).X g m)) := rfl
  rw [c1, c2]
  exact put_more _ _ _ e

theorem wrong_see {B : Bk} {R : Fr} {s f m : Nat} {y : Int} (hf : f < R.n) (hm : m < B.nv) (h0 : R.X f m = -1) :
    wrong B R s ≤ wrong B (R.set f m y) s ∧ wrong B (R.set f m y) s ≤ wrong B R s + 1 := by
  have e : sumTo B.nv (lm B R s) + lm B (R.set f m y) s m = sumTo B.nv (lm B (R.set f m y) s) + lm B R s m := sumTo_put hm fun i _ hi => (lm_set hi).symm
  have e1 : lm B R s m ≤ lm B (R.set f m y) s m := minTo_mono (Nat.le_refl _) fun i _ => (mw_see hf h0).1
  have e2 : lm B (R.set f m y) s m ≤ lm B R s m + 1 := minTo_add (Nat.le_succ _) fun i _ => (mw_see hf h0).2
  unfold wrong
  omega

/-- fruits with one more -/
def Fr.plus (R : Fr) (n : Nat) (x : Nat → Int) : Fr := ⟨R.n + 1, fun f => if f = R.n then n else R.L f, fun f i => if f = R.n then x i else R.X f i⟩

theorem mw_plus {B : Bk} {R : Fr} {s m n : Nat} {z y : Int} {x : Nat → Int} :
    mw B R s z m y ≤ mw B (R.plus n x) s z m y ∧ mw B (R.plus n x) s z m y ≤ mw B R s z m y + (if x m ≠ -1 then 1 else 0) := by
  have c1 : mw B R s z m y = cnt R.n (fun g => decide (R.X g m ≠ -1) && !right (B.F m == 1) z y (B.ncc s m) (B.can s m) g (R.X g m)) := rfl
  have c2 : mw B (R.plus n x) s z m y = cnt (R.n + 1) (fun g => decide ((R.plus n x).X g m ≠ -1) && !right (B.F m == 1) z y (B.ncc s m) (B.can s m) g ((R.plus n x).X g m)) := rfl
  have c3 : cnt R.n (fun g => decide ((R.plus n x).X g m ≠ -1) && !right (B.F m == 1) z y (B.ncc s m) (B.can s m) g ((R.plus n x).X g m)) = cnt R.n (fun g => decide (R.X g m ≠ -1) && !right (B.F m == 1) z y (B.ncc s m) (B.can s m) g (R.X g m)) :=
    cnt_congr fun i hi => by have : ¬ i = R.n := by omega
                             simp [Fr.plus, this]
  rw [c1, c2]
  simp only [cnt]
  rw [c3]
  have e : (R.plus n x).X R.n m = x m := by simp [Fr.plus]
  simp only [e]
  generalize (cnt R.n fun g => _) = a
  by_cases hx : x m = -1
  · simp [hx]
  · simp only [hx, ne_eq, not_false_eq_true, decide_true, Bool.true_and, if_true]
    split <;> omega

theorem mw_le (B : Bk) (R : Fr) (s : Nat) (z : Int) (m : Nat) (y : Int) : mw B R s z m y ≤ R.n := bad_le _ _ _ _

theorem lm_plus {B : Bk} {R : Fr} {s m n : Nat} {x : Nat → Int} (h0 : 0 < B.ncc s m) :
    lm B R s m ≤ lm B (R.plus n x) s m ∧ lm B (R.plus n x) s m ≤ lm B R s m + (if x m ≠ -1 then 1 else 0) := by
  have e : minTo (B.ncc s m) (fun i => mw B R s 0 m (B.can s m i)) (R.n + 1) = lm B R s m := minTo_init h0 (fun i _ => mw_le _ _ _ _ _ _) (Nat.le_succ _)
  refine ⟨minTo_mono (Nat.le_succ _) fun i _ => mw_plus.1, ?_⟩
  rw [← e]
  exact minTo_add (by show R.n + 1 ≤ _; omega) fun i _ => mw_plus.2

theorem sumTo_add {g h : Nat → Nat} {p : Nat → Bool} : ∀ {n : Nat}, (∀ i, i < n → h i ≤ g i + (if p i then 1 else 0)) → sumTo n h ≤ sumTo n g + cnt n p
  | 0, _ => Nat.le_refl _
  | n + 1, e => by
    have ih := sumTo_add (n := n) fun i hi => e i (by omega)
    have := e n (by omega)
    simp only [sumTo, cnt]; omega

theorem wrong_plus {B : Bk} {R : Fr} {s n : Nat} {x : Nat → Int} (h0 : ∀ m, m < B.nv → 0 < B.ncc s m) :
    wrong B R s ≤ wrong B (R.plus n x) s ∧ wrong B (R.plus n x) s ≤ wrong B R s + cnt B.nv (fun i => decide (x i ≠ -1)) :=
  ⟨sumTo_mono fun i hi => (lm_plus (h0 i hi)).1, sumTo_add fun i hi => by
    have := (lm_plus (R := R) (n := n) (x := x) (h0 i hi)).2
    simpa using this⟩

def seeB (B : Bk) (R : Fr) (f m y : Int) : Bool := inPlace B R f m && decide (R.X f.toNat m.toNat = -1) && decide (0 ≤ y) && decide (y < B.V m.toNat)

theorem chk_see {B : Bk} {R : Fr} {f m : Nat} {y : Int} (hc : chk B R = 0) (h0 : 0 ≤ y) (h1 : y < B.V m) : chk B (R.set f m y) = 0 := by
  unfold chk at *
  split at hc
  · rename_i hb
    rw [if_pos hb]
    split at hc
    · rename_i hr
      rw [if_pos]
      unfold okFruits at *
      simp only [Bool.and_eq_true, allB_true, decide_eq_true_eq] at *
      refine ⟨hr.1, fun g hg => ?_⟩
      have := hr.2 g hg
      unfold okFruit at *
      simp only [Bool.and_eq_true, allB_true, decide_eq_true_eq, Bool.or_eq_true] at *
      refine ⟨this.1, fun i hi => ?_⟩
      have h2 := this.2 i hi
      by_cases e : g = f ∧ i = m
      · obtain ⟨rfl, rfl⟩ := e
        simp [Fr.set, h0, h1]
      · simp only [Fr.set, e, if_false]; exact h2
    · simp at hc
  · simp at hc

end Go.Proofs.Ytopajgnemeodeaa
