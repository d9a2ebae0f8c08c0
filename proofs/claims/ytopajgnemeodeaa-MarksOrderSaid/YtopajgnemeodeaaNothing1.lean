/-
  Where nothing was looked at, and where a fruit has values that both of two sorts can have (no program here).
-/
import Derived.Test.YtopajgnemeodeaaAsk1
namespace Go.Proofs.Ytopajgnemeodeaa
open Go.RowKit

theorem lm_zero_of {B : Bk} {R : Fr} {s m : Nat} {y : Int} (h0 : 0 < B.ncc s m) (hy : inCan B s m y = true) (h : ∀ f, f < R.n → R.X f m = -1 ∨ R.X f m = y) : lm B R s m = 0 := by
  have h1 := lm_le_mw (R := R) (f := (0 : Int)) h0 hy
  have h2 : mw B R s 0 m y = 0 := by
    show cnt R.n _ = 0
    refine cnt_zero_of fun f hf => ?_
    rcases h f hf with e | e
    · simp [e]
    · rw [e]
      have : right (B.F m == 1) 0 y (B.ncc s m) (B.can s m) f y = true := by
        unfold right
        split
        · simp
        · exact hy
      simp only [this]; simp
  omega

theorem wrong_zero_of {B : Bk} {R : Fr} {s : Nat} (h : ∀ m, m < B.nv → 0 < B.ncc s m ∧ ∃ y, inCan B s m y = true ∧ ∀ f, f < R.n → R.X f m = -1 ∨ R.X f m = y) : wrong B R s = 0 :=
  sumTo_zero fun m hm => by obtain ⟨h0, y, hy, hx⟩ := h m hm; exact lm_zero_of h0 hy hx

/-- the last value below k that both sorts can have, or -1 -/
def lastv (B : Bk) (s t i : Nat) : Nat → Int
  | 0 => -1
  | k + 1 => if cin B s i k && cin B t i k then k else lastv B s t i k

theorem lastv_spec (B : Bk) (s t i : Nat) : ∀ k, (cmn B s t i k = false ∧ lastv B s t i k = -1) ∨ (cmn B s t i k = true ∧ 0 ≤ lastv B s t i k ∧ lastv B s t i k < k ∧ cin B s i (lastv B s t i k) = true ∧ cin B t i (lastv B s t i k) = true)
  | 0 => .inl ⟨rfl, rfl⟩
  | k + 1 => by
    have ih := lastv_spec B s t i k
    have e : cmn B s t i (k + 1) = (cmn B s t i k || (cin B s i k && cin B t i k)) := anyB_suc _ _
    cases hb : cin B s i k && cin B t i k with
    | true =>
      have hb' := hb
      simp only [Bool.and_eq_true] at hb'
      refine .inr ⟨by rw [e, hb, Bool.or_true], ?_⟩
      simp only [lastv, hb, if_true]
      exact ⟨by omega, by omega, hb'.1, hb'.2⟩
    | false =>
      simp only [lastv, hb, Bool.false_eq_true, if_false]
      rw [e, hb, Bool.or_false]
      rcases ih with ⟨h1, h2⟩ | ⟨h1, h2, h3, h4, h5⟩
      · exact .inl ⟨h1, h2⟩
      · exact .inr ⟨h1, h2, by omega, h4, h5⟩

/-- a value that both sorts can have, of each of the first k marks? -/
def cmB (B : Bk) (s t k : Nat) : Bool := allB k fun i => cmn B s t i (B.V i).toNat
theorem allB_suc (p : Nat → Bool) (k : Nat) : allB (k + 1) p = (allB k p && p k) := by simp [allB, List.range_succ]
theorem cmB_suc (B : Bk) (s t k : Nat) : cmB B s t (k + 1) = (cmB B s t k && cmn B s t k (B.V k).toNat) := allB_suc _ _
theorem lastv_ne (B : Bk) (s t i k : Nat) : (lastv B s t i k != -1) = cmn B s t i k := by
  rcases lastv_spec B s t i k with ⟨h1, h2⟩ | ⟨h1, h2, _⟩
  · rw [h1, h2]; decide
  · rw [h1]; simp; omega

/-- fruits that were not looked at -/
def notR (k n : Nat) : Fr := ⟨k, fun _ => n, fun _ _ => -1⟩
/-- one fruit -/
def oneR (n : Nat) (x : Nat → Int) : Fr := ⟨1, fun _ => n, fun _ i => x i⟩

theorem chk_of {B : Bk} {R : Fr} (hb : okBook B = true) (hn : R.n ≤ 5) (h : ∀ f, f < R.n → R.L f = B.nv ∧ ∀ i, i < B.nv → R.X f i = -1 ∨ (0 ≤ R.X f i ∧ R.X f i < B.V i)) : chk B R = 0 := by
  unfold chk
  rw [if_pos hb, if_pos]
  unfold okFruits
  simp only [Bool.and_eq_true, allB_true, decide_eq_true_eq]
  refine ⟨hn, fun f hf => ?_⟩
  obtain ⟨h1, h2⟩ := h f hf
  unfold okFruit
  simp only [Bool.and_eq_true, allB_true, decide_eq_true_eq, Bool.or_eq_true]
  exact ⟨h1, fun i hi => h2 i (by omega)⟩

theorem chk_not {B : Bk} {k : Nat} (hb : okBook B = true) (hk : k ≤ 5) : chk B (notR k B.nv) = 0 :=
  chk_of hb hk fun f _ => ⟨rfl, fun i _ => .inl rfl⟩

theorem chk_both {B : Bk} {s t : Nat} (hb : okBook B = true) (hg : Good B R0) : chk B (oneR B.nv fun i => lastv B s t i (B.V i).toNat) = 0 :=
  chk_of hb (by show 1 ≤ 5; omega) fun f _ => ⟨rfl, fun i hi => by
    show lastv B s t i (B.V i).toNat = -1 ∨ (0 ≤ lastv B s t i (B.V i).toNat ∧ lastv B s t i (B.V i).toNat < B.V i)
    have := hg.V i hi
    rcases lastv_spec B s t i (B.V i).toNat with ⟨_, h2⟩ | ⟨_, h2, h3, _⟩
    · exact .inl h2
    · exact .inr ⟨h2, by omega⟩⟩

theorem wrong_not {B : Bk} {s k : Nat} (hg : Good B R0) (hs : s < B.ns) : wrong B (notR k B.nv) s = 0 :=
  wrong_zero_of fun m hm => ⟨hg.ncc s hs m hm, B.can s m 0, inCan_can (hg.ncc s hs m hm), fun f _ => .inl rfl⟩

theorem wrong_both {B : Bk} {s t : Nat} (hg : Good B R0) (hs : s < B.ns) (ht : t < B.ns) (hc : cmB B s t B.nv = true) :
    wrong B (oneR B.nv fun i => lastv B s t i (B.V i).toNat) s = 0 ∧ wrong B (oneR B.nv fun i => lastv B s t i (B.V i).toNat) t = 0 := by
  have key : ∀ m, m < B.nv → cin B s m (lastv B s t m (B.V m).toNat) = true ∧ cin B t m (lastv B s t m (B.V m).toNat) = true := fun m hm => by
    have h1 := allB_true.1 hc m hm
    rcases lastv_spec B s t m (B.V m).toNat with ⟨h2, _⟩ | ⟨_, _, _, h4, h5⟩
    · rw [h2] at h1; simp at h1
    · exact ⟨h4, h5⟩
  exact ⟨wrong_zero_of fun m hm => ⟨hg.ncc s hs m hm, _, by rw [← cin_inCan]; exact (key m hm).1, fun f _ => .inr rfl⟩,
    wrong_zero_of fun m hm => ⟨hg.ncc t ht m hm, _, by rw [← cin_inCan]; exact (key m hm).2, fun f _ => .inr rfl⟩⟩

theorem sel_all {p : Nat → Bool} : ∀ {n : Nat}, (∀ i, i < n → p i = true) → (sel p n).length = n
  | 0, _ => rfl
  | n + 1, h => by rw [sel_hit (h n (by omega))]; simp [sel_all (n := n) fun i hi => h i (by omega)]
theorem sel_none {p : Nat → Bool} {n : Nat} : (sel p n).length = 0 ↔ ∀ i, i < n → p i = false := by
  constructor
  · intro h i hi
    cases hp : p i with
    | false => rfl
    | true => have := sel_pos hp hi; omega
  · intro h
    have := sel_le (p := p) (q := fun _ => false) (n := n) fun i hi hp => by rw [h i hi] at hp; simp at hp
    have e : ∀ n, (sel (fun _ => false) n).length = 0 := fun n => by
      induction n with
      | zero => rfl
      | succ n ih => rw [sel_miss rfl]; exact ih
    rw [e] at this; omega

theorem sorts_not {B : Bk} {k : Nat} (hg : Good B R0) : (sorts B (notR k B.nv)).length = B.ns :=
  sel_all fun s hs => decide_eq_true (by rw [wrong_not hg hs]; have := hg.wr0; omega)

theorem twin_cm {B : Bk} {s t : Nat} (hg : Good B R0) (hs : s < B.ns) : twinB B s t = (cmB B s t B.nv && (s : Int) != (t : Int)) := by
  have e : (apartL B s t).length = 0 ↔ cmB B s t B.nv = true := by
    unfold apartL cmB
    rw [sel_none, allB_true]
    constructor
    · intro h i hi
      rw [cmn_common hg hs hi]
      have := h i hi
      simpa using this
    · intro h i hi
      have := h i hi
      rw [cmn_common hg hs hi] at this
      simp [this]
  unfold twinB
  rw [Bool.eq_iff_iff]
  simp only [Bool.and_eq_true, decide_eq_true_eq, e, bne_iff_ne, ne_eq]
  constructor
  · rintro ⟨h1, h2⟩; exact ⟨h2, by omega⟩
  · rintro ⟨h1, h2⟩; exact ⟨by omega, h1⟩

end Go.Proofs.Ytopajgnemeodeaa
