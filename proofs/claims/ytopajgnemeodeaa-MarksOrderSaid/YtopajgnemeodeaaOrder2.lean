/-
  A book and fruits that come in another order: what the calls answer (no program here).
-/
import Derived.Test.YtopajgnemeodeaaOrder1
import Derived.Test.YtopajgnemeodeaaLeave1
namespace Go.Proofs.Ytopajgnemeodeaa
open Go.RowKit

theorem sel_cnt (p : Nat → Bool) : ∀ n, (sel p n).length = cnt n p
  | 0 => rfl
  | n + 1 => by
    have ih := sel_cnt p n
    simp only [cnt]
    cases h : p n with
    | true => rw [sel_hit h]; simp [ih]
    | false => rw [sel_miss h]; simp [ih]

theorem chk_turn {B : Bk} {R : Fr} {b a c : Nat} (hc : chk B R = 0) (hb : okBook B = true) : okBook (turnB B b a) = true ∧ chk (turnB B b a) (turnF R B.nv c a) = 0 := by
  have hg := chk_good hc
  have h1 : okBook (turnB B b a) = true := by
    unfold okBook okMarks okSorts at *
    simp only [Bool.and_eq_true, decide_eq_true_eq, allB_true] at hb ⊢
    obtain ⟨⟨⟨⟨⟨h1, h2⟩, h3⟩, h4, h5⟩, h6⟩, h7⟩ := hb
    refine ⟨⟨⟨⟨⟨h1, h2⟩, fun i hi => h3 _ (rot_lt a hi)⟩, h4, fun s hs => ?_⟩, h6⟩, h7⟩
    have := h5 _ (rot_lt b hs)
    unfold okSort at *
    simp only [Bool.and_eq_true, decide_eq_true_eq, allB_true] at this ⊢
    refine ⟨this.1, fun i hi => ?_⟩
    have hi' : i < B.nv := by rw [← this.1]; exact hi
    exact this.2 _ (by rw [this.1]; exact rot_lt a hi')
  refine ⟨h1, chk_of h1 hg.n fun f hf => ⟨hg.L f hf, fun i hi => ?_⟩⟩
  have hf' : f < R.n := hf
  exact hg.X _ (rot_lt c hf') _ (rot_lt a hi)

theorem ncc_turn {B : Bk} {R : Fr} {b : Nat} (hg : Good B R) {s : Nat} (hs : s < B.ns) : ∀ m, m < B.nv → 0 < B.ncc ((s + b) % B.ns) m := fun m hm => hg.ncc _ (rot_lt b hs) m hm

theorem wrong_t {B : Bk} {R : Fr} {b a c s : Nat} (hg : Good B R) (hs : s < B.ns) : wrong (turnB B b a) (turnF R B.nv c a) s = wrong B R ((s + b) % B.ns) := wrong_turn (ncc_turn hg hs)

theorem eWrong_t {B : Bk} {R : Fr} {b a c s : Nat} (hc : chk B R = 0) (hb : okBook B = true) (hs : s < B.ns) : eWrong (turnB B b a) (turnF R B.nv c a) (s : Int) = eWrong B R ((s + b) % B.ns : Nat) := by
  rw [eWrong_ok (chk_turn hc hb).2 hs, eWrong_ok hc (rot_lt b hs), wrong_t (chk_good hc) hs]

theorem eFewest_ok {B : Bk} {R : Fr} (hc : chk B R = 0) (h0 : 0 < B.ns) : eFewest B R = ((fewest B R : Int), 0) := by
  unfold eFewest; rw [if_neg (by simp [hc]), if_neg (by omega)]

theorem eFewest_t {B : Bk} {R : Fr} {b a c : Nat} (hc : chk B R = 0) (hb : okBook B = true) (h0 : 0 < B.ns) : eFewest (turnB B b a) (turnF R B.nv c a) = eFewest B R := by
  have hg := chk_good hc
  have h2 := (chk_turn (b := b) (a := a) (c := c) hc hb).2
  have e : fewest (turnB B b a) (turnF R B.nv c a) = fewest B R := by
    rw [← fewest_1000 hg h0, ← fewest_1000 (chk_good h2) h0, ← minTo_rot (wrong B R) B.ns b 1000]
    exact minTo_congr fun s hs => wrong_t hg hs
  rw [eFewest_ok h2 h0, eFewest_ok hc h0, e]

def okS (B : Bk) (R : Fr) (s : Nat) : Bool := decide ((wrong B R s : Int) ≤ B.wr)
theorem okS_t {B : Bk} {R : Fr} {b a c s : Nat} (hg : Good B R) (hs : s < B.ns) : okS (turnB B b a) (turnF R B.nv c a) s = okS B R ((s + b) % B.ns) := by
  unfold okS; rw [wrong_t hg hs]; rfl
theorem sorts_t {B : Bk} {R : Fr} {b a c : Nat} (hg : Good B R) : (sorts (turnB B b a) (turnF R B.nv c a)).length = (sorts B R).length := by
  have e1 : (sorts (turnB B b a) (turnF R B.nv c a)).length = cnt B.ns (okS (turnB B b a) (turnF R B.nv c a)) := sel_cnt _ _
  have e2 : (sorts B R).length = cnt B.ns (okS B R) := sel_cnt _ _
  rw [e1, e2, ← cnt_rot (okS B R) B.ns b]
  exact cnt_congr fun s hs => okS_t hg hs

theorem in_sorts {B : Bk} {R : Fr} {s : Nat} (hs : s < B.ns) : (anyB (sorts B R).length fun i => decide ((s : Int) = (sorts B R).getD i 0)) = okS B R s := by
  have : (anyB (sorts B R).length fun i => decide ((s : Int) = (sorts B R).getD i 0)) = anyB (sorts B R).length fun i => decide ((sorts B R).getD i 0 = (s : Int)) := by
    congr 1; funext i; rw [Bool.eq_iff_iff]; simp [eq_comm]
  rw [this]
  exact sel_in (okS B R) hs

theorem eIs_ok {B : Bk} {R : Fr} {s : Nat} (hc : chk B R = 0) (hs : s < B.ns) : eIs B R (s : Int) = if (sorts B R).length = 0 then (0, 3) else if okS B R s = false then (2, 0) else if (sorts B R).length = 1 then (1, 0) else (3, 0) := by
  unfold eIs
  rw [if_neg (by simp [hc]), if_neg (by simp; omega), in_sorts hs]

theorem eIs_t {B : Bk} {R : Fr} {b a c s : Nat} (hc : chk B R = 0) (hb : okBook B = true) (hs : s < B.ns) : eIs (turnB B b a) (turnF R B.nv c a) (s : Int) = eIs B R ((s + b) % B.ns : Nat) := by
  rw [eIs_ok (chk_turn (b := b) (a := a) (c := c) hc hb).2 hs, eIs_ok hc (rot_lt b hs), sorts_t (chk_good hc), okS_t (chk_good hc) hs]

theorem wrong_same {B : Bk} {R S : Fr} {s : Nat} (hn : R.n = S.n) (h : ∀ f, f < R.n → ∀ i, i < B.nv → R.X f i = S.X f i) : wrong B R s = wrong B S s := by
  refine sumTo_congr fun m hm => ?_
  unfold lm
  rw [hn]
  refine minTo_congr fun i _ => ?_
  show cnt R.n _ = cnt S.n _
  rw [hn]
  exact cnt_congr fun g hg => by simp only [h g (by omega) m hm]

theorem sorts_same {B : Bk} {R S : Fr} (hn : R.n = S.n) (h : ∀ f, f < R.n → ∀ i, i < B.nv → R.X f i = S.X f i) : sorts B R = sorts B S := by
  unfold sorts
  exact sel_congr fun s _ => by rw [wrong_same hn h]

theorem after_t {B : Bk} {R : Fr} {b a c f m : Nat} (hg : Good B R) (hf : f < R.n) (hm : m < B.nv) (hx : R.X ((f + c) % R.n) ((m + a) % B.nv) = -1) :
    afterOf (turnB B b a) (turnF R B.nv c a) f m = afterOf B R ((f + c) % R.n) ((m + a) % B.nv) := by
  have hv := hg.V _ (rot_lt a hm)
  have key : ∀ x : Nat, x < (B.V ((m + a) % B.nv)).toNat → (sorts (turnB B b a) ((turnF R B.nv c a).set f m x)).length = (sorts B (R.set ((f + c) % R.n) ((m + a) % B.nv) x)).length := fun x hx' => by
    have hg2 : Good B (R.set ((f + c) % R.n) ((m + a) % B.nv) x) := hg.set (.inr ⟨by omega, by omega⟩)
    rw [← sorts_t (b := b) (a := a) (c := c) hg2]
    congr 1
    refine sorts_same (B := turnB B b a) rfl fun g hgn i hi => ?_
    have hgn' : g < R.n := hgn
    have hi' : i < B.nv := hi
    show (if g = f ∧ i = m then (x : Int) else R.X ((g + c) % R.n) ((i + a) % B.nv)) = if (g + c) % R.n = (f + c) % R.n ∧ (i + a) % B.nv = (m + a) % B.nv then (x : Int) else R.X ((g + c) % R.n) ((i + a) % B.nv)
    by_cases hh : g = f ∧ i = m
    · rw [if_pos hh, if_pos (by rw [hh.1, hh.2]; exact ⟨rfl, rfl⟩)]
    · rw [if_neg hh, if_neg fun h2 => hh ⟨rot_inj c hgn' hf h2.1, rot_inj a hi' hm h2.2⟩]
  have e : ∀ n, n ≤ (B.V ((m + a) % B.nv)).toNat → maxTo n (fun x => (sorts (turnB B b a) ((turnF R B.nv c a).set f m x)).length) = maxTo n (fun x => (sorts B (R.set ((f + c) % R.n) ((m + a) % B.nv) x)).length) := fun n => by
    induction n with
    | zero => intro _; rfl
    | succ n ih => intro h; simp only [maxTo]; rw [ih (by omega), key n (by omega)]
  exact e _ (Nat.le_refl _)

theorem eAfter_ok {B : Bk} {R : Fr} {f m : Nat} (hc : chk B R = 0) (hf : f < R.n) (hm : m < B.nv) : eAfter B R (f : Int) (m : Int) = if R.X f m ≠ -1 then (0, 1) else if (sorts B R).length = 0 then (0, 3) else ((afterOf B R f m : Int), 0) := by
  unfold eAfter
  rw [if_neg (by simp [hc]), if_neg (by simp [inPlace]; omega)]
  simp only [Int.toNat_natCast]

theorem eAfter_t {B : Bk} {R : Fr} {b a c f m : Nat} (hc : chk B R = 0) (hb : okBook B = true) (hf : f < R.n) (hm : m < B.nv) : eAfter (turnB B b a) (turnF R B.nv c a) (f : Int) (m : Int) = eAfter B R ((f + c) % R.n : Nat) ((m + a) % B.nv : Nat) := by
  have hg := chk_good hc
  have e1 : (turnF R B.nv c a).X f m = R.X ((f + c) % R.n) ((m + a) % B.nv) := rfl
  rw [eAfter_ok (chk_turn (b := b) (a := a) (c := c) hc hb).2 hf hm, eAfter_ok hc (rot_lt c hf) (rot_lt a hm), sorts_t hg, e1]
  by_cases hx : R.X ((f + c) % R.n) ((m + a) % B.nv) = -1
  · have hne : ¬ (R.X ((f + c) % R.n) ((m + a) % B.nv) ≠ -1) := fun h => h hx
    rw [if_neg hne, if_neg hne, after_t hg hf hm hx]
  · rw [if_pos hx, if_pos hx]

theorem ex_t {B : Bk} {R : Fr} {b a c s f m : Nat} {x : Int} (hg : Good B R) (hs : s < B.ns) (hf : f < R.n) (hm : m < B.nv) : ex (turnB B b a) (turnF R B.nv c a) s f m x = ex B R ((s + b) % B.ns) ((f + c) % R.n) ((m + a) % B.nv) x := by
  unfold ex
  rw [wrong_t hg hs, lm_turn (ncc_turn hg hs _ (rot_lt a hm)), mw_turn hf]
  rfl

theorem eValues_ok {B : Bk} {R : Fr} {f m : Nat} (hc : chk B R = 0) (hf : f < R.n) (hm : m < B.nv) : eValues B R (f : Int) (m : Int) = if (vals B R f m).length = 0 then ([], 3) else (vals B R f m, 0) := by
  unfold eValues
  rw [if_neg (by simp [hc]), if_neg (by simp [inPlace]; omega)]
  simp only [Int.toNat_natCast]

theorem eValues_t {B : Bk} {R : Fr} {b a c f m : Nat} (hc : chk B R = 0) (hb : okBook B = true) (hf : f < R.n) (hm : m < B.nv) : eValues (turnB B b a) (turnF R B.nv c a) (f : Int) (m : Int) = eValues B R ((f + c) % R.n : Nat) ((m + a) % B.nv : Nat) := by
  have hg := chk_good hc
  have e : vals (turnB B b a) (turnF R B.nv c a) f m = vals B R ((f + c) % R.n) ((m + a) % B.nv) := by
    unfold vals
    refine sel_congr fun x _ => ?_
    unfold exAny
    have h3 : (turnB B b a).ns = B.ns := rfl
    rw [h3, ← anyB_rot (fun s => ex B R s ((f + c) % R.n) ((m + a) % B.nv) x) B.ns b, Bool.eq_iff_iff, anyB_true, anyB_true]
    exact ⟨fun ⟨s, hs, h⟩ => ⟨s, hs, by rw [← ex_t hg hs hf hm]; exact h⟩, fun ⟨s, hs, h⟩ => ⟨s, hs, by rw [ex_t hg hs hf hm]; exact h⟩⟩
  rw [eValues_ok (chk_turn (b := b) (a := a) (c := c) hc hb).2 hf hm, eValues_ok hc (rot_lt c hf) (rot_lt a hm), e]

theorem eApart_ok {B : Bk} {s t : Nat} (hb : okBook B = true) (hs : s < B.ns) (ht : t < B.ns) : eApart B (s : Int) (t : Int) = (apartL B s t, 0) := by
  unfold eApart
  rw [if_neg (by simp [hb]), if_pos (by simp; omega)]
  simp only [Int.toNat_natCast]

theorem eApart_t {B : Bk} {R : Fr} {b a c s t : Nat} (hc : chk B R = 0) (hb : okBook B = true) (hs : s < B.ns) (ht : t < B.ns) :
    ∃ lv lw : List Int, eApart B ((s + b) % B.ns : Nat) ((t + b) % B.ns : Nat) = (lv, 0) ∧ eApart (turnB B b a) (s : Int) (t : Int) = (lw, 0) ∧ lv.length = lw.length ∧ lw.length ≤ B.nv ∧
      ∀ i, i < lw.length → ∃ k : Nat, k < B.nv ∧ lw.getD i 0 = (k : Int) ∧ (anyB lv.length fun j => decide (lv.getD j 0 = (((k + a) % B.nv : Nat) : Int))) = true := by
  have h1 := (chk_turn (b := b) (a := a) (c := c) hc hb).1
  have hs2 := rot_lt b hs
  have ht2 := rot_lt b ht
  have h3 : (turnB B b a).ns = B.ns := rfl
  have h4 : (turnB B b a).nv = B.nv := rfl
  have hcm : ∀ m, common (turnB B b a) s t m = common B ((s + b) % B.ns) ((t + b) % B.ns) ((m + a) % B.nv) := fun m => rfl
  refine ⟨apartL B ((s + b) % B.ns) ((t + b) % B.ns), apartL (turnB B b a) s t, ?_, ?_, ?_, sel_len _ _, fun i hi => ?_⟩
  · exact eApart_ok hb hs2 ht2
  · exact eApart_ok h1 hs ht
  · unfold apartL
    rw [sel_cnt, sel_cnt, h4, ← cnt_rot (fun m => !common B ((s + b) % B.ns) ((t + b) % B.ns) m) B.nv a]
    exact cnt_congr fun m _ => by rw [hcm]
  · obtain ⟨k, hk, hp, e⟩ := sel_one hi
    refine ⟨k, hk, e, ?_⟩
    rw [hcm] at hp
    exact (sel_in (fun m => !common B ((s + b) % B.ns) ((t + b) % B.ns) m) (rot_lt a hk)).trans hp

end Go.Proofs.Ytopajgnemeodeaa
