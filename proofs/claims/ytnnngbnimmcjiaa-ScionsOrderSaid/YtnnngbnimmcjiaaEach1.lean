/-
  FitIff: what fits, said without an order.
  More0: one more scion, place, or want, in words of lists.
  Each0: a gift without one of its wants; lost sorts, in words of lists.
  Each1: append of numbers to an own list; slices of a list; capacities of what came in.
-/
import Derived.Test.YtnnngbnimmcjiaaRFits
import Derived.Test.YtnnngbnimmcjiaaRare
import Derived.Test.YtnnngbnimmcjiaaLBest
import Derived.Test.YtnnngbnimmcjiaaDataK
namespace Go.Proofs.Ytnnngbnimmcjiaa

theorem cT_snoc2 (B : SB) (m : List Nat) (k s f : Nat) : cT B (m ++ [k]) s f = cT B m s f + (if B.sN k = s ∧ B.fN k = f then 1 else 0) := cT_snoc B m k s f

/-- a gift fits just if it takes of no sort and of no garden more than there is, and no sort comes twice to gardens of one frost -/
theorem fit_iff {B : SB} {p : Nat} (hG : GoodL B p) : ∀ (n : Nat) (l : List Nat), l.length = n → (∀ k, k ∈ l → k < B.nw) →
    (fitL B l = true ↔ (∀ s, s < B.ns → (cS B l s : Int) ≤ B.C s) ∧ (∀ a, a < B.ng → (cG B l a : Int) ≤ B.P a) ∧ ∀ s f, cT B l s f ≤ 1) := by
  intro n
  induction n with
  | zero =>
    intro l hl _
    rw [List.length_eq_zero_iff.1 hl]
    exact ⟨fun _ => ⟨fun s hs => by have := (hG.C s hs).1; simp [cS]; omega, fun a ha => by have := (hG.P a ha).1; simp [cG]; omega, fun s f => by simp [cT]⟩, fun _ => rfl⟩
  | succ n ih =>
    intro l hl hk
    constructor
    · intro hf
      exact ⟨(fit_le hG l hk hf).1, (fit_le hG l hk hf).2, fun s f => cT_one B s f _ l rfl hf⟩
    · intro ⟨h1, h2, h3⟩
      obtain ⟨m, k, rfl⟩ : ∃ m k, l = m ++ [k] := ⟨l.dropLast, l.getLast (by intro e; rw [e] at hl; cases hl), (List.dropLast_concat_getLast _).symm⟩
      have hm : m.length = n := by simpa using hl
      have hmk : ∀ j, j ∈ m → j < B.nw := fun j hj => hk j (List.mem_append.2 (.inl hj))
      have hkn := hk k (by simp)
      have hfm : fitL B m = true := (ih m hm hmk).2 ⟨fun s hs => by have := h1 s hs; rw [cS_app] at this; omega, fun a ha => by have := h2 a ha; rw [cG_app] at this; omega, fun s f => by have := h3 s f; rw [cT_snoc2] at this; omega⟩
      rw [fitL_snoc, hfm, Bool.true_and, add_iff hG hmk hkn hfm, decide_eq_true (h1 _ (hG.sN hkn).1), decide_eq_true (h2 _ (hG.gN hkn).1), Bool.true_and, Bool.true_and, cT_fr]
      have := h3 (B.sN k) (B.fN k)
      rw [cT_snoc2, if_pos ⟨rfl, rfl⟩] at this
      rw [decide_eq_false (by omega)]
      rfl

/-- a part of a gift that fits fits -/
theorem fit_sub {B : SB} {p : Nat} (hG : GoodL B p) {l m : List Nat} (hs : m.Sublist l) (hk : ∀ k, k ∈ l → k < B.nw) (hf : fitL B l = true) : fitL B m = true := by
  obtain ⟨h1, h2, h3⟩ := (fit_iff hG _ l rfl hk).1 hf
  refine (fit_iff hG _ m rfl fun k h => hk k (hs.subset h)).2 ⟨fun s h => ?_, fun a h => ?_, fun s f => ?_⟩
  · have := h1 s h; have : cS B m s ≤ cS B l s := hs.countP_le; omega
  · have := h2 a h; have : cG B m a ≤ cG B l a := hs.countP_le; omega
  · have := h3 s f; have : cT B m s f ≤ cT B l s f := hs.countP_le; omega

end Go.Proofs.Ytnnngbnimmcjiaa

namespace Go.Proofs.Ytnnngbnimmcjiaa
open Go.RowKit

/-- one scion of a sort more -/
def moreC (B : SB) (s : Nat) : SB := { B with C := fun i => if i = s then B.C i + 1 else B.C i }
/-- one want more -/
def moreW (B : SB) (a s : Int) : SB := { B with nw := B.nw + 1, G := fun i => if i = B.nw then a else B.G i, S := fun i => if i = B.nw then s else B.S i }

theorem gifts_iff {B : SB} {g : List Nat} : g ∈ giftsL B ↔ fitL B g = true ∧ (∀ k, k ∈ g → k < B.nw) ∧ g.Pairwise (· < ·) :=
  ⟨fun h => ⟨(giftsL_ok h).fit, fun k hk => by have := (giftsL_ok h).lt k hk; have := (giftsL_ok h).top; omega, giftsL_up h⟩, fun h => giftsL_all h.1 h.2.1 h.2.2⟩
theorem sum_gift {B : SB} {p : Nat} (hG : GoodL B p) {g : List Nat} (h : g ∈ giftsL B) : sumG B g = g.length := sum_len hG _ _ rfl (gifts_iff.1 h).2.1
/-- a greatest one -/
theorem sumN_ge {B : SB} {p : Nat} (hG : GoodL B p) {g : List Nat} (h : g ∈ giftsL B) : g.length ≤ sumN B := by
  rw [← sum_gift hG h]; exact best_ge (f := sumG B) _ _ h
theorem sumN_is {B : SB} {p : Nat} (hG : GoodL B p) : ∃ g, g ∈ giftsL B ∧ sumN B = g.length := ⟨_, best_in (sumG B), sum_gift hG (best_in (sumG B))⟩

theorem erase_count {p : Nat → Bool} {k : Nat} : ∀ (g : List Nat), k ∈ g → g.countP p = (g.erase k).countP p + (if p k = true then 1 else 0) := by
  intro g
  induction g with
  | nil => intro h; cases h
  | cons a l ih =>
    intro h
    rw [List.erase_cons]
    by_cases e : a = k
    · subst e
      rw [if_pos (by simp), List.countP_cons]
    · have hm : k ∈ l := by
        rcases List.mem_cons.1 h with h | h
        · exact absurd h.symm e
        · exact h
      rw [if_neg (by simpa using e), List.countP_cons, List.countP_cons, ih hm]
      omega

/-- one scion more: what fitted fits -/
theorem moreC_fit {B : SB} {p : Nat} {s : Nat} (hG : GoodL B p) (hG' : GoodL (moreC B s) p) {g : List Nat} (h : g ∈ giftsL B) : g ∈ giftsL (moreC B s) := by
  obtain ⟨hf, hk, hp⟩ := gifts_iff.1 h
  obtain ⟨h1, h2, h3⟩ := (fit_iff hG _ g rfl hk).1 hf
  refine gifts_iff.2 ⟨(fit_iff hG' _ g rfl hk).2 ⟨fun i hi => ?_, h2, h3⟩, hk, hp⟩
  have := h1 i hi
  show ((cS B g i : Nat) : Int) ≤ if i = s then B.C i + 1 else B.C i
  split <;> omega
theorem moreC_cut {B : SB} {p : Nat} {s : Nat} (hG : GoodL B p) (hG' : GoodL (moreC B s) p) {g : List Nat} (h : g ∈ giftsL (moreC B s)) : ∃ m, m ∈ giftsL B ∧ g.length ≤ m.length + 1 := by
  obtain ⟨hf, hk, hp⟩ := gifts_iff.1 h
  obtain ⟨h1, h2, h3⟩ := (fit_iff hG' _ g rfl hk).1 hf
  have h1' : ∀ i, i < B.ns → ((cS B g i : Nat) : Int) ≤ if i = s then B.C i + 1 else B.C i := h1
  by_cases hs : ∃ k, k ∈ g ∧ B.sN k = s
  · obtain ⟨k, hkg, hks⟩ := hs
    have hsub : (g.erase k).Sublist g := List.erase_sublist
    have hk' : ∀ j, j ∈ g.erase k → j < B.nw := fun j hj => hk j (hsub.subset hj)
    refine ⟨g.erase k, gifts_iff.2 ⟨(fit_iff hG _ _ rfl hk').2 ⟨fun i hi => ?_, fun a ha => ?_, fun t f => ?_⟩, hk', hp.sublist hsub⟩, ?_⟩
    · have := h1' i hi
      have e : cS B g i = cS B (g.erase k) i + (if (B.sN k == i) = true then 1 else 0) := erase_count (p := fun k => B.sN k == i) g hkg
      rw [hks] at e
      by_cases ei : i = s
      · subst ei
        rw [if_pos rfl] at this
        rw [if_pos (by simp)] at e
        omega
      · rw [if_neg ei] at this
        rw [if_neg (by simpa using fun e => ei e.symm)] at e
        omega
    · have := h2 a ha
      have e : cG B (g.erase k) a ≤ cG B g a := hsub.countP_le
      have this' : ((cG B g a : Nat) : Int) ≤ B.P a := this
      omega
    · have := h3 t f
      have e : cT B (g.erase k) t f ≤ cT B g t f := hsub.countP_le
      have this' : cT B g t f ≤ 1 := this
      omega
    · rw [List.length_erase_of_mem hkg]; omega
  · have h0 : cS B g s = 0 := by
      unfold cS
      rw [List.countP_eq_zero]
      intro k hkg e
      exact hs ⟨k, hkg, by simpa using e⟩
    refine ⟨g, gifts_iff.2 ⟨(fit_iff hG _ g rfl hk).2 ⟨fun i hi => ?_, h2, h3⟩, hk, hp⟩, by omega⟩
    have := h1' i hi
    by_cases ei : i = s
    · subst ei; rw [h0]; have := (hG.C i hi).1; omega
    · rw [if_neg ei] at this; exact this
theorem moreC_sum {B : SB} {p : Nat} {s : Nat} (hG : GoodL B p) (hG' : GoodL (moreC B s) p) : sumN B ≤ sumN (moreC B s) ∧ sumN (moreC B s) ≤ sumN B + 1 := by
  constructor
  · obtain ⟨g, hg, e⟩ := sumN_is hG
    rw [e]; exact sumN_ge hG' (moreC_fit hG hG' hg)
  · obtain ⟨g, hg, e⟩ := sumN_is hG'
    obtain ⟨m, hm, hl⟩ := moreC_cut hG hG' hg
    have := sumN_ge hG hm
    omega

/-- one place more -/
theorem plusB_fit {B : SB} {p : Nat} {a : Nat} (hG : GoodL B p) {g : List Nat} (h : g ∈ giftsL B) : g ∈ giftsL (plusB B a) := by
  have hG' := plusB_good hG a
  obtain ⟨hf, hk, hp⟩ := gifts_iff.1 h
  obtain ⟨h1, h2, h3⟩ := (fit_iff hG _ g rfl hk).1 hf
  refine gifts_iff.2 ⟨(fit_iff hG' _ g rfl hk).2 ⟨h1, fun i hi => ?_, h3⟩, hk, hp⟩
  have := h2 i hi
  show ((cG B g i : Nat) : Int) ≤ if i = a then B.P i + 1 else B.P i
  split <;> omega
theorem plusB_cut {B : SB} {p : Nat} {a : Nat} (hG : GoodL B p) {g : List Nat} (h : g ∈ giftsL (plusB B a)) : ∃ m, m ∈ giftsL B ∧ g.length ≤ m.length + 1 := by
  have hG' := plusB_good hG a
  obtain ⟨hf, hk, hp⟩ := gifts_iff.1 h
  obtain ⟨h1, h2, h3⟩ := (fit_iff hG' _ g rfl hk).1 hf
  have h2' : ∀ i, i < B.ng → ((cG B g i : Nat) : Int) ≤ if i = a then B.P i + 1 else B.P i := h2
  by_cases hs : ∃ k, k ∈ g ∧ B.gN k = a
  · obtain ⟨k, hkg, hks⟩ := hs
    have hsub : (g.erase k).Sublist g := List.erase_sublist
    have hk' : ∀ j, j ∈ g.erase k → j < B.nw := fun j hj => hk j (hsub.subset hj)
    refine ⟨g.erase k, gifts_iff.2 ⟨(fit_iff hG _ _ rfl hk').2 ⟨fun i hi => ?_, fun i hi => ?_, fun t f => ?_⟩, hk', hp.sublist hsub⟩, ?_⟩
    · have := h1 i hi
      have e : cS B (g.erase k) i ≤ cS B g i := hsub.countP_le
      have this' : ((cS B g i : Nat) : Int) ≤ B.C i := this
      omega
    · have := h2' i hi
      have e : cG B g i = cG B (g.erase k) i + (if (B.gN k == i) = true then 1 else 0) := erase_count (p := fun k => B.gN k == i) g hkg
      rw [hks] at e
      by_cases ei : i = a
      · subst ei
        rw [if_pos rfl] at this
        rw [if_pos (by simp)] at e
        omega
      · rw [if_neg ei] at this
        rw [if_neg (by simpa using fun e => ei e.symm)] at e
        omega
    · have := h3 t f
      have e : cT B (g.erase k) t f ≤ cT B g t f := hsub.countP_le
      have this' : cT B g t f ≤ 1 := this
      omega
    · rw [List.length_erase_of_mem hkg]; omega
  · have h0 : cG B g a = 0 := by
      unfold cG
      rw [List.countP_eq_zero]
      intro k hkg e
      exact hs ⟨k, hkg, by simpa using e⟩
    refine ⟨g, gifts_iff.2 ⟨(fit_iff hG _ g rfl hk).2 ⟨h1, fun i hi => ?_, h3⟩, hk, hp⟩, by omega⟩
    have := h2' i hi
    by_cases ei : i = a
    · subst ei; rw [h0]; have := (hG.P i hi).1; omega
    · rw [if_neg ei] at this; exact this
theorem plusB_sum {B : SB} {p : Nat} {a : Nat} (hG : GoodL B p) : sumN B ≤ sumN (plusB B a) ∧ sumN (plusB B a) ≤ sumN B + 1 := by
  constructor
  · obtain ⟨g, hg, e⟩ := sumN_is hG
    rw [e]; exact sumN_ge (plusB_good hG a) (plusB_fit hG hg)
  · obtain ⟨g, hg, e⟩ := sumN_is (plusB_good hG a)
    obtain ⟨m, hm, hl⟩ := plusB_cut hG hg
    have := sumN_ge hG hm
    omega

/-- the best is not worse if whatever fits still does -/
theorem rank_more {B B' : SB} (hcS : ∀ g, cS B' g = cS B g) (h : ∀ g, g ∈ giftsL B → g ∈ giftsL B') : rankG B (bestL (rankG B) (giftsL B)) ≤ rankG B' (bestL (rankG B') (giftsL B')) := by
  have h1 := best_ge (f := rankG B') _ _ (h _ (best_in (rankG B)))
  have h2 : rankG B' (bestL (rankG B) (giftsL B)) = rankG B (bestL (rankG B) (giftsL B)) := by unfold rankG; rw [hcS]
  omega
theorem rank_more_no {B B' : SB} (hG : GoodL B 4) (hG' : GoodL B' 4) (hns : B'.ns = B.ns) (hcS : ∀ g, cS B' g = cS B g) (h : ∀ g, g ∈ giftsL B → g ∈ giftsL B') :
    decide (rankC (cS B' (bestL (rankG B') (giftsL B'))) B.ns < rankC (cS B (bestL (rankG B) (giftsL B))) B.ns) = false := by
  have h1 := rank_more hcS h
  have ok1 := giftsL_ok (best_in (B := B) (rankG B))
  have ok2 := giftsL_ok (best_in (B := B') (rankG B'))
  have hc2 := ok2.cS0 hG'
  rw [hns] at hc2
  have h2 := rank_pad (c := cS B (bestL (rankG B) (giftsL B))) (d := cS B' (bestL (rankG B') (giftsL B'))) (n := B.ns) (ok1.cS0 hG) hc2 (4 - B.ns)
  have := hG.ns
  rw [show B.ns + (4 - B.ns) = 4 by omega] at h2
  refine decide_eq_false fun hl => ?_
  have h3 := h2.2 hl
  change rankC _ 4 ≤ rankC _ 4 at h1
  omega

/-- one want more -/
theorem count_congr {p q : Nat → Bool} {g : List Nat} (h : ∀ k, k ∈ g → p k = q k) : g.countP p = g.countP q := List.countP_congr fun k hk => by rw [h k hk]
theorem moreW_sN {B : SB} {a s : Int} {k : Nat} (hk : k < B.nw) : (moreW B a s).sN k = B.sN k := by
  show Int.toNat (if k = B.nw then s else B.S k) = _
  rw [if_neg (by omega)]; rfl
theorem moreW_gN {B : SB} {a s : Int} {k : Nat} (hk : k < B.nw) : (moreW B a s).gN k = B.gN k := by
  show Int.toNat (if k = B.nw then a else B.G k) = _
  rw [if_neg (by omega)]; rfl
theorem moreW_fN {B : SB} {a s : Int} {k : Nat} (hk : k < B.nw) : (moreW B a s).fN k = B.fN k := by
  show Int.toNat (B.F ((moreW B a s).gN k)) = _
  rw [moreW_gN hk]; rfl
theorem moreW_cS {B : SB} {a s : Int} {g : List Nat} (hk : ∀ k, k ∈ g → k < B.nw) (i : Nat) : cS (moreW B a s) g i = cS B g i := count_congr fun k h => by rw [moreW_sN (hk k h)]
theorem moreW_cG {B : SB} {a s : Int} {g : List Nat} (hk : ∀ k, k ∈ g → k < B.nw) (i : Nat) : cG (moreW B a s) g i = cG B g i := count_congr fun k h => by rw [moreW_gN (hk k h)]
theorem moreW_cT {B : SB} {a s : Int} {g : List Nat} (hk : ∀ k, k ∈ g → k < B.nw) (i f : Nat) : cT (moreW B a s) g i f = cT B g i f := count_congr fun k h => by rw [moreW_sN (hk k h), moreW_fN (hk k h)]
theorem moreW_fit {B : SB} {p : Nat} {a s : Int} (hG : GoodL B p) (hG' : GoodL (moreW B a s) p) {g : List Nat} (h : g ∈ giftsL B) : g ∈ giftsL (moreW B a s) := by
  obtain ⟨hf, hk, hp⟩ := gifts_iff.1 h
  obtain ⟨h1, h2, h3⟩ := (fit_iff hG _ g rfl hk).1 hf
  have hk' : ∀ k, k ∈ g → k < (moreW B a s).nw := fun k h => by have := hk k h; show k < B.nw + 1; omega
  refine gifts_iff.2 ⟨(fit_iff hG' _ g rfl hk').2 ⟨fun i hi => ?_, fun i hi => ?_, fun t f => ?_⟩, hk', hp⟩
  · rw [moreW_cS hk]; exact h1 i hi
  · rw [moreW_cG hk]; exact h2 i hi
  · rw [moreW_cT hk]; exact h3 t f
theorem moreW_sum {B : SB} {p : Nat} {a s : Int} (hG : GoodL B p) (hG' : GoodL (moreW B a s) p) : sumN B ≤ sumN (moreW B a s) := by
  obtain ⟨g, hg, e⟩ := sumN_is hG
  rw [e]; exact sumN_ge hG' (moreW_fit hG hG' hg)
theorem moreW_safe {B : SB} {p : Nat} {a s : Int} (hG : GoodL B p) (hG' : GoodL (moreW B a s) p) : safeN B ≤ safeN (moreW B a s) := by
  have hg := best_in (B := B) (safeG B)
  have h1 := best_ge (f := safeG (moreW B a s)) _ _ (moreW_fit hG hG' hg)
  have h2 : safeG (moreW B a s) (bestL (safeG B) (giftsL B)) = safeG B (bestL (safeG B) (giftsL B)) := by
    unfold safeG
    congr 1
    funext i
    exact moreW_cS (gifts_iff.1 hg).2.1 i
  show safeG B _ ≤ safeG (moreW B a s) _
  omega
theorem moreW_alone {B : SB} {p : Nat} {a s : Int} (hG : GoodL B p) (hG' : GoodL (moreW B a s) p) (i : Nat) : aloneN B i ≤ aloneN (moreW B a s) i := by
  have hg := best_in (B := B) (fun g => cS B g i)
  have h1 := alone_ge (moreW_fit hG hG' hg) i
  rw [moreW_cS (gifts_iff.1 hg).2.1] at h1
  exact h1

end Go.Proofs.Ytnnngbnimmcjiaa

namespace Go.Proofs.Ytnnngbnimmcjiaa
open Go.RowKit

theorem okGift_up {nw n : Nat} {x : Nat → Int} (hg : okGift nw n x = true) : ∀ i j, i < j → j < n → x i < x j := by
  intro i j hij
  induction j with
  | zero => omega
  | succ j ih =>
    intro hj
    have h2 := allB_true.1 (by unfold okGift at hg; exact hg) (j + 1) hj
    simp only [Bool.and_eq_true, Bool.or_eq_true, decide_eq_true_eq, Nat.add_sub_cancel] at h2
    rcases Nat.lt_or_ge i j with h3 | h3
    · have := ih h3 (by omega)
      rcases h2.2 with h4 | h4 <;> omega
    · have : i = j := by omega
      subst this
      rcases h2.2 with h4 | h4 <;> omega
/-- without the p-th -/
def dropX (x : Nat → Int) (p : Nat) (i : Nat) : Int := if i < p then x i else x (i + 1)
theorem drop_ok {nw n p : Nat} {x : Nat → Int} (hg : okGift nw n x = true) (hp : p < n) : okGift nw (n - 1) (dropX x p) = true := by
  have hx := okGift_nat hg
  have hu := okGift_up hg
  unfold okGift
  refine allB_true.2 fun i hi => ?_
  simp only [Bool.and_eq_true, Bool.or_eq_true, decide_eq_true_eq]
  refine ⟨?_, ?_⟩
  · unfold dropX
    split
    · exact hx i (by omega)
    · exact hx (i + 1) (by omega)
  · by_cases h0 : i = 0
    · exact .inl h0
    · refine .inr ?_
      unfold dropX
      split <;> split
      · exact hu _ _ (by omega) (by omega)
      · exact hu _ _ (by omega) (by omega)
      · omega
      · exact hu _ _ (by omega) (by omega)
theorem natL_get {n : Nat} {x : Nat → Int} {i : Nat} (h : i < (natL n x).length) : (natL n x)[i] = (x i).toNat := by simp [natL]
theorem drop_sub {n p : Nat} {x : Nat → Int} (hp : p < n) : (natL (n - 1) (dropX x p)).Sublist (natL n x) := by
  have e : natL (n - 1) (dropX x p) = (natL n x).eraseIdx p := by
    apply List.ext_getElem
    · rw [List.length_eraseIdx_of_lt (by rw [natL_len]; exact hp), natL_len, natL_len]
    · intro i h1 h2
      rw [List.getElem_eraseIdx]
      rw [natL_get]
      unfold dropX
      by_cases h : i < p
      · rw [dif_pos h, natL_get, if_pos h]
      · rw [dif_neg h, natL_get, if_neg h]
  rw [e]
  exact List.eraseIdx_sublist _ _
theorem fits_ok {B : SB} {n : Nat} {x : Nat → Int} (h : fitsL B n x = true) : n ≤ 40 ∧ okGift B.nw n x = true ∧ fitL B (natL n x) = true := by
  unfold fitsL at h
  rw [Bool.and_eq_true, Bool.and_eq_true, decide_eq_true_eq] at h
  exact ⟨h.1.1, h.1.2, h.2⟩
theorem eFits_ok {B : SB} {n : Nat} {x : Nat → Int} (hv : okL B = true) (hg : okGift B.nw n x = true) (hf : fitL B (natL n x) = true) : eFits B n x = (true, 0) := by
  unfold eFits; rw [hv, hg, hf]; rfl
theorem drop_fits {B : SB} {n p : Nat} {x : Nat → Int} (hv : okL B = true) (hg : okGift B.nw n x = true) (hf : fitL B (natL n x) = true) (hp : p < n) : eFits B (n - 1) (dropX x p) = (true, 0) :=
  eFits_ok hv (drop_ok hg hp) (fit_sub (goodL hv) (drop_sub hp) (natL_lt (okGift_nat hg)) hf)
theorem each_rank {B : SB} (hG : GoodL B 4) {g : List Nat} (h : g ∈ giftsL B) : decide (rankC (cS B (bestL (rankG B) (giftsL B))) B.ns < rankC (cS B g) B.ns) = false := by
  have h1 := best_ge (f := rankG B) _ _ h
  have ok1 := giftsL_ok (best_in (B := B) (rankG B))
  have ok2 := giftsL_ok h
  have h2 := rank_pad (c := cS B g) (d := cS B (bestL (rankG B) (giftsL B))) (n := B.ns) (ok2.cS0 hG) (ok1.cS0 hG) (4 - B.ns)
  have := hG.ns
  rw [show B.ns + (4 - B.ns) = 4 by omega] at h2
  refine decide_eq_false fun hl => ?_
  have h3 := h2.2 hl
  change rankC _ 4 ≤ rankC _ 4 at h1
  omega
theorem safeN_ge {B : SB} {g : List Nat} (h : g ∈ giftsL B) : safeG B g ≤ safeN B := best_ge (f := safeG B) _ _ h

theorem sel_pad {p : Nat → Bool} {n : Nat} (h : ∀ i, n ≤ i → p i = false) : ∀ m, sel p (n + m) = sel p n := by
  intro m
  induction m with
  | zero => rfl
  | succ m ih => rw [← Nat.add_assoc, sel_miss (h _ (by omega)), ih]
theorem lost_sel {B : SB} (hG : GoodL B 4) {g : List Nat} (h : g ∈ giftsL B) (f : Nat) : sel (lostP B g f) 4 = sel (lostP B g f) B.ns := by
  have := hG.ns
  have h1 := sel_pad (p := lostP B g f) (n := B.ns) (fun i hi => by
    unfold lostP; rw [(giftsL_ok h).cS0 hG i hi]; rfl) (4 - B.ns)
  rw [show B.ns + (4 - B.ns) = 4 by omega] at h1
  exact h1
theorem sel_mem {p : Nat → Bool} {s : Int} : ∀ n, s ∈ sel p n ↔ ∃ k : Nat, k < n ∧ p k = true ∧ s = k := by
  intro n
  induction n with
  | zero => constructor
            · intro h; cases h
            · intro ⟨k, h, _⟩; omega
  | succ n ih =>
    unfold sel
    split
    · rename_i hp
      rw [List.mem_append, ih, List.mem_singleton]
      constructor
      · rintro (⟨k, h1, h2, h3⟩ | h)
        · exact ⟨k, by omega, h2, h3⟩
        · exact ⟨n, by omega, hp, h⟩
      · rintro ⟨k, h1, h2, h3⟩
        by_cases e : k = n
        · subst e; exact .inr h3
        · exact .inl ⟨k, by omega, h2, h3⟩
    · rename_i hp
      rw [ih]
      constructor
      · rintro ⟨k, h1, h2, h3⟩; exact ⟨k, by omega, h2, h3⟩
      · rintro ⟨k, h1, h2, h3⟩
        by_cases e : k = n
        · subst e; exact absurd h2 hp
        · exact ⟨k, by omega, h2, h3⟩
theorem sel_in {p : Nat → Bool} {n s : Nat} (hs : s < n) : (anyB (sel p n).length fun i => decide ((sel p n).getD i 0 = (s : Int))) = p s := by
  rw [Bool.eq_iff_iff, anyB_true]
  constructor
  · rintro ⟨i, hi, he⟩
    have hm : (s : Int) ∈ sel p n := by
      rw [← of_decide_eq_true he, List.getD_eq_getElem?_getD, List.getElem?_eq_getElem hi]
      exact List.getElem_mem _
    obtain ⟨k, _, h2, h3⟩ := (sel_mem n).1 hm
    have : s = k := by omega
    rw [this]; exact h2
  · intro h
    obtain ⟨i, hi, he⟩ := List.getElem_of_mem ((sel_mem n).2 ⟨s, hs, h, rfl⟩)
    exact ⟨i, hi, by rw [List.getD_eq_getElem?_getD, List.getElem?_eq_getElem hi]; exact decide_eq_true he⟩
/-- what is lost was given once -/
theorem lost_one {B : SB} {g : List Nat} {f i : Nat} {n : Nat} (hi : i < (sel (lostP B g f) n).length) : ∃ s : Nat, (sel (lostP B g f) n).getD i 0 = (s : Int) ∧ s < n ∧ cS B g s = 1 := by
  have hm : (sel (lostP B g f) n).getD i 0 ∈ sel (lostP B g f) n := by
    rw [List.getD_eq_getElem?_getD, List.getElem?_eq_getElem hi]; exact List.getElem_mem _
  obtain ⟨k, h1, h2, h3⟩ := (sel_mem n).1 hm
  unfold lostP at h2
  rw [Bool.and_eq_true, decide_eq_true_eq] at h2
  exact ⟨k, h3, h1, h2.1⟩
theorem lost_is {B : SB} {g : List Nat} {f s : Nat} (hc : cT B g s f ≤ 1) : lostP B g f s = (decide (cS B g s = 1) && decide (cT B g s f = 1)) := by
  unfold lostP
  rw [cT_fr]
  congr 1
  exact decide_eq_decide.2 (by omega)

end Go.Proofs.Ytnnngbnimmcjiaa

namespace Go.Proofs.Ytnnngbnimmcjiaa
open Go.RowKit Go.WideShapes Go.ChangeShapes Go.Joins Go.Deep

theorem fromF_len' (n : Nat) (x : Nat → Int) : (fromF n x).length = n := by simp [fromF]
theorem append_none0 (w : World) {P : Program} {t ty e : TypeId} {i : TypeInfo} (ht : P.underlying t = some (.slice e)) (hi : P.info? e = some i) {v : Value} {base n : Nat} {xs : List Value} (A : Option Addr) (c : Nat) (hown : w.ownsRow base e 1 v n xs) :
    (Builtin.append_ #[t, t] ty #[v, .slice A 0 c]).run P w = .ok v w := by
  rcases hown.2 with ⟨rfl, rfl⟩ | ⟨g, cap, cur, rfl, _, _, hnc, _⟩
  · cases A <;> simp [Builtin.append_, run_underlying ht, sizeOf, typeInfo, hi, Builtin.lenOf, Builtin.firstCells, storeCells, loadCells, loadCellsFrom]
  · cases A <;> simp [Builtin.append_, run_underlying ht, sizeOf, typeInfo, hi, Builtin.lenOf, Builtin.firstCells, hnc, storeCells, loadCells, loadCellsFrom]
theorem grown_refl (w : World) (r : Option Nat) : w.grownBy w r := ⟨rfl, rfl, rfl, Nat.le_refl _, fun _ _ _ => rfl⟩

/-- append(l, xs...) of numbers -/
theorem wp_appendInts (w : World) {o : Oper} {a : Act} {K : Act → World → Prop} {Q : Exit → Act → World → Prop} (s x : Operand)
    (ho : o.op = .call { callee := .builtin .append, args := #[s, x], argTypes := #[22, 22] })
    (base : Nat) (v : Value) (l : List Int) (hs : a.eval s = v) (hown : OwnI base w v l) (N : Nat) (A : Option Addr) (m c : Nat) (X : Nat → Int) (hx : a.eval x = .slice A m c)
    (hi : IntsAt N w (.slice A m c) m X) (h40 : l.length + m ≤ 1000000) (hbase : base ≤ w.heap.size)
    (h : ∀ v' w', OwnI base w' v' (l ++ fromF m X) → Below base w w' → K (a.put o.dst v') w') : o.wp Try.prog a w K Q := by
  obtain ⟨i0, hi0, hz0, hz1, hz2⟩ := info_parts Try.infoInt
  rcases Nat.eq_zero_or_pos m with h0 | h0
  · subst h0
    have hrun := append_none0 w (P := Try.prog) (ty := o.type) Try.underlying22 hi0 A c hown
    have hk := h v w (by simpa [fromF] using hown) (Below.refl _ _)
    unfold Oper.wp execOp
    simp only [ho, resolve, invoke, builtin, Sem.run_bind, Sem.run_pure, Result.andThen_ok, List.map_toArray, List.map_cons, List.map_nil, hs, hx, hrun]
    exact hk
  · obtain ⟨b, off, e, hb, hr⟩ := hi.cells h0
    cases e
    refine wp_append_own w s x 22 ho base 3 i0 (.int .i64 0) 1 8 Try.underlying22 hi0 hz0 hz1 hz2 rfl (by decide) v l.length _ hs hown ⟨b, off, none⟩ m c ((fromF m X).map (Value.int .i64)) hx (by simp [fromF]) (fun j u hj => ?_) (by simp [Value.oneCell']) (by unfold maxLen; omega) (by omega) hbase fun v' w' h1 h2 _ => h v' w' ?_ ((Below.refl _ _).grown h2 hbase fun j e => (hown.lt j e).1)
    · have hjm : j < m := by
        have := (List.getElem?_eq_some_iff.1 hj).1
        simpa [fromF] using this
      have hu : u = .int .i64 (X j) := by
        rw [List.getElem?_map] at hj
        simp [fromF, hjm] at hj
        exact hj.symm
      have e : (⟨b, off, none⟩ : Addr).add j = ⟨b, off + j, none⟩ := by unfold Addr.add; split <;> simp_all
      rw [hu, e]
      exact hr j hjm
    · unfold OwnI
      rw [List.length_append, List.map_append, fromF_len']
      exact h1
theorem own_empty {W : World} {base g : Nat} (hg : base ≤ g) (h : W.heap[g]? = some (.cells #[] 3)) : OwnI base W (.slice (some ⟨g, 0, none⟩) 0 0) [] :=
  ⟨rfl, .inr ⟨g, 0, #[], rfl, hg, h, Nat.le_refl _, by unfold maxLen; omega, rfl, rfl⟩⟩
theorem own_list {N : Nat} {w : World} {v : Value} {l : List Int} {n : Nat} {x : Nat → Int} (h : OwnI N w v l) (hl : l = fromF n x) (hn : n ≤ 1000) : IntsAt w.heap.size w v n x := by
  subst hl
  have h1 := h.ints (by rw [fromF_len']; omega)
  rw [fromF_len'] at h1
  obtain ⟨ao, cap, rfl, h1, h2⟩ := h1
  refine ⟨ao, cap, rfl, h1, fun h0 => ?_⟩
  obtain ⟨b, off, rfl, hb, hr⟩ := h2 h0
  exact ⟨b, off, rfl, hb, fun i hi => by obtain ⟨r, h3, rfl⟩ := hr i hi; exact ⟨_, h3, by simp [fromF, hi]⟩⟩
theorem fromF_two (p q : Nat) (x y : Nat → Int) : fromF p x ++ fromF q y = fromF (p + q) (fun i => if i < p then x i else y (i - p)) := by
  apply List.ext_getElem
  · simp [fromF]
  · intro i h1 h2
    by_cases h : i < p
    · rw [List.getElem_append_left (by rw [fromF_len']; exact h)]; simp [fromF, h]
    · rw [List.getElem_append_right (by rw [fromF_len']; omega)]; simp [fromF, h]
theorem fromF_congr {n : Nat} {x y : Nat → Int} (h : ∀ i, i < n → x i = y i) : fromF n x = fromF n y := by
  unfold fromF
  exact List.map_congr_left fun i hi => h i (List.mem_range.1 hi)
theorem fromF_drop {n p : Nat} (x : Nat → Int) (hp : p < n) : ([] ++ fromF p x) ++ fromF (n - (p + 1)) (fun i => x (p + 1 + i)) = fromF (n - 1) (dropX x p) := by
  rw [List.nil_append, fromF_two, show p + (n - (p + 1)) = n - 1 by omega]
  refine fromF_congr fun i hi => ?_
  unfold dropX
  split
  · rfl
  · congr 1; omega

/-- the first ones of a list -/
theorem IntsAt.take {N : Nat} {w : World} {a : Option Addr} {c n : Nat} {x : Nat → Int} (h : IntsAt N w (.slice a n c) n x) {k : Nat} (hk : k ≤ n) : IntsAt N w (.slice a k c) k x := by
  obtain ⟨_, _, e, h1, h3⟩ := h
  cases e
  refine ⟨_, _, rfl, by omega, fun h0 => ?_⟩
  obtain ⟨b, off, e, hb, hr⟩ := h3 (by omega)
  exact ⟨b, off, e, hb, fun i hi => hr i (by omega)⟩
/-- .. and those behind some -/
theorem IntsAt.behind {N : Nat} {w : World} {b off c n : Nat} {x : Nat → Int} (h : IntsAt N w (.slice (some ⟨b, off, none⟩) n c) n x) {k : Nat} (hk : k ≤ n) (d : Nat) (ad : Addr) (had : k < n → ad = ⟨b, off + k, none⟩) : IntsAt N w (.slice (some ad) (n - k) d) (n - k) (fun i => x (k + i)) := by
  obtain ⟨_, _, e, h1, h3⟩ := h
  cases e
  refine ⟨_, _, rfl, by omega, fun h0 => ?_⟩
  obtain ⟨b', off', e, hb, hr⟩ := h3 (by omega)
  cases e
  exact ⟨b, off + k, by rw [had (by omega)], hb, fun i hi => by rw [Nat.add_assoc]; exact hr (k + i) (by omega)⟩

section
variable {H : Type} {enc : TypeId × Value → H}
set_option maxRecDepth 100000 in
theorem open_list1c {w : World} {v : Value} {base : Nat} {d : DataW H} {ps : List MemPlace} (hv : Value.okWide Try.prog w .any base 22 v)
    (h : DataW.Trod enc Try.prog w 0 (fun _ => true) true 22 v d ps) (hw : ∀ n ∈ d.weights Try.prog 22, n ≤ reachBytes) (hlt : ∀ p ∈ ps, p.block < w.heap.size) :
    ∃ a n c x, v = .slice a n c ∧ n ≤ c ∧ IntsAt w.heap.size w (.slice a n c) n x := by
  obtain ⟨fuel, h⟩ := h
  obtain ⟨ao, n, cap, X, hcs, hr⟩ := open_ints' Try.underlying22 Try.underlying3 (by kernel_rfl) (by decide +kernel) h hw hlt
  refine ⟨ao, n, cap, X, okWide_slice Try.underlying22 hv hcs, ?_, hr⟩
  rcases open_slice Try.underlying22 h with ⟨e, _⟩ | ⟨a, len, cap', m, n', D, Pl, e, hb, hl, _⟩
  · rw [hcs] at e; cases e; exact Nat.le_refl _
  · rw [hcs] at e; cases e; exact hl
end

end Go.Proofs.Ytnnngbnimmcjiaa
