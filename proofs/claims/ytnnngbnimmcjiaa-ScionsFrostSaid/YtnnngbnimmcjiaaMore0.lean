/-
  More0: one more scion, place, or want, in words of lists.
-/
import Derived.Test.YtnnngbnimmcjiaaRare
import Derived.Test.YtnnngbnimmcjiaaLBest
import Derived.Test.YtnnngbnimmcjiaaFitIff
namespace Go.Proofs.Ytnnngbnimmcjiaa
open Go.RowKit

/-- one scion of a sort more -/
def moreC (B : SB) (s : Nat) : SB := { B with C := fun i => if i = s then B.C i + 1 else B.C i }
/-- one want more -/
def moreW (B : SB) (a s : Int) : SB := { B with nw := B.nw + 1, G := fun i => if i = B.nw then a else B.G i, S := fun i => if i = B.nw then s else B.S i }

theorem gifts_iff {B : SB} {g : List Nat} : g ∈ giftsL B ↔ fitL B g = true ∧ (∀ k, k ∈ g → k < B.nw) ∧ g.Pairwise (· < ·) :=
  ⟨fun h => ⟨(giftsL_ok h).fit, fun k hk => by have := (giftsL_ok h).lt k hk; have := (giftsL_ok h).top; omega, giftsL_up h⟩, fun h => giftsL_all h.1 h.2.1 h.2.2⟩
theorem sum_gift {B : SB} {p : Nat} (hG : GoodL B p) {g : List Nat} (h : g ∈ giftsL B) : sumG B g = g.length := sum_len hG _ _ rfl (gifts_iff.1 h).2.1
/-- a greatest one -/
theorem sumN_ge {B : SB} {p : Nat} (hG : GoodL B p) {g : List Nat} (h : g ∈ giftsL B) : g.length ≤ sumN B := by
  rw [← sum_gift hG h]; exact best_ge (f := sumG B) _ _ h
theorem sumN_is {B : SB} {p : Nat} (hG : GoodL B p) : ∃ g, g ∈ giftsL B ∧ sumN B = g.length := ⟨_, best_in (sumG B), sum_gift hG (best_in (sumG B))⟩

theorem erase_count {p : Nat → Bool} {k : Nat} : ∀ (g : List Nat), k ∈ g → g.countP p = (g.erase k).countP p + (if p k = true then 1 else 0) := by
  intro g
  induction g with
  | nil => intro h; cases h
  | cons a l ih =>
    intro h
    rw [List.erase_cons]
    by_cases e : a = k
    · subst e
      rw [if_pos (by simp), List.countP_cons]
    · have hm : k ∈ l := by
        rcases List.mem_cons.1 h with h | h
        · exact absurd h.symm e
        · exact h
      rw [if_neg (by simpa using e), List.countP_cons, List.countP_cons, ih hm]
      omega

/-- one scion more: what fitted fits -/
theorem moreC_fit {B : SB} {p : Nat} {s : Nat} (hG : GoodL B p) (hG' : GoodL (moreC B s) p) {g : List Nat} (h : g ∈ giftsL B) : g ∈ giftsL (moreC B s) := by
  obtain ⟨hf, hk, hp⟩ := gifts_iff.1 h
  obtain ⟨h1, h2, h3⟩ := (fit_iff hG _ g rfl hk).1 hf
  refine gifts_iff.2 ⟨(fit_iff hG' _ g rfl hk).2 ⟨fun i hi => ?_, h2, h3⟩, hk, hp⟩
  have := h1 i hi
  show ((cS B g i : Nat) : Int) ≤ if i = s then B.C i + 1 else B.C i
  split <;> omega
theorem moreC_cut {B : SB} {p : Nat} {s : Nat} (hG : GoodL B p) (hG' : GoodL (moreC B s) p) {g : List Nat} (h : g ∈ giftsL (moreC B s)) : ∃ m, m ∈ giftsL B ∧ g.length ≤ m.length + 1 := by
  obtain ⟨hf, hk, hp⟩ := gifts_iff.1 h
  obtain ⟨h1, h2, h3⟩ := (fit_iff hG' _ g rfl hk).1 hf
  have h1' : ∀ i, i < B.ns → ((cS B g i : Nat) : Int) ≤ if i = s then B.C i + 1 else B.C i := h1
  by_cases hs : ∃ k, k ∈ g ∧ B.sN k = s
  · obtain ⟨k, hkg, hks⟩ := hs
    have hsub : (g.erase k).Sublist g := List.erase_sublist
    have hk' : ∀ j, j ∈ g.erase k → j < B.nw := fun j hj => hk j (hsub.subset hj)
    refine ⟨g.erase k, gifts_iff.2 ⟨(fit_iff hG _ _ rfl hk').2 ⟨fun i hi => ?_, fun a ha => ?_, fun t f => ?_⟩, hk', hp.sublist hsub⟩, ?_⟩
    · have := h1' i hi
      have e : cS B g i = cS B (g.erase k) i + (if (B.sN k == i) = true then 1 else 0) := erase_count (p := fun k => B.sN k == i) g hkg
      rw [hks] at e
      by_cases ei : i = s
      · subst ei
        rw [if_pos rfl] at this
        rw [if_pos (by simp)] at e
        omega
      · rw [if_neg ei] at this
        rw [if_neg (by simpa using fun e => ei e.symm)] at e
        omega
    · have := h2 a ha
      have e : cG B (g.erase k) a ≤ cG B g a := hsub.countP_le
      have this' : ((cG B g a : Nat) : Int) ≤ B.P a := this
      omega
    · have := h3 t f
      have e : cT B (g.erase k) t f ≤ cT B g t f := hsub.countP_le
      have this' : cT B g t f ≤ 1 := this
      omega
    · rw [List.length_erase_of_mem hkg]; omega
  · have h0 : cS B g s = 0 := by
      unfold cS
      rw [List.countP_eq_zero]
      intro k hkg e
      exact hs ⟨k, hkg, by simpa using e⟩
    refine ⟨g, gifts_iff.2 ⟨(fit_iff hG _ g rfl hk).2 ⟨fun i hi => ?_, h2, h3⟩, hk, hp⟩, by omega⟩
    have := h1' i hi
    by_cases ei : i = s
    · subst ei; rw [h0]; have := (hG.C i hi).1; omega
    · rw [if_neg ei] at this; exact this
theorem moreC_sum {B : SB} {p : Nat} {s : Nat} (hG : GoodL B p) (hG' : GoodL (moreC B s) p) : sumN B ≤ sumN (moreC B s) ∧ sumN (moreC B s) ≤ sumN B + 1 := by
  constructor
  · obtain ⟨g, hg, e⟩ := sumN_is hG
    rw [e]; exact sumN_ge hG' (moreC_fit hG hG' hg)
  · obtain ⟨g, hg, e⟩ := sumN_is hG'
    obtain ⟨m, hm, hl⟩ := moreC_cut hG hG' hg
    have := sumN_ge hG hm
    omega

/-- one place more -/
theorem plusB_fit {B : SB} {p : Nat} {a : Nat} (hG : GoodL B p) {g : List Nat} (h : g ∈ giftsL B) : g ∈ giftsL (plusB B a) := by
  have hG' := plusB_good hG a
  obtain ⟨hf, hk, hp⟩ := gifts_iff.1 h
  obtain ⟨h1, h2, h3⟩ := (fit_iff hG _ g rfl hk).1 hf
  refine gifts_iff.2 ⟨(fit_iff hG' _ g rfl hk).2 ⟨h1, fun i hi => ?_, h3⟩, hk, hp⟩
  have := h2 i hi
  show ((cG B g i : Nat) : Int) ≤ if i = a then B.P i + 1 else B.P i
  split <;> omega
theorem plusB_cut {B : SB} {p : Nat} {a : Nat} (hG : GoodL B p) {g : List Nat} (h : g ∈ giftsL (plusB B a)) : ∃ m, m ∈ giftsL B ∧ g.length ≤ m.length + 1 := by
  have hG' := plusB_good hG a
  obtain ⟨hf, hk, hp⟩ := gifts_iff.1 h
  obtain ⟨h1, h2, h3⟩ := (fit_iff hG' _ g rfl hk).1 hf
  have h2' : ∀ i, i < B.ng → ((cG B g i : Nat) : Int) ≤ if i = a then B.P i + 1 else B.P i := h2
  by_cases hs : ∃ k, k ∈ g ∧ B.gN k = a
  · obtain ⟨k, hkg, hks⟩ := hs
    have hsub : (g.erase k).Sublist g := List.erase_sublist
    have hk' : ∀ j, j ∈ g.erase k → j < B.nw := fun j hj => hk j (hsub.subset hj)
    refine ⟨g.erase k, gifts_iff.2 ⟨(fit_iff hG _ _ rfl hk').2 ⟨fun i hi => ?_, fun i hi => ?_, fun t f => ?_⟩, hk', hp.sublist hsub⟩, ?_⟩
    · have := h1 i hi
      have e : cS B (g.erase k) i ≤ cS B g i := hsub.countP_le
      have this' : ((cS B g i : Nat) : Int) ≤ B.C i := this
      omega
    · have := h2' i hi
      have e : cG B g i = cG B (g.erase k) i + (if (B.gN k == i) = true then 1 else 0) := erase_count (p := fun k => B.gN k == i) g hkg
      rw [hks] at e
      by_cases ei : i = a
      · subst ei
        rw [if_pos rfl] at this
        rw [if_pos (by simp)] at e
        omega
      · rw [if_neg ei] at this
        rw [if_neg (by simpa using fun e => ei e.symm)] at e
        omega
    · have := h3 t f
      have e : cT B (g.erase k) t f ≤ cT B g t f := hsub.countP_le
      have this' : cT B g t f ≤ 1 := this
      omega
    · rw [List.length_erase_of_mem hkg]; omega
  · have h0 : cG B g a = 0 := by
      unfold cG
      rw [List.countP_eq_zero]
      intro k hkg e
      exact hs ⟨k, hkg, by simpa using e⟩
    refine ⟨g, gifts_iff.2 ⟨(fit_iff hG _ g rfl hk).2 ⟨h1, fun i hi => ?_, h3⟩, hk, hp⟩, by omega⟩
    have := h2' i hi
    by_cases ei : i = a
    · subst ei; rw [h0]; have := (hG.P i hi).1; omega
    · rw [if_neg ei] at this; exact this
theorem plusB_sum {B : SB} {p : Nat} {a : Nat} (hG : GoodL B p) : sumN B ≤ sumN (plusB B a) ∧ sumN (plusB B a) ≤ sumN B + 1 := by
  constructor
  · obtain ⟨g, hg, e⟩ := sumN_is hG
    rw [e]; exact sumN_ge (plusB_good hG a) (plusB_fit hG hg)
  · obtain ⟨g, hg, e⟩ := sumN_is (plusB_good hG a)
    obtain ⟨m, hm, hl⟩ := plusB_cut hG hg
    have := sumN_ge hG hm
    omega

/-- the best is not worse if whatever fits still does -/
theorem rank_more {B B' : SB} (hcS : ∀ g, cS B' g = cS B g) (h : ∀ g, g ∈ giftsL B → g ∈ giftsL B') : rankG B (bestL (rankG B) (giftsL B)) ≤ rankG B' (bestL (rankG B') (giftsL B')) := by
  have h1 := best_ge (f := rankG B') _ _ (h _ (best_in (rankG B)))
  have h2 : rankG B' (bestL (rankG B) (giftsL B)) = rankG B (bestL (rankG B) (giftsL B)) := by unfold rankG; rw [hcS]
  omega
theorem rank_more_no {B B' : SB} (hG : GoodL B 4) (hG' : GoodL B' 4) (hns : B'.ns = B.ns) (hcS : ∀ g, cS B' g = cS B g) (h : ∀ g, g ∈ giftsL B → g ∈ giftsL B') :
    decide (rankC (cS B' (bestL (rankG B') (giftsL B'))) B.ns < rankC (cS B (bestL (rankG B) (giftsL B))) B.ns) = false := by
  have h1 := rank_more hcS h
  have ok1 := giftsL_ok (best_in (B := B) (rankG B))
  have ok2 := giftsL_ok (best_in (B := B') (rankG B'))
  have hc2 := ok2.cS0 hG'
  rw [hns] at hc2
  have h2 := rank_pad (c := cS B (bestL (rankG B) (giftsL B))) (d := cS B' (bestL (rankG B') (giftsL B'))) (n := B.ns) (ok1.cS0 hG) hc2 (4 - B.ns)
  have := hG.ns
  rw [show B.ns + (4 - B.ns) = 4 by omega] at h2
  refine decide_eq_false fun hl => ?_
  have h3 := h2.2 hl
  change rankC _ 4 ≤ rankC _ 4 at h1
  omega

/-- one want more -/
theorem count_congr {p q : Nat → Bool} {g : List Nat} (h : ∀ k, k ∈ g → p k = q k) : g.countP p = g.countP q := List.countP_congr fun k hk => by rw [h k hk]
theorem moreW_sN {B : SB} {a s : Int} {k : Nat} (hk : k < B.nw) : (moreW B a s).sN k = B.sN k := by
  show Int.toNat (if k = B.nw then s else B.S k) = _
  rw [if_neg (by omega)]; rfl
theorem moreW_gN {B : SB} {a s : Int} {k : Nat} (hk : k < B.nw) : (moreW B a s).gN k = B.gN k := by
  show Int.toNat (if k = B.nw then a else B.G k) = _
  rw [if_neg (by omega)]; rfl
theorem moreW_fN {B : SB} {a s : Int} {k : Nat} (hk : k < B.nw) : (moreW B a s).fN k = B.fN k := by
  show Int.toNat (B.F ((moreW B a s).gN k)) = _
  rw [moreW_gN hk]; rfl
theorem moreW_cS {B : SB} {a s : Int} {g : List Nat} (hk : ∀ k, k ∈ g → k < B.nw) (i : Nat) : cS (moreW B a s) g i = cS B g i := count_congr fun k h => by rw [moreW_sN (hk k h)]
theorem moreW_cG {B : SB} {a s : Int} {g : List Nat} (hk : ∀ k, k ∈ g → k < B.nw) (i : Nat) : cG (moreW B a s) g i = cG B g i := count_congr fun k h => by rw [moreW_gN (hk k h)]
theorem moreW_cT {B : SB} {a s : Int} {g : List Nat} (hk : ∀ k, k ∈ g → k < B.nw) (i f : Nat) : cT (moreW B a s) g i f = cT B g i f := count_congr fun k h => by rw [moreW_sN (hk k h), moreW_fN (hk k h)]
theorem moreW_fit {B : SB} {p : Nat} {a s : Int} (hG : GoodL B p) (hG' : GoodL (moreW B a s) p) {g : List Nat} (h : g ∈ giftsL B) : g ∈ giftsL (moreW B a s) := by
  obtain ⟨hf, hk, hp⟩ := gifts_iff.1 h
  obtain ⟨h1, h2, h3⟩ := (fit_iff hG _ g rfl hk).1 hf
  have hk' : ∀ k, k ∈ g → k < (moreW B a s).nw := fun k h => by have := hk k h; show k < B.nw + 1; omega
  refine gifts_iff.2 ⟨(fit_iff hG' _ g rfl hk').2 ⟨fun i hi => ?_, fun i hi => ?_, fun t f => ?_⟩, hk', hp⟩
  · rw [moreW_cS hk]; exact h1 i hi
  · rw [moreW_cG hk]; exact h2 i hi
  · rw [moreW_cT hk]; exact h3 t f
theorem moreW_sum {B : SB} {p : Nat} {a s : Int} (hG : GoodL B p) (hG' : GoodL (moreW B a s) p) : sumN B ≤ sumN (moreW B a s) := by
  obtain ⟨g, hg, e⟩ := sumN_is hG
  rw [e]; exact sumN_ge hG' (moreW_fit hG hG' hg)
theorem moreW_safe {B : SB} {p : Nat} {a s : Int} (hG : GoodL B p) (hG' : GoodL (moreW B a s) p) : safeN B ≤ safeN (moreW B a s) := by
  have hg := best_in (B := B) (safeG B)
  have h1 := best_ge (f := safeG (moreW B a s)) _ _ (moreW_fit hG hG' hg)
  have h2 : safeG (moreW B a s) (bestL (safeG B) (giftsL B)) = safeG B (bestL (safeG B) (giftsL B)) := by
    unfold safeG
    congr 1
    funext i
    exact moreW_cS (gifts_iff.1 hg).2.1 i
  show safeG B _ ≤ safeG (moreW B a s) _
  omega
theorem moreW_alone {B : SB} {p : Nat} {a s : Int} (hG : GoodL B p) (hG' : GoodL (moreW B a s) p) (i : Nat) : aloneN B i ≤ aloneN (moreW B a s) i := by
  have hg := best_in (B := B) (fun g => cS B g i)
  have h1 := alone_ge (moreW_fit hG hG' hg) i
  rw [moreW_cS (gifts_iff.1 hg).2.1] at h1
  exact h1

end Go.Proofs.Ytnnngbnimmcjiaa
