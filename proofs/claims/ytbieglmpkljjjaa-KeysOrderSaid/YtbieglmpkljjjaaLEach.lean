/-
  LEach: what KeysEach asks of a walk.
-/
import Derived.Test.YtbieglmpkljjjaaLWalk
namespace Go.Proofs.Ytbieglmpkljjjaa
open Go.RowKit

/-- a walk of n nodes g -/
structure WalkF (B : KB) (x : Nat → Int) (n : Nat) (g : Nat → Nat) : Prop where
  n1 : 1 ≤ n
  len : n ≤ B.D.n
  g0 : g 0 = 0
  lt : ∀ i, i < n → g i < B.D.n
  asc : ∀ i, i + 1 < n → g i < g (i + 1)
  mark : ∀ i, i < n → (B.D.M (g i) = -1 ↔ i + 1 = n)
  sort : endOf B.D x = B.D.S (g (n - 1))
  low : lowF B (allX B) ≤ (n : Int) - 1
  high : (n : Int) - 1 ≤ highF B (allX B)
  mem : ∀ k, k ∈ walk B.D x ↔ ∃ i, i < n ∧ g i = k

theorem wk_mark {nv : Nat} {V : Nat → Int} {ns : Nat} {D : Nd} {n : Nat} {x : Nat → Int} (hD : GoodN nv V ns D) (hx : GoodX nv V n x) : ∀ (f i : Nat), D.n - i ≤ f → i < D.n →
    (∀ j, j < (wk D x i).length → (wk D x i).getD j 0 < D.n ∧ (D.M ((wk D x i).getD j 0) = -1 ↔ j + 1 = (wk D x i).length)) ∧ (wk D x i).getD 0 0 = i ∧ 1 ≤ (wk D x i).length := by
  intro f
  induction f with
  | zero => intro i _ _; omega
  | succ f ih =>
    intro i hf hi
    by_cases hm : D.M i = -1
    · rw [wk_stop hD hi hm]
      refine ⟨fun j hj => ?_, rfl, by simp⟩
      obtain rfl : j = 0 := by simpa using hj
      simp [hi, hm]
    · obtain ⟨h1, h2, _⟩ := nxt_ok hD hx hi hm
      rw [wk_go hD hx hi hm]
      obtain ⟨a, b, c⟩ := ih (nxt D x i) (by omega) h2
      refine ⟨fun j hj => ?_, rfl, by simp⟩
      cases j with
      | zero => simp only [List.getD_cons_zero, List.length_cons]; exact ⟨hi, ⟨fun h => absurd h hm, fun h => by omega⟩⟩
      | succ j =>
        obtain ⟨p, q⟩ := a j (by simpa using hj)
        simp only [List.getD_cons_succ, List.length_cons]
        exact ⟨p, q.trans ⟨fun h => by omega, fun h => by omega⟩⟩
theorem getD_mem' {l : List Nat} {k : Nat} : k ∈ l ↔ ∃ i, i < l.length ∧ l.getD i 0 = k := by
  rw [List.mem_iff_getElem]
  constructor
  · rintro ⟨i, hi, e⟩; exact ⟨i, hi, by simp [List.getD, hi, e]⟩
  · rintro ⟨i, hi, e⟩; exact ⟨i, hi, by simpa [List.getD, hi] using e⟩

theorem walkF {B : KB} {nx : Nat} {x : Nat → Int} (hG : GoodB B) (hX : GoodX B.nv B.V nx x) : WalkF B x (walk B.D x).length (fun i => (walk B.D x).getD i 0) := by
  obtain ⟨hm, h0, h1⟩ := wk_mark hG.D hX B.D.n 0 (by omega) hG.D.n1
  rw [← walk_wk] at hm h0 h1
  have hasc := walk_asc hG.D hX
  obtain ⟨pre, k, e, hk, hkm, _, he⟩ := walk_last hG.D hX
  have hq : quest B x = quest B (atL (fromF B.nv x)) := by
    unfold quest
    rw [walk_congr hG.D hX (y := atL (fromF B.nv x)) fun i hi => by simp [atL, fromF, List.getD, hi]]
  have hmem : atL (fromF B.nv x) ∈ allX B := by
    refine List.mem_map.2 ⟨_, (allF_mem B _).2 ⟨by simp [fromF], fun i hi => ?_⟩, rfl⟩
    have e : atL (fromF B.nv x) i = x i := by simp [atL, fromF, List.getD, hi]
    rw [e]
    exact ⟨(hX.x i hi).1, (hX.x i hi).2, fun h => absurd rfl h⟩
  refine ⟨h1, walk_len hG.D hX, h0, fun i hi => (hm i hi).1, fun i hi => ?_, fun i hi => (hm i hi).2, ?_, ?_, ?_, fun k => getD_mem'⟩
  · have := List.pairwise_iff_getElem.1 hasc i (i + 1) (by omega) hi (by omega)
    simpa [List.getD, show i < (walk B.D x).length by omega, hi] using this
  · rw [he, e]; simp [List.getD]
  · have := ((foldmin (quest B) (allX B) B.D.n).1.2 _ hmem)
    rw [← hq] at this
    exact this
  · have := ((foldmax (quest B) (allX B) 0).1.2 _ hmem)
    rw [← hq] at this
    exact this

theorem own_nats {N : Nat} {w : World} {v : Value} {L : List Nat} (h : OwnI N w v (ints L)) (h1 : 1 ≤ L.length) (hl : L.length ≤ 140737488351232) :
    ∃ b c, v = .slice (some ⟨b, 0, none⟩) L.length c ∧ b < w.heap.size ∧ ∀ i, i < L.length → w.cell? ⟨b, i, none⟩ = some (.int .i64 (L.getD i 0 : Nat)) := by
  obtain ⟨ha, ⟨_, h2⟩ | ⟨g, cap, cur, rfl, h3, h4, h5, h6, h7, h8⟩⟩ := id h
  · rw [ints_len] at h2; omega
  · refine ⟨g, cap, by rw [ints_len], heap_lt h4, fun i hi => ?_⟩
    refine own_cell h i ?_
    simp [ints, List.getD, hi]

theorem lowF_range {B : KB} (hG : GoodB B) : 0 ≤ lowF B (allX B) := (foldmin (quest B) (allX B) B.D.n).2 0 (by omega) fun x hx => (quest_bd hG hx).1

theorem sel_mem (p : Nat → Bool) : ∀ (n : Nat) (z : Int), z ∈ sel p n ↔ ∃ i, i < n ∧ p i = true ∧ z = (i : Int) := by
  intro n
  induction n with
  | zero => intro z; simp [sel]
  | succ n ih =>
    intro z
    cases hp : p n with
    | true =>
      rw [sel_hit hp, List.mem_append, ih, List.mem_singleton]
      constructor
      · rintro (⟨i, h1, h2, h3⟩ | h)
        · exact ⟨i, by omega, h2, h3⟩
        · exact ⟨n, by omega, hp, h⟩
      · rintro ⟨i, h1, h2, h3⟩
        by_cases e : i = n
        · subst e; exact .inr h3
        · exact .inl ⟨i, by omega, h2, h3⟩
    | false =>
      rw [sel_miss hp, ih]
      constructor
      · rintro ⟨i, h1, h2, h3⟩; exact ⟨i, by omega, h2, h3⟩
      · rintro ⟨i, h1, h2, h3⟩
        by_cases e : i = n
        · subst e; rw [hp] at h2; cases h2
        · exact ⟨i, by omega, h2, h3⟩
theorem sel_contains (p : Nat → Bool) {n i : Nat} (hi : i < n) : (sel p n).contains (i : Int) = p i := by
  rw [Bool.eq_iff_iff, List.contains_iff_mem, sel_mem]
  constructor
  · rintro ⟨j, _, h2, h3⟩
    have : i = j := by omega
    rw [this]; exact h2
  · intro h; exact ⟨i, hi, h, rfl⟩

end Go.Proofs.Ytbieglmpkljjjaa
