/-
  Twice2: a number is put into a node of a book in memory of the call's own.
-/
import Derived.Test.YtbieglmpkljjjaaTwice1
namespace Go.Proofs.Ytbieglmpkljjjaa
open Go.RowKit

def withT (B : KB) (T : Nat → Nat → Int) : KB := { B with D := { B.D with T := T } }
def putT (T : Nat → Nat → Int) (k j : Nat) (z : Int) : Nat → Nat → Int := fun a c => if a = k ∧ c = j then z else T a c

theorem RowIn.congr {w : World} {lo hi : Nat} {r : Value} {n : Nat} {x y : Nat → Int} (h : RowIn w lo hi r n x) (e : ∀ i, i < n → x i = y i) : RowIn w lo hi r n y := by
  obtain ⟨g, cap, rfl, k⟩ := h
  refine ⟨g, cap, rfl, fun h0 => ?_⟩
  obtain ⟨a, b, cur, c, d, f, s, t⟩ := k h0
  exact ⟨a, b, cur, c, d, f, s, fun i hi => by rw [← e i hi]; exact t i hi⟩
theorem setCell_heap_same {w : World} {g j : Nat} {cur : Array Value} {t : TypeId} (h : w.heap[g]? = some (.cells cur t (0, 0))) (v : Value) : (w.setCell ⟨g, j, none⟩ v).heap[g]? = some (.cells (cur.setIfInBounds j v) t (0, 0)) := by
  simp [World.setCell, Array.getElem?_modify, h]
theorem RowIn.put {w : World} {lo hi g cap n j : Nat} {x : Nat → Int} (h : RowIn w lo hi (.slice (some ⟨g, 0, none⟩) n cap) n x) (hj : j < n) (z : Int) : RowIn (w.setCell ⟨g, j, none⟩ (.int .i64 z)) lo hi (.slice (some ⟨g, 0, none⟩) n cap) n (fun i => if i = j then z else x i) := by
  obtain ⟨g', cap', e, k⟩ := h
  cases e
  refine ⟨g, cap, rfl, fun h0 => ?_⟩
  obtain ⟨a, b, cur, c, d, f, s, t⟩ := k h0
  refine ⟨a, b, _, setCell_heap_same c _, d, f, by simpa using s, fun i hi => ?_⟩
  rw [Array.getElem?_setIfInBounds]
  by_cases e : j = i
  · subst e; simp [s]; omega
  · rw [if_neg e, t i hi]; simp only; rw [if_neg (by omega)]

theorem NodesIn.congr {w : World} {lo hi : Nat} {v : Value} {D : Nd} {k : Nat} {T : Nat → Nat → Int} (h : NodesIn w lo hi v D k) (e : ∀ i, i < k → ∀ j, j < D.q i → D.T i j = T i j) : NodesIn w lo hi v { D with T := T } k := by
  obtain ⟨g, cap, r, M, e1, k1, k2, k3, k4, k5, k6⟩ := h
  exact ⟨g, cap, r, M, e1, k1, k2, k3, k4, k5, fun i hi => (k6 i hi).congr fun j hj => e i hi j hj⟩

/-- the list of a node, and what becomes of the nodes when a number is put into it -/
theorem NodesIn.row {w : World} {lo hi g cap : Nat} {D : Nd} (h : NodesIn w lo hi (.slice (some ⟨g, 0, none⟩) D.n cap) D D.n) {k : Nat} (hk : k < D.n) :
    ∃ gk ck, lo ≤ g ∧ g < hi ∧ g < w.heap.size ∧ w.cell? ⟨g, k * 3 + 2, none⟩ = some (.slice (some ⟨gk, 0, none⟩) (D.q k) ck) ∧ ∀ j, j < D.q k → lo ≤ gk ∧ gk < hi ∧ gk < w.heap.size ∧ w.cell? ⟨gk, j, none⟩ = some (.int .i64 (D.T k j)) ∧ w.frozen? ⟨gk, j, none⟩ = false ∧
      ∀ z : Int, NodesIn (w.setCell ⟨gk, j, none⟩ (.int .i64 z)) lo hi (.slice (some ⟨g, 0, none⟩) D.n cap) { D with T := putT D.T k j z } D.n := by
  obtain ⟨g', cap', r, M, e, k1, k2, k3, k4, k5, k6⟩ := h
  cases e
  have hm := mono_M k4
  have h0n := hm 0 D.n (Nat.zero_le _) (Nat.le_refl _)
  obtain ⟨cur, a, b⟩ := k5 (by omega)
  have hr := k6 k hk
  obtain ⟨gk, ck, e, hrow⟩ := id hr
  refine ⟨gk, ck, k1, by omega, heap_lt a, cell_blk a _ (by rw [b _ (by omega), ndCell2, e]), fun j hj => ?_⟩
  obtain ⟨p1, p2, cu, p3, p4, p5, p6, p7⟩ := hrow (by omega)
  have e0 := hm 0 k (Nat.zero_le _) (by omega)
  have e1 := hm (k + 1) D.n (by omega) (Nat.le_refl _)
  refine ⟨by omega, by omega, heap_lt p3, cell_blk p3 j (p7 j hj), frozen_blk p3 j, fun z => ⟨g, cap, r, M, rfl, k1, k2, k3, k4, fun _ => ⟨cur, (Below.heap_setCell _ _ _ _ (by show g ≠ gk; omega)).trans a, b⟩, fun i hi => ?_⟩⟩
  by_cases ik : i = k
  · subst ik
    rw [e] at hr ⊢
    refine (hr.put hj z).congr fun c hc => ?_
    simp [putT]
  · have h1 : RowIn (w.setCell ⟨gk, j, none⟩ (.int .i64 z)) (M i) (M (i + 1)) (r i) (D.q i) (D.T i) := (k6 i hi).keep fun c cs hc1 hc2 _ => Below.heap_setCell _ _ _ _ (by
      show c ≠ gk
      rcases Nat.lt_trichotomy i k with h | h | h
      · have := hm (i + 1) k (by omega) (by omega); omega
      · exact absurd h ik
      · have := hm (k + 1) i (by omega) (by omega); omega)
    exact h1.congr fun c _ => by simp [putT, ik]

theorem OwnBook.grow {w w' : World} {lo hi : Nat} {v : Value} {B : KB} (h : OwnBook w lo hi v B) (hb : Below w.heap.size w w') : OwnBook w' lo hi v B := by
  obtain ⟨v1, v2, v3, m, e, h1, h2⟩ := h
  exact ⟨v1, v2, v3, m, e, h1.grow hb, h2.grow hb⟩
theorem OwnBook.wider {w : World} {lo hi hi' : Nat} {v : Value} {B : KB} (h : OwnBook w lo hi v B) (hh : hi ≤ hi') : OwnBook w lo hi' v B := by
  obtain ⟨v1, v2, v3, m, e, h1, h2⟩ := h
  exact ⟨v1, v2, v3, m, e, h1, h2.wider hh⟩
theorem OwnBook.congr {w : World} {lo hi : Nat} {v : Value} {B : KB} {T : Nat → Nat → Int} (h : OwnBook w lo hi v B) (e : ∀ i, i < B.D.n → ∀ j, j < B.D.q i → B.D.T i j = T i j) : OwnBook w lo hi v (withT B T) := by
  obtain ⟨v1, v2, v3, m, e1, ⟨mid, h1⟩, h2⟩ := h
  refine ⟨v1, v2, v3, m, e1, ⟨mid, ?_⟩, h2⟩
  rcases h1 with ⟨a, b⟩ | ⟨a, b⟩
  · exact .inl ⟨a, b.congr e⟩
  · exact .inr ⟨a.congr e, b⟩

theorem Pair.le {w : World} {lo hi : Nat} {a b : Value} {B : KB} (h : Pair w lo hi a b B) (h1 : 0 < B.nv) (h2 : 0 < B.D.n) : lo < hi := by
  obtain ⟨mid, ⟨⟨g, c, _, k⟩, ⟨g', _, _, M, _, k1, k2, k3, k4, _⟩⟩ | ⟨⟨g', _, _, M, _, k1, k2, k3, k4, _⟩, ⟨g, c, _, k⟩⟩⟩ := h
  · obtain ⟨p, q, _⟩ := k h1; have := mono_M k4 0 B.D.n (Nat.zero_le _) (Nat.le_refl _); omega
  · obtain ⟨p, q, _⟩ := k h1; have := mono_M k4 0 B.D.n (Nat.zero_le _) (Nat.le_refl _); omega

/-- a node's list in a book of the call's own, and the book behind it when a number is put there -/
theorem OwnBook.row {w : World} {lo hi : Nat} {a1 a2 : Option Addr} {g d1 d2 d3 : Nat} {B : KB} (h : OwnBook w lo hi (.agg #[.slice a1 B.nv d1, .slice a2 B.ns d2, .slice (some ⟨g, 0, none⟩) B.D.n d3]) B) (hmh : 0 < B.nv) {k : Nat} (hk : k < B.D.n) :
    ∃ gk ck, lo ≤ g ∧ g < hi ∧ g < w.heap.size ∧ w.cell? ⟨g, k * 3 + 2, none⟩ = some (.slice (some ⟨gk, 0, none⟩) (B.D.q k) ck) ∧ ∀ j, j < B.D.q k → lo ≤ gk ∧ gk < hi ∧ gk < w.heap.size ∧ w.cell? ⟨gk, j, none⟩ = some (.int .i64 (B.D.T k j)) ∧ w.frozen? ⟨gk, j, none⟩ = false ∧
      ∀ z : Int, OwnBook (w.setCell ⟨gk, j, none⟩ (.int .i64 z)) lo hi (.agg #[.slice a1 B.nv d1, .slice a2 B.ns d2, .slice (some ⟨g, 0, none⟩) B.D.n d3]) (withT B (putT B.D.T k j z)) := by
  obtain ⟨v1, v2, v3, m, e, hp, h2⟩ := h
  cases e
  have hr2 : m ≤ hi := by
    obtain ⟨rows, M, _, _, _, p0, p1, p2, _⟩ := h2
    have := mono_M p2 0 B.ns (Nat.zero_le _) (Nat.le_refl _); omega
  obtain ⟨mid, hp⟩ := hp
  rcases hp with ⟨p1, p2⟩ | ⟨p2, p1⟩
  · obtain ⟨gk, ck, n1, n2, n3, n4, n5⟩ := p2.row hk
    have hlm : lo ≤ mid := by obtain ⟨_, _, _, q⟩ := p1; obtain ⟨q1, q2, _⟩ := q hmh; omega
    refine ⟨gk, ck, by omega, by omega, n3, n4, fun j hj => ?_⟩
    obtain ⟨r1, r2, r3, r4, r5, r6⟩ := n5 j hj
    refine ⟨by omega, by omega, r3, r4, r5, fun z => ⟨_, _, _, m, rfl, ⟨mid, .inl ⟨p1.keep fun c cs hc1 hc2 _ => Below.heap_setCell _ _ _ _ (by show c ≠ gk; omega), r6 z⟩⟩, h2.keep fun c cs t hc1 hc2 _ _ => Below.heap_setCell _ _ _ _ (by show c ≠ gk; omega)⟩⟩
  · obtain ⟨gk, ck, n1, n2, n3, n4, n5⟩ := p2.row hk
    have hlm : mid ≤ m := by obtain ⟨_, _, _, q⟩ := p1; obtain ⟨q1, q2, _⟩ := q hmh; omega
    refine ⟨gk, ck, by omega, by omega, n3, n4, fun j hj => ?_⟩
    obtain ⟨r1, r2, r3, r4, r5, r6⟩ := n5 j hj
    refine ⟨by omega, by omega, r3, r4, r5, fun z => ⟨_, _, _, m, rfl, ⟨mid, .inr ⟨r6 z, p1.keep fun c cs hc1 hc2 _ => Below.heap_setCell _ _ _ _ (by show c ≠ gk; omega)⟩⟩, h2.keep fun c cs t hc1 hc2 _ _ => Below.heap_setCell _ _ _ _ (by show c ≠ gk; omega)⟩⟩

/-- all but the own blocks from lo on, below hi, is as it was -/
def ButOwn (lo hi : Nat) (w w' : World) : Prop := w'.os = w.os ∧ w'.tape = w.tape ∧ w'.output = w.output ∧ w.heap.size ≤ w'.heap.size ∧ ∀ k, k < w.heap.size → (k < lo ∨ hi ≤ k) → w'.heap[k]? = w.heap[k]?
theorem ButOwn.refl (lo hi : Nat) (w : World) : ButOwn lo hi w w := ⟨rfl, rfl, rfl, Nat.le_refl _, fun _ _ _ => rfl⟩
theorem ButOwn.go {lo hi : Nat} {w w' w'' : World} (h : ButOwn lo hi w w') (k : Below w'.heap.size w' w'') : ButOwn lo hi w w'' :=
  ⟨k.os.trans h.1, k.tape.trans h.2.1, k.output.trans h.2.2.1, Nat.le_trans h.2.2.2.1 k.size, fun i hi1 hi2 => (k.block i (by have := h.2.2.2.1; omega)).trans (h.2.2.2.2 i hi1 hi2)⟩
theorem ButOwn.put {lo hi : Nat} {w w' : World} (h : ButOwn lo hi w w') {g j : Nat} (h1 : lo ≤ g) (h2 : g < hi) (v : Value) : ButOwn lo hi w (w'.setCell ⟨g, j, none⟩ v) :=
  ⟨h.1, h.2.1, h.2.2.1, by have := h.2.2.2.1; simpa [World.setCell] using this, fun i hi1 hi2 => (Below.heap_setCell _ _ _ _ (by show i ≠ g; omega)).trans (h.2.2.2.2 i hi1 hi2)⟩
theorem ButOwn.below {lo hi : Nat} {w w' : World} (h : ButOwn lo hi w w') (hl : lo ≤ w.heap.size) : Below lo w w' := ⟨h.1, h.2.1, h.2.2.1, h.2.2.2.1, fun i hi => h.2.2.2.2 i (by omega) (.inl hi)⟩
theorem ButOwn.cell {lo hi : Nat} {w w' : World} (h : ButOwn lo hi w w') {b o : Nat} {v : Value} (hb : b < lo ∨ hi ≤ b) (hc : w.cell? ⟨b, o, none⟩ = some v) : w'.cell? ⟨b, o, none⟩ = some v :=
  (World.cell?_of_block (a := ⟨b, o, none⟩) (h.2.2.2.2 b (World.block_lt_of_cell? w _ hc) hb)).trans hc

/-- the nodes when some of them have been gone through -/
def midT (T : Nat → Nat → Int) (a t : Nat) (kk jj : Nat) : Nat → Nat → Int := fun k j => if (k < kk ∨ (k = kk ∧ j < jj)) ∧ T k j = (a : Int) then (t : Int) else T k j
theorem midT_zero (T : Nat → Nat → Int) (a t : Nat) : midT T a t 0 0 = T := by funext k j; simp [midT]
theorem midT_self (T : Nat → Nat → Int) (a t kk jj : Nat) : midT T a t kk jj kk jj = T kk jj := by simp [midT]
theorem midT_all (D : Nd) (a t : Nat) : midT D.T a t a 0 = (redir D a t).T := by
  funext k j; simp [midT, redir]
theorem midT_put {T : Nat → Nat → Int} {a t kk jj : Nat} (h : T kk jj = (a : Int)) (k j : Nat) : putT (midT T a t kk jj) kk jj t k j = midT T a t kk (jj + 1) k j := by
  unfold putT midT
  by_cases e : k = kk ∧ j = jj
  · obtain ⟨rfl, rfl⟩ := e; simp [h]
  · rw [if_neg e]
    have : (k < kk ∨ k = kk ∧ j < jj) ↔ (k < kk ∨ k = kk ∧ j < jj + 1) := by omega
    simp only [this]
theorem midT_skip {T : Nat → Nat → Int} {a t kk jj : Nat} (h : T kk jj ≠ (a : Int)) (k j : Nat) : midT T a t kk jj k j = midT T a t kk (jj + 1) k j := by
  unfold midT
  by_cases e : k = kk ∧ j = jj
  · obtain ⟨rfl, rfl⟩ := e; simp [h]
  · have : (k < kk ∨ k = kk ∧ j < jj) ↔ (k < kk ∨ k = kk ∧ j < jj + 1) := by omega
    simp only [this]
theorem midT_next {T : Nat → Nat → Int} {a t kk n : Nat} (k j : Nat) (hj : k = kk → j < n) : midT T a t kk n k j = midT T a t (kk + 1) 0 k j := by
  unfold midT
  have : (k < kk ∨ k = kk ∧ j < n) ↔ (k < kk + 1 ∨ k = kk + 1 ∧ j < 0) := by
    constructor
    · omega
    · intro h
      rcases h with h | ⟨_, h⟩
      · by_cases e : k = kk
        · exact .inr ⟨e, hj e⟩
        · exact .inl (by omega)
      · omega
  simp only [this]

theorem okKB_of {B : KB} {T : Nat → Nat → Int} (h : okKB B = true) (hT : GoodN B.nv B.V B.ns { B.D with T := T }) : okKB (withT B T) = true := by
  have hg := goodB h
  unfold okKB at h ⊢
  simp only [Bool.and_eq_true] at h ⊢
  refine ⟨h.1, ?_⟩
  unfold okN
  simp only [Bool.and_eq_true, decide_eq_true_eq, allB_true]
  refine ⟨⟨hg.D.n1, hg.nn⟩, fun i hi => ?_⟩
  unfold okNode
  rw [Bool.or_eq_true]
  by_cases hm : B.D.M i = -1
  · right
    obtain ⟨a, b⟩ := hT.stop i hi hm
    unfold okEnd
    simp only [Bool.and_eq_true, Bool.or_eq_true, decide_eq_true_eq]
    exact ⟨⟨hm, b⟩, a⟩
  · left
    obtain ⟨a, b, c, d, e⟩ := hT.ask i hi hm
    unfold okAsk
    simp only [Bool.and_eq_true, decide_eq_true_eq, allB_true]
    exact ⟨⟨⟨⟨a, b⟩, c⟩, d⟩, e⟩

end Go.Proofs.Ytbieglmpkljjjaa
