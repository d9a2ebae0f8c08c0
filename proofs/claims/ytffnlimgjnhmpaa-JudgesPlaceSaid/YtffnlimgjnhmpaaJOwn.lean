/-
  JOwn: a show in memory of the call's own: rows of points that are written one by one.
-/
import Derived.Test.YtffnlimgjnhmpaaJBase
namespace Go.Proofs.Ytffnlimgjnhmpaa
open Go.RowKit

theorem heap_lt {W : World} {b : Nat} {o : Obj} (h : W.heap[b]? = some o) : b < W.heap.size := (Array.getElem?_eq_some_iff.1 h).1
theorem types_ne {W : World} {g g' : Nat} {cur cur' : Array Value} {T T' : TypeId} (h : W.heap[g]? = some (.cells cur T)) (h' : W.heap[g']? = some (.cells cur' T')) (hT : T ≠ T') : g ≠ g' := fun e => by
  rw [e, h'] at h
  injection h with h
  injection h with _ ht
  exact hT ht.symm

/-- numbers in a block of the call's own, from lo on -/
def RI (lo : Nat) (W : World) (v : Value) (l : List Int) : Prop :=
  (l = [] ∧ ∃ a c, v = .slice a 0 c) ∨ (0 < l.length ∧ ∃ g cap cur, v = .slice (some ⟨g, 0, none⟩) l.length cap ∧ lo ≤ g ∧ l.length ≤ cap ∧ W.heap[g]? = some (.cells cur 3) ∧ ∀ i, i < l.length → cur[i]? = some (.int .i64 (l.getD i 0)))
theorem RI.form {lo : Nat} {W : World} {v : Value} {l : List Int} (h : RI lo W v l) : ∃ a c, v = .slice a l.length c := by
  rcases h with ⟨rfl, a, c, rfl⟩ | ⟨_, g, cap, cur, rfl, _⟩
  · exact ⟨a, c, rfl⟩
  · exact ⟨_, _, rfl⟩
theorem RI.ints {lo : Nat} {W : World} {v : Value} {l : List Int} (h : RI lo W v l) (hl : l.length ≤ 1000) : IntsAt W.heap.size W v l.length (fun i => l.getD i 0) := by
  rcases h with ⟨rfl, a, c, rfl⟩ | ⟨h0, g, cap, cur, rfl, h1, h2, h3, h4⟩
  · exact ⟨a, c, rfl, by simp, fun h => absurd h (Nat.lt_irrefl 0)⟩
  · exact ⟨_, cap, rfl, by omega, fun _ => ⟨g, 0, rfl, heap_lt h3, fun i hi => ⟨_, by rw [Nat.zero_add]; exact cell_blk h3 _ (h4 i hi), rfl⟩⟩⟩
/-- the block of a list -/
def blockOf : Value → Option Nat
  | .slice (some a) _ _ => some a.block
  | _ => none
theorem RI.keep {lo : Nat} {W W' : World} {v : Value} {l : List Int} (h : RI lo W v l) (hk : ∀ g, blockOf v = some g → lo ≤ g → g < W.heap.size → W'.heap[g]? = W.heap[g]?) : RI lo W' v l := by
  rcases h with h | ⟨h0, g, cap, cur, rfl, h1, h2, h3, h4⟩
  · exact .inl h
  · exact .inr ⟨h0, g, cap, cur, rfl, h1, h2, (hk g rfl h1 (heap_lt h3)).trans h3, h4⟩
theorem RI.lower {lo lo' : Nat} {W : World} {v : Value} {l : List Int} (h : RI lo W v l) (hl : lo' ≤ lo) : RI lo' W v l := by
  rcases h with h | ⟨h0, g, cap, cur, rfl, h1, h2⟩
  · exact .inl h
  · exact .inr ⟨h0, g, cap, cur, rfl, Nat.le_trans hl h1, h2⟩
theorem RI.of_own {lo : Nat} {W : World} {v : Value} {l : List Int} (h : W.ownsRow lo 3 1 v l.length (l.map (Value.int .i64))) : RI lo W v l := by
  obtain ⟨_, ⟨rfl, h2⟩ | ⟨g, cap, cur, rfl, h3, h4, h5, h6, h7, h8⟩⟩ := h
  · exact .inl ⟨List.length_eq_zero_iff.1 h2, none, 0, rfl⟩
  · rcases Nat.eq_zero_or_pos l.length with h0 | h0
    · exact .inl ⟨List.length_eq_zero_iff.1 h0, _, _, by rw [h0]⟩
    · refine .inr ⟨h0, g, cap, cur, rfl, h3, h5, h4, fun i hi => ?_⟩
      have g1 : (l.map (Value.int .i64))[i]? = some (.int .i64 (l.getD i 0)) := by
        rw [List.getElem?_map, List.getElem?_eq_getElem hi]; simp [List.getD, List.getElem?_eq_getElem hi]
      rw [← h8, List.getElem?_take_of_lt (by omega), Array.getElem?_toList] at g1
      exact g1
/-- one number is another one -/
theorem RI.set {lo : Nat} {W : World} {g n cap : Nat} {l : List Int} (h : RI lo W (.slice (some ⟨g, 0, none⟩) n cap) l) {k : Nat} (hk : k < l.length) (x : Int) : RI lo (W.setCell ⟨g, k, none⟩ (.int .i64 x)) (.slice (some ⟨g, 0, none⟩) n cap) (l.set k x) := by
  rcases h with ⟨h0, _⟩ | ⟨h0, g', cap', cur, e, h1, h2, h3, h4⟩
  · subst h0; cases hk
  · cases e
    refine .inr ⟨by rw [List.length_set]; exact h0, g, cap, _, by rw [List.length_set], h1, by rw [List.length_set]; exact h2, blk_set h3 k _, fun i hi => ?_⟩
    rw [List.length_set] at hi
    have k1 := h4 i hi
    have hs : k < cur.size := (Array.getElem?_eq_some_iff.1 (h4 k hk)).1
    rw [Array.getElem?_setIfInBounds]
    by_cases e : k = i
    · subst e
      rw [if_pos rfl, if_pos hs]
      simp [List.getD, hk]
    · rw [if_neg e, k1]
      simp [List.getD, List.getElem?_set, e]
theorem RI.at {lo : Nat} {W : World} {g n cap : Nat} {l : List Int} (h : RI lo W (.slice (some ⟨g, 0, none⟩) n cap) l) (h0 : 0 < l.length) : g < W.heap.size ∧ lo ≤ g ∧ (∀ i, i < l.length → W.cell? ⟨g, i, none⟩ = some (.int .i64 (l.getD i 0))) ∧ (∀ i, W.frozen? ⟨g, i, none⟩ = false) ∧ ∃ cur : Array Value, W.heap[g]? = some (.cells cur 3) := by
  rcases h with ⟨h1, _⟩ | ⟨_, g', cap', cur, e, h1, h2, h3, h4⟩
  · subst h1; cases h0
  · cases e
    exact ⟨heap_lt h3, h1, fun i hi => cell_blk h3 _ (h4 i hi), fun i => free_blk h3 i, cur, h3⟩
theorem RI.addr {lo : Nat} {W : World} {a : Option Addr} {n cap : Nat} {l : List Int} (h : RI lo W (.slice a n cap) l) (h0 : 0 < l.length) : ∃ g, a = some ⟨g, 0, none⟩ ∧ n = l.length := by
  rcases h with ⟨h1, _⟩ | ⟨_, g', cap', cur, e, _⟩
  · subst h1; cases h0
  · cases e; exact ⟨_, rfl, rfl⟩

/-- the plates of a show in a block of the call's own, each row of points in a block of its own -/
structure OwnP (lo : Nat) (W : World) (TP : TypeId) (v : Value) (np : Nat) (sz : Nat → Int) (rv : Nat → Value) (pts : Nat → List Int) : Prop where
  row : ∀ i, i < np → RI lo W (rv i) (pts i)
  apart : ∀ i j, i < np → j < np → i ≠ j → ∀ g, blockOf (rv i) = some g → 0 < (pts i).length → blockOf (rv j) = some g → (pts j).length = 0
  body : (np = 0 ∧ ∃ a c, v = .slice a 0 c) ∨ (0 < np ∧ ∃ g cap cur, v = .slice (some ⟨g, 0, none⟩) np cap ∧ lo ≤ g ∧ np ≤ cap ∧ W.heap[g]? = some (.cells cur TP) ∧ ∀ i, i < np → cur[i * 2]? = some (.int .i64 (sz i)) ∧ cur[i * 2 + 1]? = some (rv i))
theorem OwnP.form {lo : Nat} {W : World} {TP : TypeId} {v : Value} {np : Nat} {sz : Nat → Int} {rv : Nat → Value} {pts : Nat → List Int} (h : OwnP lo W TP v np sz rv pts) : ∃ a c, v = .slice a np c := by
  rcases h.body with ⟨rfl, a, c, rfl⟩ | ⟨_, g, cap, cur, rfl, _⟩
  · exact ⟨a, c, rfl⟩
  · exact ⟨_, _, rfl⟩
/-- a number of a row is another one -/
theorem OwnP.point {lo : Nat} {W : World} {TP : TypeId} {v : Value} {np : Nat} {sz : Nat → Int} {rv : Nat → Value} {pts : Nat → List Int} (h : OwnP lo W TP v np sz rv pts) (hT : TP ≠ 3) {i k : Nat} (hi : i < np) (hk : k < (pts i).length) (x : Int) {g n cap : Nat} (hg : rv i = .slice (some ⟨g, 0, none⟩) n cap) :
    OwnP lo (W.setCell ⟨g, k, none⟩ (.int .i64 x)) TP v np sz rv (fun j => if j = i then (pts j).set k x else pts j) := by
  have hrow := h.row i hi
  rw [hg] at hrow
  obtain ⟨hgw, hlg, _, _, curg, hcg⟩ := hrow.at (by omega)
  have hoth : ∀ b, b ≠ g → (W.setCell ⟨g, k, none⟩ (.int .i64 x)).heap[b]? = W.heap[b]? := fun b hb => Below.heap_setCell _ _ _ _ (by exact hb)
  refine ⟨fun j hj => ?_, fun a b ha hb hab g' h1 h2 h3 => ?_, ?_⟩
  · by_cases e : j = i
    · subst e
      simp only [if_true]
      rw [hg]
      exact hrow.set hk x
    · simp only [if_neg e]
      rcases h.row j hj with h0 | ⟨h0, g', cap', cur', ev, h1, h2, h3, h4⟩
      · exact .inl h0
      · refine .inr ⟨h0, g', cap', cur', ev, h1, h2, (hoth g' fun e' => ?_).trans h3, h4⟩
        subst e'
        have := h.apart i j hi hj (fun e' => e e'.symm) g' (by rw [hg]; rfl) (by omega) (by rw [ev]; rfl)
        omega
  · have e1 : (pts a).length = ((fun j => if j = i then (pts j).set k x else pts j) a).length := by
      show _ = (if a = i then (pts a).set k x else pts a).length
      split <;> simp
    have e2 : (pts b).length = ((fun j => if j = i then (pts j).set k x else pts j) b).length := by
      show _ = (if b = i then (pts b).set k x else pts b).length
      split <;> simp
    rw [← e2]
    exact h.apart a b ha hb hab g' h1 (by rw [e1]; exact h2) h3
  · rcases h.body with hb | ⟨h0, gp, cap', cur, rfl, h1, h2, h3, h4⟩
    · exact .inl hb
    · exact .inr ⟨h0, gp, cap', cur, rfl, h1, h2, (hoth gp (types_ne h3 hcg hT)).trans h3, h4⟩

/-- a row of points is another one, in a new block -/
theorem OwnP.newRow {lo : Nat} {W : World} {TP : TypeId} {g np cap : Nat} {sz : Nat → Int} {rv : Nat → Value} {pts : Nat → List Int} (h : OwnP lo W TP (.slice (some ⟨g, 0, none⟩) np cap) np sz rv pts) (hT : TP ≠ 3) {i : Nat} (hi : i < np) {r : Value} {l : List Int} (hr : RI lo W r l)
    (hnew : ∀ b, blockOf r = some b → 0 < l.length → ∀ j, j < np → j ≠ i → blockOf (rv j) = some b → (pts j).length = 0) :
    OwnP lo (W.setCell ⟨g, i * 2 + 1, none⟩ r) TP (.slice (some ⟨g, 0, none⟩) np cap) np sz (fun j => if j = i then r else rv j) (fun j => if j = i then l else pts j) := by
  rcases h.body with ⟨h0, _⟩ | ⟨h0, gp, cap', cur, e, h1, h2, h3, h4⟩
  · omega
  cases e
  have hoth : ∀ b, b ≠ g → (W.setCell ⟨g, i * 2 + 1, none⟩ r).heap[b]? = W.heap[b]? := fun b hb => Below.heap_setCell _ _ _ _ (by exact hb)
  have hk : ∀ {v : Value} {m : List Int}, RI lo W v m → RI lo (W.setCell ⟨g, i * 2 + 1, none⟩ r) v m := fun {v m} hv => by
    rcases hv with h0 | ⟨h0, g', cap', cur', ev, k1, k2, k3, k4⟩
    · exact .inl h0
    · exact .inr ⟨h0, g', cap', cur', ev, k1, k2, (hoth g' (types_ne k3 h3 (fun e => hT e.symm))).trans k3, k4⟩
  refine ⟨fun j hj => ?_, fun a b ha hb hab b' e1 e2 e3 => ?_, .inr ⟨h0, g, cap, _, rfl, h1, h2, blk_set h3 (i * 2 + 1) r, fun j hj => ?_⟩⟩
  · by_cases e : j = i
    · simp only [if_pos e]; exact hk hr
    · simp only [if_neg e]; exact hk (h.row j hj)
  · by_cases ea : a = i
    · have eb : b ≠ i := fun e => hab (ea.trans e.symm)
      simp only [if_pos ea] at e1 e2
      simp only [if_neg eb] at e3 ⊢
      exact hnew b' e1 e2 b hb eb e3
    · by_cases eb : b = i
      · simp only [if_neg ea] at e1 e2
        simp only [if_pos eb] at e3 ⊢
        rcases Nat.eq_zero_or_pos l.length with hl | hl
        · exact hl
        · have := hnew b' e3 hl a ha ea e1
          omega
      · simp only [if_neg ea] at e1 e2
        simp only [if_neg eb] at e3 ⊢
        exact h.apart a b ha hb hab b' e1 e2 e3
  · obtain ⟨k1, k2⟩ := h4 j hj
    have hs : i * 2 + 1 < cur.size := (Array.getElem?_eq_some_iff.1 (h4 i hi).2).1
    rw [Array.getElem?_setIfInBounds, Array.getElem?_setIfInBounds, if_neg (by omega)]
    refine ⟨k1, ?_⟩
    by_cases e : j = i
    · subst e; rw [if_pos rfl, if_pos hs, if_pos rfl]
    · rw [if_neg (by omega), if_neg e]; exact k2
/-- all that the call's own memory holds is kept -/
theorem OwnP.keep {lo : Nat} {W W' : World} {TP : TypeId} {v : Value} {np : Nat} {sz : Nat → Int} {rv : Nat → Value} {pts : Nat → List Int} (h : OwnP lo W TP v np sz rv pts) (hk : ∀ g, lo ≤ g → g < W.heap.size → W'.heap[g]? = W.heap[g]?) : OwnP lo W' TP v np sz rv pts := by
  refine ⟨fun i hi => (h.row i hi).keep fun g _ h1 h2 => hk g h1 h2, h.apart, ?_⟩
  rcases h.body with hb | ⟨h0, g, cap, cur, rfl, h1, h2, h3, h4⟩
  · exact .inl hb
  · exact .inr ⟨h0, g, cap, cur, rfl, h1, h2, (hk g h1 (heap_lt h3)).trans h3, h4⟩
/-- such a show as any function reads it -/
theorem OwnP.show {lo : Nat} {W : World} {TP : TypeId} {a : Option Addr} {c np : Nat} {sz : Nat → Int} {rv : Nat → Value} {pts : Nat → List Int} (h : OwnP lo W TP (.slice a np c) np sz rv pts) (hn : np ≤ 1000) (hl : ∀ i, i < np → (pts i).length ≤ 1000) (J D Z : Int) :
    ShowAt W.heap.size W (.agg #[.int .i64 J, .int .i64 D, .int .i64 Z, .slice a np c]) ⟨J, D, Z, np, sz, pts⟩ := by
  refine ⟨Nat.le_refl _, a, c, rfl, a, c, rfl, by show np ≤ _; omega, ?_, fun h0 => ?_⟩
  · rcases h.body with ⟨e, _⟩ | ⟨_, g, cap, cur, e, h1, h2, _⟩
    · show np ≤ c; omega
    · cases e; exact h2
  · rcases h.body with ⟨e, _⟩ | ⟨_, g, cap, cur, e, h1, h2, h3, h4⟩
    · have h0' : 0 < np := h0
      omega
    · cases e
      refine ⟨g, 0, rfl, heap_lt h3, fun i hi => ?_⟩
      obtain ⟨k1, k2⟩ := h4 i hi
      have hr := h.row i hi
      obtain ⟨ra, rc, er⟩ := hr.form
      refine ⟨by rw [Nat.zero_add]; exact cell_blk h3 _ k1, ra, rc, ?_, ?_, ?_⟩
      · rw [Nat.zero_add]; rw [er] at k2; exact cell_blk h3 _ k2
      · rw [er] at hr
        rcases hr with ⟨e0, _⟩ | ⟨_, g', cap', cur', e', _, k3, _⟩
        · show (pts i).length ≤ rc
          rw [e0]; exact Nat.zero_le _
        · cases e'; exact k3
      · rw [er] at hr
        exact hr.ints (hl i hi)

end Go.Proofs.Ytffnlimgjnhmpaa
