/-
  Pure: books of a key, walks, in plain words.
-/
namespace Go.Proofs.Ytbieglmpkljjjaa

/-- is there an i below n with p i? -/
def anyB (n : Nat) (p : Nat → Bool) : Bool := (List.range n).any p
def allB (n : Nat) (p : Nat → Bool) : Bool := (List.range n).all p

theorem anyB_true {n : Nat} {p : Nat → Bool} : anyB n p = true ↔ ∃ i, i < n ∧ p i = true := by simp [anyB]
theorem anyB_false {n : Nat} {p : Nat → Bool} : anyB n p = false ↔ ∀ i, i < n → p i = false := by simp [anyB]
theorem allB_true {n : Nat} {p : Nat → Bool} : allB n p = true ↔ ∀ i, i < n → p i = true := by simp [allB]
theorem allB_false {n : Nat} {p : Nat → Bool} : allB n p = false ↔ ∃ i, i < n ∧ p i = false := by simp [allB]

theorem lt_succ {k : Nat} {P : Nat → Prop} (h : ∀ j, j < k → P j) (hk : P k) : ∀ j, j < k + 1 → P j := fun j hj => by
  rcases Nat.lt_succ_iff_lt_or_eq.1 hj with h' | h'
  · exact h j h'
  · rw [h']; exact hk

/-- nodes: so many; each with a mark, a sort, so many next ones, and these -/
structure Nd where
  n : Nat
  M : Nat → Int
  S : Nat → Int
  q : Nat → Nat
  T : Nat → Nat → Int

/-- a book of a key: so many marks, the values of each; so many sorts, of each so many values, and these; nodes -/
structure KB where
  nv : Nat
  V : Nat → Int
  ns : Nat
  L : Nat → Nat
  X : Nat → Nat → Int
  D : Nd

def okV (nv : Nat) (V : Nat → Int) : Bool := decide (1 ≤ nv) && decide (nv ≤ 5) && allB nv fun i => decide (2 ≤ V i) && decide (V i ≤ 3)
def okX (nv : Nat) (V : Nat → Int) (n : Nat) (x : Nat → Int) : Bool := decide (n = nv) && allB n fun i => decide (0 ≤ x i) && decide (x i < V i)
def okS (B : KB) : Bool := decide (B.ns ≤ 8) && allB B.ns fun i => okX B.nv B.V (B.L i) (B.X i)
def okAsk (nv : Nat) (V : Nat → Int) (D : Nd) (i : Nat) : Bool :=
  decide (0 ≤ D.M i) && decide (D.M i < nv) && decide (D.S i = -1) && decide ((D.q i : Int) = V (D.M i).toNat) && allB (D.q i) fun j => decide ((i : Int) < D.T i j) && decide (D.T i j < D.n)
def okEnd (ns : Nat) (D : Nd) (i : Nat) : Bool := decide (D.M i = -1) && (decide (D.S i = -1) || decide (0 ≤ D.S i) && decide (D.S i < ns)) && decide (D.q i = 0)
def okNode (nv : Nat) (V : Nat → Int) (ns : Nat) (D : Nd) (i : Nat) : Bool := okAsk nv V D i || okEnd ns D i
def okN (nv : Nat) (V : Nat → Int) (ns : Nat) (D : Nd) (most : Nat) : Bool := decide (1 ≤ D.n) && decide (D.n ≤ most) && allB D.n fun i => okNode nv V ns D i
def okKB (B : KB) : Bool := okV B.nv B.V && okS B && okN B.nv B.V B.ns B.D 20

structure GoodN (nv : Nat) (V : Nat → Int) (ns : Nat) (D : Nd) : Prop where
  n1 : 1 ≤ D.n
  stop : ∀ i, i < D.n → D.M i = -1 → D.q i = 0 ∧ (D.S i = -1 ∨ (0 ≤ D.S i ∧ D.S i < ns))
  ask : ∀ i, i < D.n → D.M i ≠ -1 → 0 ≤ D.M i ∧ D.M i < nv ∧ D.S i = -1 ∧ (D.q i : Int) = V (D.M i).toNat ∧ ∀ j, j < D.q i → (i : Int) < D.T i j ∧ D.T i j < D.n

structure GoodX (nv : Nat) (V : Nat → Int) (n : Nat) (x : Nat → Int) : Prop where
  n : n = nv
  x : ∀ i, i < nv → 0 ≤ x i ∧ x i < V i

structure GoodB (B : KB) : Prop where
  nv1 : 1 ≤ B.nv
  nv : B.nv ≤ 5
  V : ∀ i, i < B.nv → 2 ≤ B.V i ∧ B.V i ≤ 3
  ns : B.ns ≤ 8
  X : ∀ i, i < B.ns → GoodX B.nv B.V (B.L i) (B.X i)
  nn : B.D.n ≤ 20
  D : GoodN B.nv B.V B.ns B.D

theorem goodX {nv : Nat} {V : Nat → Int} {n : Nat} {x : Nat → Int} (h : okX nv V n x = true) : GoodX nv V n x := by
  simp only [okX, Bool.and_eq_true, decide_eq_true_eq, allB_true] at h
  obtain ⟨rfl, h⟩ := h
  exact ⟨rfl, h⟩
theorem goodN {nv : Nat} {V : Nat → Int} {ns : Nat} {D : Nd} {most : Nat} (h : okN nv V ns D most = true) : GoodN nv V ns D ∧ D.n ≤ most := by
  simp only [okN, okNode, okAsk, okEnd, Bool.and_eq_true, Bool.or_eq_true, decide_eq_true_eq, allB_true] at h
  obtain ⟨⟨h1, h2⟩, h3⟩ := h
  refine ⟨⟨h1, fun i hi hm => ?_, fun i hi hm => ?_⟩, h2⟩
  · rcases h3 i hi with h | h
    · obtain ⟨⟨⟨⟨h, _⟩, _⟩, _⟩, _⟩ := h; omega
    · exact ⟨h.2, h.1.2⟩
  · rcases h3 i hi with h | h
    · obtain ⟨⟨⟨⟨a, b⟩, c⟩, d⟩, e⟩ := h; exact ⟨a, b, c, d, e⟩
    · exact absurd h.1.1 hm
theorem goodB {B : KB} (h : okKB B = true) : GoodB B := by
  simp only [okKB, okV, okS, Bool.and_eq_true, decide_eq_true_eq, allB_true] at h
  obtain ⟨⟨⟨⟨a, b⟩, c⟩, d, e⟩, f⟩ := h
  exact ⟨a, b, c, d, fun i hi => goodX (e i hi), (goodN f).2, (goodN f).1⟩

/-- the node behind node i -/
def nxt (D : Nd) (x : Nat → Int) (i : Nat) : Nat := (D.T i (x (D.M i).toNat).toNat).toNat
/-- the walk on from node i -/
def wfrom (D : Nd) (x : Nat → Int) : Nat → Nat → List Nat
  | 0, i => [i]
  | f + 1, i => if D.M i = -1 then [i] else i :: wfrom D x f (nxt D x i)
def walk (D : Nd) (x : Nat → Int) : List Nat := wfrom D x D.n 0
def lastOf (l : List Nat) : Nat := l.getLastD 0
def endOf (D : Nd) (x : Nat → Int) : Int := D.S (lastOf (walk D x))

theorem nxt_ok {nv : Nat} {V : Nat → Int} {ns : Nat} {D : Nd} {n : Nat} {x : Nat → Int} (hD : GoodN nv V ns D) (hx : GoodX nv V n x) {i : Nat} (hi : i < D.n) (hm : D.M i ≠ -1) :
    i < nxt D x i ∧ nxt D x i < D.n ∧ (x (D.M i).toNat).toNat < D.q i ∧ 0 ≤ x (D.M i).toNat ∧ D.T i (x (D.M i).toNat).toNat = (nxt D x i : Nat) := by
  obtain ⟨a, b, c, d, e⟩ := hD.ask i hi hm
  obtain ⟨f, g⟩ := hx.x (D.M i).toNat (by omega)
  have hq : (x (D.M i).toNat).toNat < D.q i := by omega
  obtain ⟨h1, h2⟩ := e _ hq
  unfold nxt
  exact ⟨by omega, by omega, hq, f, by omega⟩

theorem wfrom_more {nv : Nat} {V : Nat → Int} {ns : Nat} {D : Nd} {n : Nat} {x : Nat → Int} (hD : GoodN nv V ns D) (hx : GoodX nv V n x) : ∀ (f g i : Nat), i < D.n → D.n ≤ f + i → D.n ≤ g + i → wfrom D x f i = wfrom D x g i := by
  intro f
  induction f with
  | zero => intro g i hi hf; omega
  | succ f ih =>
    intro g i hi hf hg
    cases g with
    | zero => omega
    | succ g =>
      simp only [wfrom]
      split
      · rfl
      · rename_i hm
        obtain ⟨h1, h2, _⟩ := nxt_ok hD hx hi hm
        rw [ih g _ h2 (by omega) (by omega)]

/-- the walk from a node on, without a bound -/
def wk (D : Nd) (x : Nat → Int) (i : Nat) : List Nat := wfrom D x (D.n - i) i

theorem wk_stop {nv : Nat} {V : Nat → Int} {ns : Nat} {D : Nd} {x : Nat → Int} (_hD : GoodN nv V ns D) {i : Nat} (hi : i < D.n) (hm : D.M i = -1) : wk D x i = [i] := by
  unfold wk
  obtain ⟨k, hk⟩ : ∃ k, D.n - i = k + 1 := ⟨D.n - i - 1, by omega⟩
  rw [hk]; simp [wfrom, hm]
theorem wk_go {nv : Nat} {V : Nat → Int} {ns : Nat} {D : Nd} {n : Nat} {x : Nat → Int} (hD : GoodN nv V ns D) (hx : GoodX nv V n x) {i : Nat} (hi : i < D.n) (hm : D.M i ≠ -1) : wk D x i = i :: wk D x (nxt D x i) := by
  obtain ⟨h1, h2, _⟩ := nxt_ok hD hx hi hm
  unfold wk
  obtain ⟨k, hk⟩ : ∃ k, D.n - i = k + 1 := ⟨D.n - i - 1, by omega⟩
  rw [hk]; simp only [wfrom, hm, if_false]
  rw [wfrom_more hD hx k (D.n - nxt D x i) _ h2 (by omega) (by omega)]
theorem walk_wk (D : Nd) (x : Nat → Int) : walk D x = wk D x 0 := by unfold walk wk; rw [Nat.sub_zero]

theorem wk_len {nv : Nat} {V : Nat → Int} {ns : Nat} {D : Nd} {n : Nat} {x : Nat → Int} (hD : GoodN nv V ns D) (hx : GoodX nv V n x) : ∀ (f i : Nat), D.n - i ≤ f → i < D.n → (wk D x i).length + i ≤ D.n := by
  intro f
  induction f with
  | zero => intro i _ _; omega
  | succ f ih =>
    intro i hf hi
    by_cases hm : D.M i = -1
    · rw [wk_stop hD hi hm]; simp; omega
    · obtain ⟨h1, h2, _⟩ := nxt_ok hD hx hi hm
      rw [wk_go hD hx hi hm]
      have := ih (nxt D x i) (by omega) h2
      simp; omega
theorem walk_len {nv : Nat} {V : Nat → Int} {ns : Nat} {D : Nd} {n : Nat} {x : Nat → Int} (hD : GoodN nv V ns D) (hx : GoodX nv V n x) : (walk D x).length ≤ D.n := by
  rw [walk_wk]; have := wk_len hD hx D.n 0 (by omega) hD.n1; omega

end Go.Proofs.Ytbieglmpkljjjaa
