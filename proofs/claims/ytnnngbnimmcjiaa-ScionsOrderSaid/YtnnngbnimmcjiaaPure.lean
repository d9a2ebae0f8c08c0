/-
  Pure: lists of scions, gifts, in plain words.
-/
namespace Go.Proofs.Ytnnngbnimmcjiaa

/-- is there an i below n with p i? -/
def anyB (n : Nat) (p : Nat → Bool) : Bool := (List.range n).any p
def allB (n : Nat) (p : Nat → Bool) : Bool := (List.range n).all p

theorem anyB_true {n : Nat} {p : Nat → Bool} : anyB n p = true ↔ ∃ i, i < n ∧ p i = true := by simp [anyB]
theorem anyB_false {n : Nat} {p : Nat → Bool} : anyB n p = false ↔ ∀ i, i < n → p i = false := by simp [anyB]
theorem allB_true {n : Nat} {p : Nat → Bool} : allB n p = true ↔ ∀ i, i < n → p i = true := by simp [allB]
theorem allB_false {n : Nat} {p : Nat → Bool} : allB n p = false ↔ ∃ i, i < n ∧ p i = false := by simp [allB]

theorem lt_succ {k : Nat} {P : Nat → Prop} (h : ∀ j, j < k → P j) (hk : P k) : ∀ j, j < k + 1 → P j := fun j hj => by
  rcases Nat.lt_succ_iff_lt_or_eq.1 hj with h' | h'
  · exact h j h'
  · rw [h']; exact hk

/-- a list of scions: of so many sorts how many; of so many gardens places and frost; so many wants, of each the garden and the sort -/
structure SB where
  ns : Nat
  C : Nat → Int
  ng : Nat
  P : Nat → Int
  F : Nat → Int
  nw : Nat
  G : Nat → Int
  S : Nat → Int

def okC (B : SB) : Bool := allB B.ns fun i => decide (0 ≤ B.C i) && decide (B.C i ≤ 4)
def okGd (places : Nat) (p f : Int) : Bool := decide (0 ≤ p) && decide (p ≤ places) && (decide (0 ≤ f) && decide (f < 4))
def okG (B : SB) (places : Nat) : Bool := allB B.ng fun i => okGd places (B.P i) (B.F i)
def twice (B : SB) (i : Nat) : Bool := anyB i fun k => decide (B.G k = B.G i) && decide (B.S k = B.S i)
def okW1 (B : SB) (i : Nat) : Bool := decide (0 ≤ B.G i) && decide (B.G i < B.ng) && (decide (0 ≤ B.S i) && decide (B.S i < B.ns)) && !twice B i
def okW (B : SB) : Bool := allB B.nw (okW1 B)
def near (B : SB) : Bool := decide (B.ns ≤ 4) && decide (B.ng ≤ 5) && decide (B.nw ≤ 12)
/-- is it valid, but that gardens may have more places? -/
def okP (B : SB) (places : Nat) : Bool := near B && okC B && okG B places && okW B
def okL (B : SB) : Bool := okP B 4

def SB.sN (B : SB) (k : Nat) : Nat := (B.S k).toNat
def SB.gN (B : SB) (k : Nat) : Nat := (B.G k).toNat
def SB.fN (B : SB) (k : Nat) : Nat := (B.F (B.gN k)).toNat

structure GoodL (B : SB) (places : Nat) : Prop where
  ns : B.ns ≤ 4
  ng : B.ng ≤ 5
  nw : B.nw ≤ 12
  C : ∀ i, i < B.ns → 0 ≤ B.C i ∧ B.C i ≤ 4
  P : ∀ i, i < B.ng → 0 ≤ B.P i ∧ B.P i ≤ places
  F : ∀ i, i < B.ng → 0 ≤ B.F i ∧ B.F i < 4
  G : ∀ i, i < B.nw → 0 ≤ B.G i ∧ B.G i < B.ng
  S : ∀ i, i < B.nw → 0 ≤ B.S i ∧ B.S i < B.ns
  once : ∀ i k, i < B.nw → k < i → ¬ (B.G k = B.G i ∧ B.S k = B.S i)

theorem goodP {B : SB} {places : Nat} (h : okP B places = true) : GoodL B places := by
  simp only [okP, near, okC, okG, okGd, okW, okW1, twice, Bool.and_eq_true, decide_eq_true_eq, allB_true, Bool.not_eq_true', anyB_false, Bool.and_eq_false_iff, decide_eq_false_iff_not] at h
  obtain ⟨⟨⟨⟨⟨a, b⟩, c⟩, d⟩, e⟩, f⟩ := h
  refine ⟨a, b, c, d, fun i hi => (e i hi).1, fun i hi => (e i hi).2, fun i hi => (f i hi).1.1, fun i hi => (f i hi).1.2, fun i k hi hk hh => ?_⟩
  rcases (f i hi).2 k hk with h | h
  · exact h hh.1
  · exact h hh.2
theorem goodL {B : SB} (h : okL B = true) : GoodL B 4 := goodP h

theorem GoodL.sN {B : SB} {p : Nat} (h : GoodL B p) {k : Nat} (hk : k < B.nw) : B.sN k < B.ns ∧ B.S k = B.sN k := by
  have := h.S k hk; unfold SB.sN; omega
theorem GoodL.gN {B : SB} {p : Nat} (h : GoodL B p) {k : Nat} (hk : k < B.nw) : B.gN k < B.ng ∧ B.G k = B.gN k := by
  have := h.G k hk; unfold SB.gN; omega
theorem GoodL.fN {B : SB} {p : Nat} (h : GoodL B p) {k : Nat} (hk : k < B.nw) : B.fN k < 4 ∧ B.F (B.gN k) = B.fN k := by
  have := h.F _ (h.gN hk).1; unfold SB.fN; omega

/-- what a gift gives: how often a sort, how many to a garden, a sort to a garden of a frost -/
def cS (B : SB) (g : List Nat) (s : Nat) : Nat := g.countP fun k => B.sN k == s
def cG (B : SB) (g : List Nat) (a : Nat) : Nat := g.countP fun k => B.gN k == a
def fr (B : SB) (g : List Nat) (s f : Nat) : Bool := g.any fun k => B.sN k == s && B.fN k == f
theorem cS_snoc (B : SB) (g : List Nat) (k s : Nat) : cS B (g ++ [k]) s = cS B g s + if s = B.sN k then 1 else 0 := by
  simp only [cS, List.countP_append, List.countP_cons, List.countP_nil, Nat.zero_add, beq_iff_eq]
  by_cases h : B.sN k = s
  · simp [h]
  · have h' : ¬ s = B.sN k := fun e => h e.symm
    simp [h, h']
theorem cG_snoc (B : SB) (g : List Nat) (k s : Nat) : cG B (g ++ [k]) s = cG B g s + if s = B.gN k then 1 else 0 := by
  simp only [cG, List.countP_append, List.countP_cons, List.countP_nil, Nat.zero_add, beq_iff_eq]
  by_cases h : B.gN k = s
  · simp [h]
  · have h' : ¬ s = B.gN k := fun e => h e.symm
    simp [h, h']
theorem fr_snoc (B : SB) (g : List Nat) (k s f : Nat) : fr B (g ++ [k]) s f = (fr B g s f || (decide (s = B.sN k) && decide (f = B.fN k))) := by
  simp only [fr, List.any_append, List.any_cons, List.any_nil, Bool.or_false]
  congr 1
  by_cases h : s = B.sN k
  · by_cases h2 : f = B.fN k
    · simp [h, h2]
    · have h3 : ¬ B.fN k = f := fun e => h2 e.symm
      simp [h2, h3]
  · have h3 : ¬ B.sN k = s := fun e => h e.symm
    simp [h, h3]

/-- does one more want fit? -/
def addOK (B : SB) (g : List Nat) (k : Nat) : Bool := decide ((cS B g (B.sN k) : Int) ≠ B.C (B.sN k)) && decide ((cG B g (B.gN k) : Int) ≠ B.P (B.gN k)) && !fr B g (B.sN k) (B.fN k)
def fitFrom (B : SB) : List Nat → List Nat → Bool
  | _, [] => true
  | p, k :: l => addOK B p k && fitFrom B (p ++ [k]) l
/-- does a gift fit? -/
def fitL (B : SB) (g : List Nat) : Bool := fitFrom B [] g
theorem fitFrom_append (B : SB) (l m : List Nat) : ∀ p, fitFrom B p (l ++ m) = (fitFrom B p l && fitFrom B (p ++ l) m) := by
  induction l with
  | nil => intro p; simp [fitFrom]
  | cons k l ih => intro p; simp only [List.cons_append, fitFrom, ih, Bool.and_assoc, List.append_assoc, List.singleton_append, List.nil_append]
theorem fitL_snoc (B : SB) (g : List Nat) (k : Nat) : fitL B (g ++ [k]) = (fitL B g && addOK B g k) := by
  unfold fitL; rw [fitFrom_append]; simp [fitFrom]

/-- the gifts that fit, begin as one that does, and go on with one of the last f wants -/
def tailG (B : SB) : Nat → List Nat → List (List Nat)
  | 0, _ => []
  | f + 1, b => (if addOK B b (B.nw - (f + 1)) then (b ++ [B.nw - (f + 1)]) :: tailG B f (b ++ [B.nw - (f + 1)]) else []) ++ tailG B f b
def giftsL (B : SB) : List (List Nat) := [] :: tailG B B.nw []

/-- a gift of the list: ascending wants -/
def isGift (B : SB) : List Nat → Bool
  | [] => true
  | [k] => decide (k < B.nw)
  | k :: m :: l => decide (k < m) && isGift B (m :: l)

end Go.Proofs.Ytnnngbnimmcjiaa
