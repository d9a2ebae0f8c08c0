/-
  Region: what is kept of memory; regions that draw, within a fence.
-/
import Derived.Test.YtnnngbnimmcjiaaRange
import Derived.Deep.DeepCutAuto
namespace Go.Proofs.Ytnnngbnimmcjiaa
open Go.RowKit

/-- all blocks of cells but those of Ex are as they were -/
def KeptC (Ex : Nat → Prop) (A B : World) : Prop := A.heap.size ≤ B.heap.size ∧ ∀ k o, A.heap[k]? = some o → o.isCells = true → ¬ Ex k → B.heap[k]? = some o
theorem KeptC.trans {Ex : Nat → Prop} {A B C : World} (h : KeptC Ex A B) (k : KeptC Ex B C) : KeptC Ex A C := ⟨Nat.le_trans h.1 k.1, fun i o hi ho he => k.2 i o (h.2 i o hi ho he) ho he⟩
theorem KeptC.heap {Ex : Nat → Prop} {A B : World} (h : KeptC Ex A B) {k : Nat} {cs : Array Value} {t : TypeId} (hk : A.heap[k]? = some (.cells cs t)) (he : ¬ Ex k) : B.heap[k]? = some (.cells cs t) := h.2 k _ hk rfl he
theorem cells_some {A : World} {a : Addr} {v : Value} (h : A.cell? a = some v) : ∃ o : Obj, A.heap[a.block]? = some o ∧ o.isCells = true := cells_of_cell h
theorem KeptC.cell {Ex : Nat → Prop} {A B : World} (h : KeptC Ex A B) {a : Addr} {v : Value} (ha : A.cell? a = some v) (he : ¬ Ex a.block) : B.cell? a = some v := by
  obtain ⟨o, ho, hc⟩ := cells_of_cell ha
  exact (World.cell?_of_block (w := A) ((h.2 _ o ho hc he).trans ho.symm)).trans ha
theorem KeptC.free {Ex : Nat → Prop} {A B : World} (h : KeptC Ex A B) {a : Addr} {v : Value} (ha : A.cell? a = some v) (he : ¬ Ex a.block) : B.frozen? a = A.frozen? a := by
  obtain ⟨o, ho, hc⟩ := cells_of_cell ha
  have := (h.2 _ o ho hc he).trans ho.symm
  simp [World.frozen?, this]

theorem rows_round {n l : Nat} {P : Program} {row : String} {args : Array Value} {w : World} {R : Value → World → Prop} (h : Rows P row args w R) : RowsIn (Fence.wide.inRound l) n P row args w R := fun c cs _ => by
  obtain ⟨v, w', hr, hs⟩ := h c cs
  exact ⟨v, w', hr, stepsIn_wide.2 hs⟩

theorem op_round {n l : Nat} {P : Program} {o : Oper} {a : Act} {w : World} {K : Act → World → Prop} {Q : Exit → Act → World → Prop} (hd : ∀ c, o.op ≠ .defer c) (h : o.wp P a w K Q) : o.wpIn (Fence.wide.inRound l) n P a w K Q := by
  refine ⟨fun _ _ => trivial, ?_⟩
  rw [Oper.semAt_eq _ _ _ hd]
  unfold Oper.wp at h
  generalize (execOp a.eval o).run P w = r at h ⊢
  cases r with
  | ok nx w' =>
    cases nx
    case enter f args =>
      refine ⟨fun hh => by simp [Fence.inRound, Fence.wide] at hh, CallsIn.inRound l ((callsIn_wide (n := n - 1)).2 (h.mono fun e w'' he => ?_))⟩
      cases e <;> exact he
    case row row args => exact ⟨fun hh => by simp [Fence.inRound, Fence.wide] at hh, rows_round h⟩
    all_goals first | exact h | exact h.elim
  | halt hh w' => cases hh <;> first | exact h | exact h.elim

theorem any_round {n l : Nat} {P : Program} {md : Region.Mode} {ops : Array Oper} {Q : Exit → Act → World → Prop} (hd : ∀ (i : Nat) (o : Oper), ops[i]? = some o → ∀ c, o.op ≠ Op.defer c) (hQ : ∀ a w, ¬ Q .outgrown a w) :
    ∀ (fuel : Nat) (listed : Array Bool) (a : Act) (w : World), wpAny P md ops Q fuel listed a w → wpAnyIn (Fence.wide.inRound l) n P md ops Q fuel listed a w := by
  intro fuel
  induction fuel with
  | zero => intro listed a w h; exact h
  | succ fuel ih =>
    intro listed a w h
    refine ⟨h.1, fun i hi => ?_⟩
    have h2 := h.2 i hi
    unfold wpOp at h2
    unfold wpOpIn
    cases ho : ops[i]? with
    | none => rw [ho] at h2; exact ih _ _ _ h2
    | some o =>
      rw [ho] at h2
      simp only at h2 ⊢
      split at h2
      · rename_i hw
        rw [if_pos hw]
        rcases h2 with h2 | ⟨_, a', w', hq⟩
        · exact Oper.wpIn_mono (fun a w hk => ih _ _ _ hk) (op_round (hd i o ho) h2)
        · exact absurd hq (hQ _ _)
      · rename_i hw
        rw [if_neg hw]
        exact ⟨fun _ _ => trivial, ih _ _ _ h2⟩

/-- a region that can only end as it should -/
def onlyN (Q : Exit → Act → World → Prop) : Exit → Act → World → Prop
  | .normal, a, w => Q .normal a w
  | _, _, _ => False
theorem calm {F : Fence} {n : Nat} {P : Program} {c : Code} {Q : Exit → Act → World → Prop} {a : Act} {w : World} (h : c.wpIn F n P (onlyN Q) a w) : c.wpIn F n P Q a w :=
  wpIn_mono h fun e _ _ hq => by cases e <;> first | exact hq | exact hq.elim

/-- a region in a round, with S held -/
theorem region_round {n l id : Nat} {P : Program} {ops : Array Oper} {Q : Exit → Act → World → Prop} {S : World → Prop} {a : Act} {w : World} (hm : P.follows .mixedOrders = true)
    (hd : (ops.all fun o => match o.op with | .defer _ => false | _ => true) = true) (hS : S w.drew)
    (h : S w.drew → wpAnyH P .any ops (onlyN Q) S ops.size (Array.replicate ops.size false) a w.drew) : (Code.region id ops true).wpIn (Fence.wide.inRound l) n P Q a w := by
  refine calm (wpIn_region_any hm (any_round (fun i o ho c hc => ?_) (fun _ _ h => h) _ _ _ _ (wpAny_of_held _ _ _ _ (h hS))))
  have := Array.all_eq_true.1 hd i (Array.getElem?_eq_some_iff.1 ho).1
  rw [(Array.getElem?_eq_some_iff.1 ho).2, hc] at this
  cases this

theorem rows_wide {n : Nat} {P : Program} {row : String} {args : Array Value} {w : World} {R : Value → World → Prop} (h : Rows P row args w R) : RowsIn Fence.wide n P row args w R := fun c cs _ => by
  obtain ⟨v, w', hr, hs⟩ := h c cs
  exact ⟨v, w', hr, stepsIn_wide.2 hs⟩

theorem op_wide {n : Nat} {P : Program} {o : Oper} {a : Act} {w : World} {K : Act → World → Prop} {Q : Exit → Act → World → Prop} (hd : ∀ c, o.op ≠ .defer c) (h : o.wp P a w K Q) : o.wpIn Fence.wide n P a w K Q := by
  refine ⟨fun _ _ => trivial, ?_⟩
  rw [Oper.semAt_eq _ _ _ hd]
  unfold Oper.wp at h
  generalize (execOp a.eval o).run P w = r at h ⊢
  cases r with
  | ok nx w' =>
    cases nx
    case enter f args =>
      refine ⟨fun hh => by simp [Fence.wide] at hh, (callsIn_wide (n := n - 1)).2 (h.mono fun e w'' he => ?_)⟩
      cases e <;> exact he
    case row row args => exact ⟨fun hh => by simp [Fence.wide] at hh, rows_wide h⟩
    all_goals first | exact h | exact h.elim
  | halt hh w' => cases hh <;> first | exact h | exact h.elim

theorem any_wide {n : Nat} {P : Program} {md : Region.Mode} {ops : Array Oper} {Q : Exit → Act → World → Prop} (hd : ∀ (i : Nat) (o : Oper), ops[i]? = some o → ∀ c, o.op ≠ Op.defer c) (hQ : ∀ a w, ¬ Q .outgrown a w) :
    ∀ (fuel : Nat) (listed : Array Bool) (a : Act) (w : World), wpAny P md ops Q fuel listed a w → wpAnyIn Fence.wide n P md ops Q fuel listed a w := by
  intro fuel
  induction fuel with
  | zero => intro listed a w h; exact h
  | succ fuel ih =>
    intro listed a w h
    refine ⟨h.1, fun i hi => ?_⟩
    have h2 := h.2 i hi
    unfold wpOp at h2
    unfold wpOpIn
    cases ho : ops[i]? with
    | none => rw [ho] at h2; exact ih _ _ _ h2
    | some o =>
      rw [ho] at h2
      simp only at h2 ⊢
      split at h2
      · rename_i hw
        rw [if_pos hw]
        rcases h2 with h2 | ⟨_, a', w', hq⟩
        · exact Oper.wpIn_mono (fun a w hk => ih _ _ _ hk) (op_wide (hd i o ho) h2)
        · exact absurd hq (hQ _ _)
      · rename_i hw
        rw [if_neg hw]
        exact ⟨fun _ _ => trivial, ih _ _ _ h2⟩

/-- a region at the wide fence, with S held -/
theorem region_wide {n id : Nat} {P : Program} {ops : Array Oper} {Q : Exit → Act → World → Prop} {S : World → Prop} {a : Act} {w : World} (hm : P.follows .mixedOrders = true)
    (hd : (ops.all fun o => match o.op with | .defer _ => false | _ => true) = true) (hS : S w.drew)
    (h : S w.drew → wpAnyH P .any ops (onlyN Q) S ops.size (Array.replicate ops.size false) a w.drew) : (Code.region id ops true).wpIn Fence.wide n P Q a w := by
  refine calm (wpIn_region_any hm (any_wide (fun i o ho c hc => ?_) (fun _ _ h => h) _ _ _ _ (wpAny_of_held _ _ _ _ (h hS))))
  have := Array.all_eq_true.1 hd i (Array.getElem?_eq_some_iff.1 ho).1
  rw [(Array.getElem?_eq_some_iff.1 ho).2, hc] at this
  cases this


end Go.Proofs.Ytnnngbnimmcjiaa
