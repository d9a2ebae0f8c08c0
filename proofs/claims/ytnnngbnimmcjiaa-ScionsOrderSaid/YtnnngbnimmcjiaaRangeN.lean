/-
  RangeN: a loop over an iterator, no round of which ends it.
-/
import Derived.Test.YtnnngbnimmcjiaaRegion
namespace Go.Proofs.Ytnnngbnimmcjiaa
open Go.RowKit

/-- what an iterator does that is never told to stop -/
def SeqN {α : Type} (F : Fence) (n : Nat) (P : Program) (g : Nat) (lb : Array Value) (encs : α → Array Value) (Kp : World → World → Prop) (Ab : World → World → World → Prop) (G : α → World → Prop) (S : List α → Prop) (w : World) : Prop :=
  ∀ (l : Nat) (J : List α → World → Prop) (W : World), Below w.heap.size w W → (∀ s A B, J s A → Ab W A B → J s B) →
    (∀ pre x W1, J pre W1 → G x W1 → YieldAt F (n - 1) P l (encs x) W1 fun e W' => e = .returned (.bool true) ∧ J (pre ++ [x]) W' ∧ Kp W1 W') →
    J [] W →
    CallsIn F n P g (#[.func (.yield l) #[] #[]] ++ lb) W fun e W' => (∃ v, e = .returned v) ∧ ∃ xs, S xs ∧ J xs W'

section
variable {α : Type} {F : Fence} {n : Nat} {P : Program} {w : World}

/-- the loop, where it stands in no other one, and no round ends it -/
theorem rangeNo {g : Operand} {ps : Array Tmp} {assign body : Code} {Q : Exit → Act → World → Prop} {a : Act}
    (hro : F.round = none) (h1 : 1 ≤ n) {gf : Nat} {lb : Array Value} (hg : a.eval g = .func (.func gf) #[] lb) (hFg : F.fn gf) (eg : ∀ args w, (callFunc gf args).run P w = .ok (.enter gf args) w)
    {encs : α → Array Value} {Kp : World → World → Prop} {Ab : World → World → World → Prop} {G : α → World → Prop} {S : List α → Prop} {w0 : World} (hseq : SeqN F (n - 1) P gf lb encs Kp Ab G S w0)
    (hKt : ∀ {A B C : World}, Kp A B → Kp B C → Kp A C) (hKb : ∀ (W : World) (l : Nat) (o o' : Obj), w.heap.size ≤ l → W.heap[l]? = some o → o.isCells = false → Kp W (W.putObj l o')) (hb0 : Below w0.heap.size w0 w) (hps : ∀ x, (encs x).size = ps.size)
    (hAb : ∀ W A B (k : Nat) (o : Obj), Ab W A B → k < W.heap.size → A.heap[k]? = some o → o.isCells = false → B.heap[k]? = some o)
    (I : List α → World → Prop) (hI : ∀ s, Rec w.heap.size (I s)) (hG : ∀ x, Rec w.heap.size (G x))
    (hIA : ∀ W s A B, w.heap.size ≤ W.heap.size → I s A → Ab W A B → I s B) (hIa : ∀ s A o, I s A → I s (A.alloc o)) (h0 : I [] w) (Ax : α → Act → World → Prop) (hAx : ∀ x a', Rec w.heap.size (Ax x a'))
    (hassign : ∀ (l : Nat) (pre : List α) (x : α) (W : World) (K : Act → World → Prop), I pre W → G x W → (∀ a' W', KeepsFrom w.heap.size W W' → Kp W W' → I pre W' → G x W' → Ax x a' W' → K a' W') →
      assign.wpIn (F.inRound l) (n - 1 - 1) P (Exit.then K (fun _ _ _ => False)) { tmps := (ps.zip (encs x)).foldl (fun t (p, v) => t.setIfInBounds p v) a.tmps, defers := [] } W)
    (hbody : ∀ (l : Nat) (pre : List α) (x : α) (a' : Act) (W : World), w.heap.size ≤ l → (∃ r, W.heap[l]? = some (.loop r)) → I pre W → G x W → Ax x a' W → body.wpIn (F.inRound l) (n - 1 - 1) P (endsL w.heap.size Kp I (fun _ _ _ => False) (pre ++ [x]) W) a' W)
    (hdone : ∀ (D : Nat) (xs : List α) (W : World), w.heap.size ≤ D → S xs → I xs W → W.heap[D]? = some (.deferred (some [])) → Q .normal { a with defers := { target := .collected D, args := #[] } :: a.defers } W) :
    (Code.rangeFunc g ps assign body).wpIn F n P Q a w := by
  refine wpIn_rangeFunc fun fn hfn => ?_
  rw [hro]
  obtain ⟨R, hR⟩ : ∃ R : LoopState → Option Code → Loop, R = fun st pe => { state := st, pending := pe, fn := fn, tmps := a.tmps, params := ps, assign := assign, body := body, defers := w.heap.size } := ⟨_, rfl⟩
  obtain ⟨W1, hW1⟩ : ∃ W1, (w.alloc (.deferred (some []))).alloc (.loop (R .ready none)) = W1 := ⟨_, rfl⟩
  have hs1 : W1.heap.size = w.heap.size + 2 := by rw [← hW1]; simp
  have hl1 : W1.heap[w.heap.size + 1]? = some (.loop (R .ready none)) := by
    rw [← hW1]; have := World.alloc_heap_new (w.alloc (.deferred (some []))) (.loop (R .ready none)); rwa [World.size_alloc] at this
  have hd1 : W1.heap[w.heap.size]? = some (.deferred (some [])) := by
    rw [← hW1]; exact (Below.heap_alloc _ _ _ (by simp)).trans (World.alloc_heap_new w _)
  have hb1 : Below w0.heap.size w0 W1 := by rw [← hW1]; exact hb0.trans ((below2 (Nat.le_refl _) _ _).mono hb0.size)
  have hi1 : I [] W1 := by rw [← hW1]; exact hIa _ _ _ (hIa _ _ _ h0)
  refine ⟨w.heap.size + 1, [{ target := .collected w.heap.size, args := #[] }], W1, { target := .fn (.func gf) lb, args := #[.func (.yield (w.heap.size + 1)) #[] #[]] }, W1, gf,
    #[.func (.yield (w.heap.size + 1)) #[] #[]] ++ lb, W1, by rw [← hW1, hR]; exact run_enterLoop_outer _ _ _ _ _, by simp only [resolve, hg]; simp [go_sem], ?_, by simp [invoke, go_sem, eg], fun _ => h1, ?_⟩
  · intro f' hf'; simp [Target.leads] at hf'; subst hf'; exact hFg
  have hBk : ∀ W W', W.heap[w.heap.size]? = some (Obj.deferred (some [])) → KeepsFrom w.heap.size W W' → W'.heap[w.heap.size]? = some (Obj.deferred (some [])) := fun W W' h k => k.same _ _ (Nat.le_refl _) h rfl
  have hBp : ∀ (W : World) o', W.heap[w.heap.size]? = some (Obj.deferred (some [])) → (W.putObj (w.heap.size + 1) o').heap[w.heap.size]? = some (Obj.deferred (some [])) := fun W o' h => (World.putObj_heap_other (by omega)).trans h
  refine (hseq (w.heap.size + 1)
    (fun pre W => I pre W ∧ W.heap[w.heap.size]? = some (.deferred (some [])) ∧ W.heap[w.heap.size + 1]? = some (.loop (R .ready none)))
    W1 hb1
    (fun s A B h k => ⟨hIA W1 s A B (by omega) h.1 k, hAb _ _ _ _ _ k (by omega) h.2.1 rfl, hAb _ _ _ _ _ k (by omega) h.2.2 rfl⟩)
    ?_ ⟨hi1, hd1, hl1⟩).mono ?_
  · intro pre x W hJ hgx
    rw [hR]
    refine YieldAt.mono (round_of (w := w) (Kp := Kp) (Np := fun _ => True) (a := a) (fn := fn) (dfr := w.heap.size) (l := w.heap.size + 1) hfn (by omega) (fun h k => hKt h k) hKb hps _ hBk hBp I (fun _ _ _ => False) hI (fun _ _ _ _ _ _ h _ _ _ => h) hG Ax hAx (hassign _) (fun pre x a' W hr hi hg hx _ => hbody (w.heap.size + 1) pre x a' W (Nat.le_succ _) hr hi hg hx) pre x W hJ.1 hJ.2.1 (by have := hJ.2.2; rw [hR] at this; exact this) hgx trivial) fun e W' h => ?_
    rcases h with h | ⟨_, c, h, _⟩
    · exact h
    · exact h.elim
  · rintro e W2 ⟨⟨v, rfl⟩, xs, hS, hi, hk, hl⟩
    exact ⟨none, _, by have := run_endLoop (P := P) hl (by rw [hR]; simp); rw [hR] at this; exact this, hdone _ xs _ (Nat.le_refl _) hS (hI _ _ _ _ _ hi (by omega) hl rfl) ((World.putObj_heap_other (by omega)).trans hk)⟩

end
end Go.Proofs.Ytnnngbnimmcjiaa
