/-
  JIter: a loop over a method of a value, whose body ends it at once.
-/
import Derived.Test.YtffnlimgjnhmpaaJKQ
import Derived.Test.YtffnlimgjnhmpaaJLink
import Derived.RangeFuncNested
import Derived.RangeFuncLeaves
import Derived.RangeFuncBound
import Derived.RangeFuncCalls
import Derived.Shelf.Abstract
import Derived.Shelf.RegionOpen
import Derived.OwnWalkIn
import Derived.TacticsInMore
import Derived.LoopNIn
import Derived.LoopIn
import Derived.Sort.QuietTacIn
namespace Go.Proofs.Ytffnlimgjnhmpaa
open Go.RowKit

/-- what an iterator does that is told to stop at once -/
def SeqS {α : Type} (F : Fence) (n : Nat) (P : Program) (g : Nat) (lb : Array Value) (encs : α → Array Value) (Ab : World → World → World → Prop) (G : α → World → Prop) (Sd Sp : Prop) (w : World) : Prop :=
  ∀ (l : Nat) (J Jx : List α → World → Prop) (W : World), Below w.heap.size w W → (∀ s A B, J s A → Ab W A B → J s B) → (∀ s A B, Jx s A → Ab W A B → Jx s B) →
    (∀ x W1, J [] W1 → G x W1 → YieldAt F (n - 1) P l (encs x) W1 fun e W' => e = .returned (.bool false) ∧ Jx [x] W') →
    J [] W →
    CallsIn F n P g (lb ++ #[.func (.yield l) #[] #[]]) W fun e W' => (∃ v, e = .returned v) ∧ ((Sd ∧ J [] W') ∨ (Sp ∧ ∃ x, Jx [x] W'))

/-- how a round's body may end -/
def endsL {α : Type} (B : Nat) (Kp : World → World → Prop) (I : List α → World → Prop) (Ix : Code → List α → World → Prop) (xs : List α) (W : World) : Exit → Act → World → Prop
  | .normal, _, W' => KeepsFrom B W W' ∧ Kp W W' ∧ I xs W'
  | .ret, _, W' => KeepsFrom B W W' ∧ Ix .ret xs W'
  | .exit id, _, W' => KeepsFrom B W W' ∧ Ix (.exit id) xs W'
  | .goto t, _, W' => KeepsFrom B W W' ∧ Ix (.goto t) xs W'
  | .panic _, _, _ => False
  | .outgrown, _, _ => False

/-- a fact that stands when a record at or beyond B turns -/
def Rec (B : Nat) (p : World → Prop) : Prop := ∀ (A : World) (l : Nat) (o o' : Obj), p A → B ≤ l → A.heap[l]? = some o → o.isCells = false → p (A.putObj l o')

section
variable {α : Type} {F : Fence} {n : Nat} {P : Program} {w : World}

/-- one round, seen from the iterator -/
theorem round_of {a : Act} {fn : Nat} {ps : Array Tmp} {assign body : Code} {dfr l : Nat} (hfn : F.fn fn) (hl0 : w.heap.size ≤ l)
    {encs : α → Array Value} {Kp : World → World → Prop} {G : α → World → Prop} {Np : List α → Prop} {m : Nat} (hKt : ∀ {A B C : World}, Kp A B → Kp B C → Kp A C)
    (hKb : ∀ (W : World) (l : Nat) (o o' : Obj), w.heap.size ≤ l → W.heap[l]? = some o → o.isCells = false → Kp W (W.putObj l o')) (hps : ∀ x, (encs x).size = ps.size)
    (Bk : World → Prop) (hBk : ∀ W W', Bk W → KeepsFrom w.heap.size W W' → Bk W') (hBp : ∀ W o', Bk W → Bk (W.putObj l o'))
    (I : List α → World → Prop) (Ix : Code → List α → World → Prop) (hI : ∀ s, Rec w.heap.size (I s)) (hIx : ∀ c s, Rec w.heap.size (Ix c s)) (hG : ∀ x, Rec w.heap.size (G x)) (Ax : α → Act → World → Prop) (hAx : ∀ x a', Rec w.heap.size (Ax x a'))
    (hassign : ∀ (pre : List α) (x : α) (W : World) (K : Act → World → Prop), I pre W → G x W → (∀ a' W', KeepsFrom w.heap.size W W' → Kp W W' → I pre W' → G x W' → Ax x a' W' → K a' W') →
      assign.wpIn (F.inRound l) m P (Exit.then K (fun _ _ _ => False)) { tmps := (ps.zip (encs x)).foldl (fun t (p, v) => t.setIfInBounds p v) a.tmps, defers := [] } W)
    (hbody : ∀ (pre : List α) (x : α) (a' : Act) (W : World), (∃ r, W.heap[l]? = some (.loop r)) → I pre W → G x W → Ax x a' W → Np pre → body.wpIn (F.inRound l) m P (endsL w.heap.size Kp I Ix (pre ++ [x]) W) a' W)
    (pre : List α) (x : α) (W1 : World) (hi : I pre W1) (hbk : Bk W1) (hrec : W1.heap[l]? = some (.loop { state := .ready, pending := none, fn := fn, tmps := a.tmps, params := ps, assign := assign, body := body, defers := dfr })) (hg : G x W1) (hlen : Np pre) :
    YieldAt F m P l (encs x) W1 fun e W' =>
      (e = .returned (.bool true) ∧ (I (pre ++ [x]) W' ∧ Bk W' ∧ W'.heap[l]? = some (.loop { state := .ready, pending := none, fn := fn, tmps := a.tmps, params := ps, assign := assign, body := body, defers := dfr })) ∧ Kp W1 W') ∨
      (e = .returned (.bool false) ∧ ∃ c, Ix c (pre ++ [x]) W' ∧ Bk W' ∧ W'.heap[l]? = some (.loop { state := .done, pending := some c, fn := fn, tmps := a.tmps, params := ps, assign := assign, body := body, defers := dfr })) := by
  obtain ⟨R, hR⟩ : ∃ R : LoopState → Option Code → Loop, R = fun st pe => { state := st, pending := pe, fn := fn, tmps := a.tmps, params := ps, assign := assign, body := body, defers := dfr } := ⟨_, rfl⟩
  have hl : W1.heap[l]? = some (.loop (R .ready none)) := by rw [hR]; exact hrec
  have goal1 : ∀ st pe, ({ state := st, pending := pe, fn := fn, tmps := a.tmps, params := ps, assign := assign, body := body, defers := dfr } : Loop) = R st pe := fun st pe => by rw [hR]
  simp only [goal1]
  have hy := run_yield (P := P) (args := encs x) hl (by rw [hR]; exact hps x)
  rw [hR] at hy
  refine ⟨fn, _, assign, body, hy, roundIn_of_wpIn hfn (hassign pre x W1 _ hi hg ?_)⟩
  intro a' Wa hka hkpa hia hga haxa
  replace hl := hka.same l _ hl0 hl rfl
  replace hbk := hBk _ _ hbk hka
  have hlt := (Array.getElem?_eq_some_iff.1 hl).1
  refine ⟨_, run_beginRound hl (by rw [hR]), ?_⟩
  have hbusy : (Wa.putObj l (.loop { R .ready none with state := .busy })).heap[l]? = some (.loop { R .ready none with state := .busy }) := World.putObj_heap_same hlt
  have hk0 : Kp W1 (Wa.putObj l (.loop { R .ready none with state := .busy })) := hKt hkpa (hKb _ _ _ _ hl0 hl rfl)
  refine wpIn_mono (hbody pre x a' _ ⟨_, hbusy⟩ (hI _ _ _ _ _ hia hl0 hl rfl) (hG _ _ _ _ _ hga hl0 hl rfl) (hAx _ _ _ _ _ _ haxa hl0 hl rfl) hlen) ?_
  have hbk1 := hBp Wa (.loop { R .ready none with state := .busy }) hbk
  generalize Wa.putObj l (.loop { R .ready none with state := .busy }) = Wb at hbusy hk0 hbk1 ⊢
  have last : ∀ (j : Option Code) (W3 : World), KeepsFrom w.heap.size Wb W3 →
      (Instr.endRound l j).run P W3 = .ok (.bool j.isNone) (W3.putObj l (.loop (R (if j.isNone then .ready else .done) j))) ∧ W3.heap[l]? = some (.loop { R .ready none with state := .busy }) ∧
      (W3.putObj l (.loop (R (if j.isNone then .ready else .done) j))).heap[l]? = some (.loop (R (if j.isNone then .ready else .done) j)) := fun j W3 hk => by
    have h3 := hk.same l _ hl0 hbusy rfl
    have he := run_endRound (P := P) j h3
    refine ⟨?_, h3, World.putObj_heap_same (Array.getElem?_eq_some_iff.1 h3).1⟩
    rw [hR] at he ⊢; exact he
  intro e a3 W3 hp
  cases e with
  | normal =>
    obtain ⟨hk, hkp, hi3⟩ := hp
    obtain ⟨h1, h2, h3⟩ := last none W3 hk
    exact ⟨_, _, h1, .inl ⟨rfl, ⟨hI _ _ _ _ _ hi3 hl0 h2 rfl, hBp _ _ (hBk _ _ hbk1 hk), h3⟩, hKt (hKt hk0 hkp) (hKb _ _ _ _ hl0 h2 rfl)⟩⟩
  | ret =>
    obtain ⟨hk, hi3⟩ := hp
    obtain ⟨h1, h2, h3⟩ := last (some .ret) W3 hk
    exact ⟨_, _, h1, .inr ⟨rfl, .ret, hIx _ _ _ _ _ _ hi3 hl0 h2 rfl, hBp _ _ (hBk _ _ hbk1 hk), h3⟩⟩
  | exit id =>
    obtain ⟨hk, hi3⟩ := hp
    obtain ⟨h1, h2, h3⟩ := last (some (.exit id)) W3 hk
    exact ⟨_, _, h1, .inr ⟨rfl, .exit id, hIx _ _ _ _ _ _ hi3 hl0 h2 rfl, hBp _ _ (hBk _ _ hbk1 hk), h3⟩⟩
  | goto t =>
    obtain ⟨hk, hi3⟩ := hp
    obtain ⟨h1, h2, h3⟩ := last (some (.goto t)) W3 hk
    exact ⟨_, _, h1, .inr ⟨rfl, .goto t, hIx _ _ _ _ _ _ hi3 hl0 h2 rfl, hBp _ _ (hBk _ _ hbk1 hk), h3⟩⟩
  | panic ch => exact hp.elim
  | outgrown => exact hp.elim

/-- the loop, where it stands in no other one -/
theorem rangeS {g : Operand} {ps : Array Tmp} {assign body : Code} {Q : Exit → Act → World → Prop} {a : Act}
    (hro : F.round = none) (h1 : 1 ≤ n) {gf : Nat} {lb : Array Value} (hg : a.eval g = .func (.func gf) lb #[]) (hFg : F.fn gf) (eg : ∀ args w, (callFunc gf args).run P w = .ok (.enter gf args) w)
    {encs : α → Array Value} {Kp : World → World → Prop} {Ab : World → World → World → Prop} {G : α → World → Prop} {Sd Sp : Prop} {w0 : World} (hseq : SeqS F (n - 1) P gf lb encs Ab G Sd Sp w0)
    (hKt : ∀ {A B C : World}, Kp A B → Kp B C → Kp A C) (hKb : ∀ (W : World) (l : Nat) (o o' : Obj), w.heap.size ≤ l → W.heap[l]? = some o → o.isCells = false → Kp W (W.putObj l o')) (hb0 : Below w0.heap.size w0 w) (hps : ∀ x, (encs x).size = ps.size)
    (hAb : ∀ W A B (k : Nat) (o : Obj), Ab W A B → k < W.heap.size → A.heap[k]? = some o → o.isCells = false → B.heap[k]? = some o)
    (I : List α → World → Prop) (Ix : Code → List α → World → Prop) (hI : ∀ s, Rec w.heap.size (I s)) (hIx : ∀ c s, Rec w.heap.size (Ix c s)) (hG : ∀ x, Rec w.heap.size (G x))
    (hIA : ∀ W s A B, w.heap.size ≤ W.heap.size → I s A → Ab W A B → I s B) (hIxA : ∀ W c s A B, w.heap.size ≤ W.heap.size → Ix c s A → Ab W A B → Ix c s B) (hIa : ∀ s A o, I s A → I s (A.alloc o)) (h0 : I [] w) (hI1 : ∀ s A, I s A → s = []) (Ax : α → Act → World → Prop) (hAx : ∀ x a', Rec w.heap.size (Ax x a'))
    (hassign : ∀ (l : Nat) (pre : List α) (x : α) (W : World) (K : Act → World → Prop), I pre W → G x W → (∀ a' W', KeepsFrom w.heap.size W W' → Kp W W' → I pre W' → G x W' → Ax x a' W' → K a' W') →
      assign.wpIn (F.inRound l) (n - 1 - 1) P (Exit.then K (fun _ _ _ => False)) { tmps := (ps.zip (encs x)).foldl (fun t (p, v) => t.setIfInBounds p v) a.tmps, defers := [] } W)
    (hbody : ∀ (l : Nat) (pre : List α) (x : α) (a' : Act) (W : World), w.heap.size ≤ l → (∃ r, W.heap[l]? = some (.loop r)) → I pre W → G x W → Ax x a' W → body.wpIn (F.inRound l) (n - 1 - 1) P (endsL w.heap.size Kp I Ix (pre ++ [x]) W) a' W)
    (hdone : ∀ (D : Nat) (W : World), w.heap.size ≤ D → Sd → I [] W → W.heap[D]? = some (.deferred (some [])) → Q .normal { a with defers := { target := .collected D, args := #[] } :: a.defers } W)
    (hstop : ∀ (D : Nat) (c : Code) (x : α) (W : World), w.heap.size ≤ D → Sp → Ix c [x] W → W.heap[D]? = some (.deferred (some [])) → c.wpIn F n P Q { a with defers := { target := .collected D, args := #[] } :: a.defers } W) :
    (Code.rangeFunc g ps assign body).wpIn F n P Q a w := by
  refine wpIn_rangeFunc fun fn hfn => ?_
  rw [hro]
  obtain ⟨R, hR⟩ : ∃ R : LoopState → Option Code → Loop, R = fun st pe => { state := st, pending := pe, fn := fn, tmps := a.tmps, params := ps, assign := assign, body := body, defers := w.heap.size } := ⟨_, rfl⟩
  obtain ⟨W1, hW1⟩ : ∃ W1, (w.alloc (.deferred (some []))).alloc (.loop (R .ready none)) = W1 := ⟨_, rfl⟩
  have hs1 : W1.heap.size = w.heap.size + 2 := by rw [← hW1]; simp
  have hl1 : W1.heap[w.heap.size + 1]? = some (.loop (R .ready none)) := by
    rw [← hW1]; have := World.alloc_heap_new (w.alloc (.deferred (some []))) (.loop (R .ready none)); rwa [World.size_alloc] at this
  have hd1 : W1.heap[w.heap.size]? = some (.deferred (some [])) := by
    rw [← hW1]; exact (Below.heap_alloc _ _ _ (by simp)).trans (World.alloc_heap_new w _)
  have hb1 : Below w0.heap.size w0 W1 := by rw [← hW1]; exact hb0.trans ((below2 (Nat.le_refl _) _ _).mono hb0.size)
  have hi1 : I [] W1 := by rw [← hW1]; exact hIa _ _ _ (hIa _ _ _ h0)
  refine ⟨w.heap.size + 1, [{ target := .collected w.heap.size, args := #[] }], W1, { target := .fn (.func gf) #[], args := lb ++ #[.func (.yield (w.heap.size + 1)) #[] #[]] }, W1, gf,
    lb ++ #[.func (.yield (w.heap.size + 1)) #[] #[]], W1, by rw [← hW1, hR]; exact run_enterLoop_outer _ _ _ _ _, by simp only [resolve, hg]; simp [go_sem], ?_, by simp [invoke, go_sem, eg], fun _ => h1, ?_⟩
  · intro f' hf'; simp [Target.leads] at hf'; subst hf'; exact hFg
  have hBk : ∀ W W', W.heap[w.heap.size]? = some (Obj.deferred (some [])) → KeepsFrom w.heap.size W W' → W'.heap[w.heap.size]? = some (Obj.deferred (some [])) := fun W W' h k => k.same _ _ (Nat.le_refl _) h rfl
  have hBp : ∀ (W : World) o', W.heap[w.heap.size]? = some (Obj.deferred (some [])) → (W.putObj (w.heap.size + 1) o').heap[w.heap.size]? = some (Obj.deferred (some [])) := fun W o' h => (World.putObj_heap_other (by omega)).trans h
  refine (hseq (w.heap.size + 1)
    (fun pre W => I pre W ∧ W.heap[w.heap.size]? = some (.deferred (some [])) ∧ W.heap[w.heap.size + 1]? = some (.loop (R .ready none)))
    (fun pre W => ∃ c, Ix c pre W ∧ W.heap[w.heap.size]? = some (.deferred (some [])) ∧ W.heap[w.heap.size + 1]? = some (.loop (R .done (some c)))) W1 hb1
    (fun s A B h k => ⟨hIA W1 s A B (by omega) h.1 k, hAb _ _ _ _ _ k (by omega) h.2.1 rfl, hAb _ _ _ _ _ k (by omega) h.2.2 rfl⟩)
    (fun s A B h k => by obtain ⟨c, h1, h2, h3⟩ := h; exact ⟨c, hIxA W1 c s A B (by omega) h1 k, hAb _ _ _ _ _ k (by omega) h2 rfl, hAb _ _ _ _ _ k (by omega) h3 rfl⟩)
    ?_ ⟨hi1, hd1, hl1⟩).mono ?_
  · intro x W hJ hgx
    rw [hR]
    refine YieldAt.mono (round_of (w := w) (Kp := Kp) (Np := fun _ => True) (a := a) (fn := fn) (dfr := w.heap.size) (l := w.heap.size + 1) hfn (by omega) (fun h k => hKt h k) hKb hps _ hBk hBp I Ix hI hIx hG Ax hAx (hassign _) (fun pre x a' W hr hi hg hx _ => hbody (w.heap.size + 1) pre x a' W (Nat.le_succ _) hr hi hg hx) [] x W hJ.1 hJ.2.1 (by have := hJ.2.2; rw [hR] at this; exact this) hgx trivial) fun e W' h => ?_
    rcases h with ⟨_, ⟨h, _⟩, _⟩ | h
    · exact absurd (hI1 _ _ h) (by simp)
    · exact h
  · rintro e W2 ⟨⟨v, rfl⟩, (⟨hS, hi, hk, hl⟩ | ⟨hSp, x, c, hi, hk, hl⟩)⟩
    · exact ⟨none, _, by have := run_endLoop (P := P) hl (by rw [hR]; simp); rw [hR] at this; exact this, hdone _ _ (Nat.le_refl _) hS (hI _ _ _ _ _ hi (by omega) hl rfl) ((World.putObj_heap_other (by omega)).trans hk)⟩
    · exact ⟨some c, _, by have := run_endLoop (P := P) hl (by rw [hR]; simp); rw [hR] at this; exact this, hstop _ c x _ (Nat.le_refl _) hSp (hIx c _ _ _ _ _ hi (by omega) hl rfl) ((World.putObj_heap_other (by omega)).trans hk)⟩

end
end Go.Proofs.Ytffnlimgjnhmpaa
