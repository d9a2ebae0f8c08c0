/-
  Range: a loop over an iterator whose rounds are told a fact of the world (G), and which may itself change memory of its own between two rounds (Ab).
-/
import Derived.Test.YtnnngbnimmcjiaaBase
import Derived.RangeFuncNested
import Derived.RangeFuncLeaves
import Derived.RangeFuncBound
import Derived.RangeFuncCalls
import Derived.RangeFuncKeeps
import Derived.Shelf.Abstract
import Derived.Shelf.RegionOpen
import Derived.OwnWalkIn
import Derived.TacticsInMore
import Derived.LoopNIn
import Derived.LoopIn
import Derived.Sort.QuietTacIn
namespace Go.Proofs.Ytnnngbnimmcjiaa
open Go.RowKit

/-- what an iterator does: it yields values x of which G holds then; between two rounds it changes a world A to one B with Ab W A B only (W: where it began); what a round keeps is Kp -/
def SeqL {α : Type} (F : Fence) (n : Nat) (P : Program) (g : Nat) (lb : Array Value) (encs : α → Array Value) (Kp : World → World → Prop) (Ab : World → World → World → Prop) (G : α → World → Prop) (S Sp : List α → Prop) (Np : List α → Prop) (w : World) : Prop :=
  ∀ (l : Nat) (J Jx : List α → World → Prop) (W : World), Below w.heap.size w W → (∀ s A B, J s A → Ab W A B → J s B) → (∀ s A B, Jx s A → Ab W A B → Jx s B) →
    (∀ pre x W1, J pre W1 → G x W1 → Np pre → YieldAt F (n - 1) P l (encs x) W1 fun e W' =>
      (e = .returned (.bool true) ∧ J (pre ++ [x]) W' ∧ Kp W1 W') ∨ (e = .returned (.bool false) ∧ Jx (pre ++ [x]) W')) →
    J [] W →
    CallsIn F n P g (#[.func (.yield l) #[] #[]] ++ lb) W fun e W' => (∃ v, e = .returned v) ∧ ((∃ xs, S xs ∧ J xs W') ∨ (∃ pre, Sp pre ∧ Jx pre W'))

theorem SeqL.inRound {α : Type} {F : Fence} {n : Nat} {P : Program} {g : Nat} {lb : Array Value} {encs : α → Array Value} {Kp : World → World → Prop} {Ab : World → World → World → Prop} {G : α → World → Prop} {S Sp Np : List α → Prop} {w : World} (l : Nat)
    (h : SeqL F n P g lb encs Kp Ab G S Sp Np w) : SeqL (F.inRound l) n P g lb encs Kp Ab G S Sp Np w := h

/-- how a round's body may end -/
def endsL {α : Type} (B : Nat) (Kp : World → World → Prop) (I : List α → World → Prop) (Ix : Code → List α → World → Prop) (xs : List α) (W : World) : Exit → Act → World → Prop
  | .normal, _, W' => KeepsFrom B W W' ∧ Kp W W' ∧ I xs W'
  | .ret, _, W' => KeepsFrom B W W' ∧ Ix .ret xs W'
  | .exit id, _, W' => KeepsFrom B W W' ∧ Ix (.exit id) xs W'
  | .goto t, _, W' => KeepsFrom B W W' ∧ Ix (.goto t) xs W'
  | .panic _, _, _ => False
  | .outgrown, _, _ => False

/-- a fact that stands when a record at or beyond B turns -/
def Rec (B : Nat) (p : World → Prop) : Prop := ∀ (A : World) (l : Nat) (o o' : Obj), p A → B ≤ l → A.heap[l]? = some o → o.isCells = false → p (A.putObj l o')

section
variable {α : Type} {F : Fence} {n : Nat} {P : Program} {w : World}

/-- one round, seen from the iterator -/
theorem round_of {a : Act} {fn : Nat} {ps : Array Tmp} {assign body : Code} {dfr l : Nat} (hfn : F.fn fn) (hl0 : w.heap.size ≤ l)
    {encs : α → Array Value} {Kp : World → World → Prop} {G : α → World → Prop} {Np : List α → Prop} {m : Nat} (hKt : ∀ {A B C : World}, Kp A B → Kp B C → Kp A C)
    (hKb : ∀ (W : World) (l : Nat) (o o' : Obj), w.heap.size ≤ l → W.heap[l]? = some o → o.isCells = false → Kp W (W.putObj l o')) (hps : ∀ x, (encs x).size = ps.size)
    (Bk : World → Prop) (hBk : ∀ W W', Bk W → KeepsFrom w.heap.size W W' → Bk W') (hBp : ∀ W o', Bk W → Bk (W.putObj l o'))
    (I : List α → World → Prop) (Ix : Code → List α → World → Prop) (hI : ∀ s, Rec w.heap.size (I s)) (hIx : ∀ c s, Rec w.heap.size (Ix c s)) (hG : ∀ x, Rec w.heap.size (G x)) (Ax : α → Act → World → Prop) (hAx : ∀ x a', Rec w.heap.size (Ax x a'))
    (hassign : ∀ (pre : List α) (x : α) (W : World) (K : Act → World → Prop), I pre W → G x W → (∀ a' W', KeepsFrom w.heap.size W W' → Kp W W' → I pre W' → G x W' → Ax x a' W' → K a' W') →
      assign.wpIn (F.inRound l) m P (Exit.then K (fun _ _ _ => False)) { tmps := (ps.zip (encs x)).foldl (fun t (p, v) => t.setIfInBounds p v) a.tmps, defers := [] } W)
    (hbody : ∀ (pre : List α) (x : α) (a' : Act) (W : World), (∃ r, W.heap[l]? = some (.loop r)) → I pre W → G x W → Ax x a' W → Np pre → body.wpIn (F.inRound l) m P (endsL w.heap.size Kp I Ix (pre ++ [x]) W) a' W)
    (pre : List α) (x : α) (W1 : World) (hi : I pre W1) (hbk : Bk W1) (hrec : W1.heap[l]? = some (.loop { state := .ready, pending := none, fn := fn, tmps := a.tmps, params := ps, assign := assign, body := body, defers := dfr })) (hg : G x W1) (hlen : Np pre) :
    YieldAt F m P l (encs x) W1 fun e W' =>
      (e = .returned (.bool true) ∧ (I (pre ++ [x]) W' ∧ Bk W' ∧ W'.heap[l]? = some (.loop { state := .ready, pending := none, fn := fn, tmps := a.tmps, params := ps, assign := assign, body := body, defers := dfr })) ∧ Kp W1 W') ∨
      (e = .returned (.bool false) ∧ ∃ c, Ix c (pre ++ [x]) W' ∧ Bk W' ∧ W'.heap[l]? = some (.loop { state := .done, pending := some c, fn := fn, tmps := a.tmps, params := ps, assign := assign, body := body, defers := dfr })) := by
  obtain ⟨R, hR⟩ : ∃ R : LoopState → Option Code → Loop, R = fun st pe => { state := st, pending := pe, fn := fn, tmps := a.tmps, params := ps, assign := assign, body := body, defers := dfr } := ⟨_, rfl⟩
  have hl : W1.heap[l]? = some (.loop (R .ready none)) := by rw [hR]; exact hrec
  have goal1 : ∀ st pe, ({ state := st, pending := pe, fn := fn, tmps := a.tmps, params := ps, assign := assign, body := body, defers := dfr } : Loop) = R st pe := fun st pe => by rw [hR]
  simp only [goal1]
  have hy := run_yield (P := P) (args := encs x) hl (by rw [hR]; exact hps x)
  rw [hR] at hy
  refine ⟨fn, _, assign, body, hy, roundIn_of_wpIn hfn (hassign pre x W1 _ hi hg ?_)⟩
  intro a' Wa hka hkpa hia hga haxa
  replace hl := hka.same l _ hl0 hl rfl
  replace hbk := hBk _ _ hbk hka
  have hlt := (Array.getElem?_eq_some_iff.1 hl).1
  refine ⟨_, run_beginRound hl (by rw [hR]), ?_⟩
  have hbusy : (Wa.putObj l (.loop { R .ready none with state := .busy })).heap[l]? = some (.loop { R .ready none with state := .busy }) := World.putObj_heap_same hlt
  have hk0 : Kp W1 (Wa.putObj l (.loop { R .ready none with state := .busy })) := hKt hkpa (hKb _ _ _ _ hl0 hl rfl)
  refine wpIn_mono (hbody pre x a' _ ⟨_, hbusy⟩ (hI _ _ _ _ _ hia hl0 hl rfl) (hG _ _ _ _ _ hga hl0 hl rfl) (hAx _ _ _ _ _ _ haxa hl0 hl rfl) hlen) ?_
  have hbk1 := hBp Wa (.loop { R .ready none with state := .busy }) hbk
  generalize Wa.putObj l (.loop { R .ready none with state := .busy }) = Wb at hbusy hk0 hbk1 ⊢
  have last : ∀ (j : Option Code) (W3 : World), KeepsFrom w.heap.size Wb W3 →
      (Instr.endRound l j).run P W3 = .ok (.bool j.isNone) (W3.putObj l (.loop (R (if j.isNone then .ready else .done) j))) ∧ W3.heap[l]? = some (.loop { R .ready none with state := .busy }) ∧
      (W3.putObj l (.loop (R (if j.isNone then .ready else .done) j))).heap[l]? = some (.loop (R (if j.isNone then .ready else .done) j)) := fun j W3 hk => by
    have h3 := hk.same l _ hl0 hbusy rfl
    have he := run_endRound (P := P) j h3
    refine ⟨?_, h3, World.putObj_heap_same (Array.getElem?_eq_some_iff.1 h3).1⟩
    rw [hR] at he ⊢; exact he
  intro e a3 W3 hp
  cases e with
  | normal =>
    obtain ⟨hk, hkp, hi3⟩ := hp
    obtain ⟨h1, h2, h3⟩ := last none W3 hk
    exact ⟨_, _, h1, .inl ⟨rfl, ⟨hI _ _ _ _ _ hi3 hl0 h2 rfl, hBp _ _ (hBk _ _ hbk1 hk), h3⟩, hKt (hKt hk0 hkp) (hKb _ _ _ _ hl0 h2 rfl)⟩⟩
  | ret =>
    obtain ⟨hk, hi3⟩ := hp
    obtain ⟨h1, h2, h3⟩ := last (some .ret) W3 hk
    exact ⟨_, _, h1, .inr ⟨rfl, .ret, hIx _ _ _ _ _ _ hi3 hl0 h2 rfl, hBp _ _ (hBk _ _ hbk1 hk), h3⟩⟩
  | exit id =>
    obtain ⟨hk, hi3⟩ := hp
    obtain ⟨h1, h2, h3⟩ := last (some (.exit id)) W3 hk
    exact ⟨_, _, h1, .inr ⟨rfl, .exit id, hIx _ _ _ _ _ _ hi3 hl0 h2 rfl, hBp _ _ (hBk _ _ hbk1 hk), h3⟩⟩
  | goto t =>
    obtain ⟨hk, hi3⟩ := hp
    obtain ⟨h1, h2, h3⟩ := last (some (.goto t)) W3 hk
    exact ⟨_, _, h1, .inr ⟨rfl, .goto t, hIx _ _ _ _ _ _ hi3 hl0 h2 rfl, hBp _ _ (hBk _ _ hbk1 hk), h3⟩⟩
  | panic ch => exact hp.elim
  | outgrown => exact hp.elim

/-- the loop, where it stands in no other one -/
theorem rangeLH {g : Operand} {ps : Array Tmp} {assign body : Code} {Q : Exit → Act → World → Prop} {a : Act}
    (hro : F.round = none) (h1 : 1 ≤ n) {gf : Nat} {lb : Array Value} (hg : a.eval g = .func (.func gf) #[] lb) (hFg : F.fn gf) (eg : ∀ args w, (callFunc gf args).run P w = .ok (.enter gf args) w)
    {encs : α → Array Value} {Kp : World → World → Prop} {Ab : World → World → World → Prop} {G : α → World → Prop} {S Sp Np : List α → Prop} {w0 : World} (hseq : SeqL F (n - 1) P gf lb encs Kp Ab G S Sp Np w0)
    (hKt : ∀ {A B C : World}, Kp A B → Kp B C → Kp A C) (hKb : ∀ (W : World) (l : Nat) (o o' : Obj), w.heap.size ≤ l → W.heap[l]? = some o → o.isCells = false → Kp W (W.putObj l o')) (hb0 : Below w0.heap.size w0 w) (hps : ∀ x, (encs x).size = ps.size)
    (hAb : ∀ W A B (k : Nat) (o : Obj), Ab W A B → k < W.heap.size → A.heap[k]? = some o → o.isCells = false → B.heap[k]? = some o)
    (I : List α → World → Prop) (Ix : Code → List α → World → Prop) (hI : ∀ s, Rec w.heap.size (I s)) (hIx : ∀ c s, Rec w.heap.size (Ix c s)) (hG : ∀ x, Rec w.heap.size (G x))
    (hIA : ∀ W s A B, w.heap.size ≤ W.heap.size → I s A → Ab W A B → I s B) (hIxA : ∀ W c s A B, w.heap.size ≤ W.heap.size → Ix c s A → Ab W A B → Ix c s B) (hIa : ∀ s A o, I s A → I s (A.alloc o)) (h0 : I [] w) (Ax : α → Act → World → Prop) (hAx : ∀ x a', Rec w.heap.size (Ax x a'))
    (hassign : ∀ (l : Nat) (pre : List α) (x : α) (W : World) (K : Act → World → Prop), I pre W → G x W → (∀ a' W', KeepsFrom w.heap.size W W' → Kp W W' → I pre W' → G x W' → Ax x a' W' → K a' W') →
      assign.wpIn (F.inRound l) (n - 1 - 1) P (Exit.then K (fun _ _ _ => False)) { tmps := (ps.zip (encs x)).foldl (fun t (p, v) => t.setIfInBounds p v) a.tmps, defers := [] } W)
    (hbody : ∀ (l : Nat) (pre : List α) (x : α) (a' : Act) (W : World), w.heap.size ≤ l → (∃ r, W.heap[l]? = some (.loop r)) → I pre W → G x W → Ax x a' W → Np pre → body.wpIn (F.inRound l) (n - 1 - 1) P (endsL w.heap.size Kp I Ix (pre ++ [x]) W) a' W)
    (hdone : ∀ (D : Nat) (xs : List α) (W : World), w.heap.size ≤ D → S xs → I xs W → W.heap[D]? = some (.deferred (some [])) → Q .normal { a with defers := { target := .collected D, args := #[] } :: a.defers } W)
    (hstop : ∀ (D : Nat) (c : Code) (pre : List α) (W : World), w.heap.size ≤ D → Sp pre → Ix c pre W → W.heap[D]? = some (.deferred (some [])) → c.wpIn F n P Q { a with defers := { target := .collected D, args := #[] } :: a.defers } W) :
    (Code.rangeFunc g ps assign body).wpIn F n P Q a w := by
  refine wpIn_rangeFunc fun fn hfn => ?_
  rw [hro]
  obtain ⟨R, hR⟩ : ∃ R : LoopState → Option Code → Loop, R = fun st pe => { state := st, pending := pe, fn := fn, tmps := a.tmps, params := ps, assign := assign, body := body, defers := w.heap.size } := ⟨_, rfl⟩
  obtain ⟨W1, hW1⟩ : ∃ W1, (w.alloc (.deferred (some []))).alloc (.loop (R .ready none)) = W1 := ⟨_, rfl⟩
  have hs1 : W1.heap.size = w.heap.size + 2 := by rw [← hW1]; simp
  have hl1 : W1.heap[w.heap.size + 1]? = some (.loop (R .ready none)) := by
    rw [← hW1]; have := World.alloc_heap_new (w.alloc (.deferred (some []))) (.loop (R .ready none)); rwa [World.size_alloc] at this
  have hd1 : W1.heap[w.heap.size]? = some (.deferred (some [])) := by
    rw [← hW1]; exact (Below.heap_alloc _ _ _ (by simp)).trans (World.alloc_heap_new w _)
  have hb1 : Below w0.heap.size w0 W1 := by rw [← hW1]; exact hb0.trans ((below2 (Nat.le_refl _) _ _).mono hb0.size)
  have hi1 : I [] W1 := by rw [← hW1]; exact hIa _ _ _ (hIa _ _ _ h0)
  refine ⟨w.heap.size + 1, [{ target := .collected w.heap.size, args := #[] }], W1, { target := .fn (.func gf) lb, args := #[.func (.yield (w.heap.size + 1)) #[] #[]] }, W1, gf,
    #[.func (.yield (w.heap.size + 1)) #[] #[]] ++ lb, W1, by rw [← hW1, hR]; exact run_enterLoop_outer _ _ _ _ _, by simp only [resolve, hg]; simp [go_sem], ?_, by simp [invoke, go_sem, eg], fun _ => h1, ?_⟩
  · intro f' hf'; simp [Target.leads] at hf'; subst hf'; exact hFg
  have hBk : ∀ W W', W.heap[w.heap.size]? = some (Obj.deferred (some [])) → KeepsFrom w.heap.size W W' → W'.heap[w.heap.size]? = some (Obj.deferred (some [])) := fun W W' h k => k.same _ _ (Nat.le_refl _) h rfl
  have hBp : ∀ (W : World) o', W.heap[w.heap.size]? = some (Obj.deferred (some [])) → (W.putObj (w.heap.size + 1) o').heap[w.heap.size]? = some (Obj.deferred (some [])) := fun W o' h => (World.putObj_heap_other (by omega)).trans h
  refine (hseq (w.heap.size + 1)
    (fun pre W => I pre W ∧ W.heap[w.heap.size]? = some (.deferred (some [])) ∧ W.heap[w.heap.size + 1]? = some (.loop (R .ready none)))
    (fun pre W => ∃ c, Ix c pre W ∧ W.heap[w.heap.size]? = some (.deferred (some [])) ∧ W.heap[w.heap.size + 1]? = some (.loop (R .done (some c)))) W1 hb1
    (fun s A B h k => ⟨hIA W1 s A B (by omega) h.1 k, hAb _ _ _ _ _ k (by omega) h.2.1 rfl, hAb _ _ _ _ _ k (by omega) h.2.2 rfl⟩)
    (fun s A B h k => by obtain ⟨c, h1, h2, h3⟩ := h; exact ⟨c, hIxA W1 c s A B (by omega) h1 k, hAb _ _ _ _ _ k (by omega) h2 rfl, hAb _ _ _ _ _ k (by omega) h3 rfl⟩)
    ?_ ⟨hi1, hd1, hl1⟩).mono ?_
  · intro pre x W hJ hgx hlen
    rw [hR]
    exact round_of (w := w) (Kp := Kp) (a := a) (fn := fn) (dfr := w.heap.size) (l := w.heap.size + 1) hfn (by omega) (fun h k => hKt h k) hKb hps _ hBk hBp I Ix hI hIx hG Ax hAx (hassign _) (fun pre x a' W => hbody (w.heap.size + 1) pre x a' W (Nat.le_succ _)) pre x W hJ.1 hJ.2.1 (by have := hJ.2.2; rw [hR] at this; exact this) hgx hlen
  · rintro e W2 ⟨⟨v, rfl⟩, (⟨xs, hS, hi, hk, hl⟩ | ⟨pre, hSp, c, hi, hk, hl⟩)⟩
    · exact ⟨none, _, by have := run_endLoop (P := P) hl (by rw [hR]; simp); rw [hR] at this; exact this, hdone _ xs _ (Nat.le_refl _) hS (hI _ _ _ _ _ hi (by omega) hl rfl) ((World.putObj_heap_other (by omega)).trans hk)⟩
    · exact ⟨some c, _, by have := run_endLoop (P := P) hl (by rw [hR]; simp); rw [hR] at this; exact this, hstop _ c pre _ (Nat.le_refl _) hSp (hIx c _ _ _ _ _ hi (by omega) hl rfl) ((World.putObj_heap_other (by omega)).trans hk)⟩

/-- .. and where it stands in a round of loop l₀ -/
theorem rangeNH {g : Operand} {ps : Array Tmp} {assign body : Code} {Q : Exit → Act → World → Prop} {a : Act}
    {l₀ : Nat} {r₀ : Loop} (hro : F.round = some l₀) (hl₀ : w.heap[l₀]? = some (.loop r₀)) (h1 : 1 ≤ n) {gf : Nat} {lb : Array Value} (hg : a.eval g = .func (.func gf) #[] lb) (hFg : F.fn gf) (eg : ∀ args w, (callFunc gf args).run P w = .ok (.enter gf args) w)
    {encs : α → Array Value} {Kp : World → World → Prop} {Ab : World → World → World → Prop} {G : α → World → Prop} {S Sp Np : List α → Prop} {w0 : World} (hseq : SeqL F (n - 1) P gf lb encs Kp Ab G S Sp Np w0)
    (hKt : ∀ {A B C : World}, Kp A B → Kp B C → Kp A C) (hKb : ∀ (W : World) (l : Nat) (o o' : Obj), w.heap.size ≤ l → W.heap[l]? = some o → o.isCells = false → Kp W (W.putObj l o')) (hb0 : Below w0.heap.size w0 w) (hps : ∀ x, (encs x).size = ps.size)
    (hAb : ∀ W A B (k : Nat) (o : Obj), Ab W A B → k < W.heap.size → A.heap[k]? = some o → o.isCells = false → B.heap[k]? = some o)
    (I : List α → World → Prop) (Ix : Code → List α → World → Prop) (hI : ∀ s, Rec w.heap.size (I s)) (hIx : ∀ c s, Rec w.heap.size (Ix c s)) (hG : ∀ x, Rec w.heap.size (G x))
    (hIA : ∀ W s A B, w.heap.size ≤ W.heap.size → I s A → Ab W A B → I s B) (hIxA : ∀ W c s A B, w.heap.size ≤ W.heap.size → Ix c s A → Ab W A B → Ix c s B) (hIa : ∀ s A o, I s A → I s (A.alloc o)) (h0 : I [] w) (Ax : α → Act → World → Prop) (hAx : ∀ x a', Rec w.heap.size (Ax x a'))
    (hassign : ∀ (l : Nat) (pre : List α) (x : α) (W : World) (K : Act → World → Prop), I pre W → G x W → (∀ a' W', KeepsFrom w.heap.size W W' → Kp W W' → I pre W' → G x W' → Ax x a' W' → K a' W') →
      assign.wpIn (F.inRound l) (n - 1 - 1) P (Exit.then K (fun _ _ _ => False)) { tmps := (ps.zip (encs x)).foldl (fun t (p, v) => t.setIfInBounds p v) a.tmps, defers := [] } W)
    (hbody : ∀ (l : Nat) (pre : List α) (x : α) (a' : Act) (W : World), w.heap.size ≤ l → (∃ r, W.heap[l]? = some (.loop r)) → I pre W → G x W → Ax x a' W → Np pre → body.wpIn (F.inRound l) (n - 1 - 1) P (endsL w.heap.size Kp I Ix (pre ++ [x]) W) a' W)
    (hdone : ∀ (xs : List α) (W : World), S xs → I xs W → Q .normal a W)
    (hstop : ∀ (c : Code) (pre : List α) (W : World), Sp pre → Ix c pre W → c.wpIn F n P Q a W) :
    (Code.rangeFunc g ps assign body).wpIn F n P Q a w := by
  refine wpIn_rangeFunc fun fn hfn => ?_
  rw [hro]
  obtain ⟨R, hR⟩ : ∃ R : LoopState → Option Code → Loop, R = fun st pe => { state := st, pending := pe, fn := fn, tmps := a.tmps, params := ps, assign := assign, body := body, defers := r₀.defers } := ⟨_, rfl⟩
  obtain ⟨W1, hW1⟩ : ∃ W1, w.alloc (.loop (R .ready none)) = W1 := ⟨_, rfl⟩
  have hs1 : W1.heap.size = w.heap.size + 1 := by rw [← hW1]; simp
  have hl1 : W1.heap[w.heap.size]? = some (.loop (R .ready none)) := by rw [← hW1]; exact World.alloc_heap_new w _
  have hb1 : Below w0.heap.size w0 W1 := by rw [← hW1]; exact hb0.trans ((below_alloc (Nat.le_refl _) _).mono hb0.size)
  have hi1 : I [] W1 := by rw [← hW1]; exact hIa _ _ _ h0
  refine ⟨w.heap.size, [], W1, { target := .fn (.func gf) lb, args := #[.func (.yield w.heap.size) #[] #[]] }, W1, gf,
    #[.func (.yield w.heap.size) #[] #[]] ++ lb, W1, by rw [← hW1, hR]; exact run_enterLoop_inner hl₀ _ _ _ _ _, by simp only [resolve, hg]; simp [go_sem], ?_, by simp [invoke, go_sem, eg], fun _ => h1, ?_⟩
  · intro f' hf'; simp [Target.leads] at hf'; subst hf'; exact hFg
  refine (hseq w.heap.size
    (fun pre W => I pre W ∧ True ∧ W.heap[w.heap.size]? = some (.loop (R .ready none)))
    (fun pre W => ∃ c, Ix c pre W ∧ True ∧ W.heap[w.heap.size]? = some (.loop (R .done (some c)))) W1 hb1
    (fun s A B h k => ⟨hIA W1 s A B (by omega) h.1 k, trivial, hAb _ _ _ _ _ k (by omega) h.2.2 rfl⟩)
    (fun s A B h k => by obtain ⟨c, h1, h2, h3⟩ := h; exact ⟨c, hIxA W1 c s A B (by omega) h1 k, trivial, hAb _ _ _ _ _ k (by omega) h3 rfl⟩)
    ?_ ⟨hi1, trivial, hl1⟩).mono ?_
  · intro pre x W hJ hgx hlen
    rw [hR]
    exact round_of (w := w) (Kp := Kp) (a := a) (fn := fn) (dfr := r₀.defers) (l := w.heap.size) hfn (by omega) (fun h k => hKt h k) hKb hps (fun _ => True) (fun _ _ _ _ => trivial) (fun _ _ _ => trivial) I Ix hI hIx hG Ax hAx (hassign _) (fun pre x a' W => hbody w.heap.size pre x a' W (Nat.le_refl _)) pre x W hJ.1 trivial (by have := hJ.2.2; rw [hR] at this; exact this) hgx hlen
  · rintro e W2 ⟨⟨v, rfl⟩, (⟨xs, hS, hi, _, hl⟩ | ⟨pre, hSp, c, hi, _, hl⟩)⟩
    · exact ⟨none, _, by have := run_endLoop (P := P) hl (by rw [hR]; simp); rw [hR] at this; exact this, hdone xs _ hS (hI _ _ _ _ _ hi (by omega) hl rfl)⟩
    · exact ⟨some c, _, by have := run_endLoop (P := P) hl (by rw [hR]; simp); rw [hR] at this; exact this, hstop c pre _ hSp (hIx c _ _ _ _ _ hi (by omega) hl rfl)⟩

/-- .. where the assignment lays nothing -/
theorem rangeL {g : Operand} {ps : Array Tmp} {assign body : Code} {Q : Exit → Act → World → Prop} {a : Act}
    (hro : F.round = none) (h1 : 1 ≤ n) {gf : Nat} {lb : Array Value} (hg : a.eval g = .func (.func gf) #[] lb) (hFg : F.fn gf) (eg : ∀ args w, (callFunc gf args).run P w = .ok (.enter gf args) w)
    {encs : α → Array Value} {Kp : World → World → Prop} {Ab : World → World → World → Prop} {G : α → World → Prop} {S Sp Np : List α → Prop} {w0 : World} (hseq : SeqL F (n - 1) P gf lb encs Kp Ab G S Sp Np w0)
    (hKt : ∀ {A B C : World}, Kp A B → Kp B C → Kp A C) (hKb : ∀ (W : World) (l : Nat) (o o' : Obj), w.heap.size ≤ l → W.heap[l]? = some o → o.isCells = false → Kp W (W.putObj l o')) (hb0 : Below w0.heap.size w0 w) (hps : ∀ x, (encs x).size = ps.size)
    (hAb : ∀ W A B (k : Nat) (o : Obj), Ab W A B → k < W.heap.size → A.heap[k]? = some o → o.isCells = false → B.heap[k]? = some o)
    (I : List α → World → Prop) (Ix : Code → List α → World → Prop) (hI : ∀ s, Rec w.heap.size (I s)) (hIx : ∀ c s, Rec w.heap.size (Ix c s)) (hG : ∀ x, Rec w.heap.size (G x))
    (hIA : ∀ W s A B, w.heap.size ≤ W.heap.size → I s A → Ab W A B → I s B) (hIxA : ∀ W c s A B, w.heap.size ≤ W.heap.size → Ix c s A → Ab W A B → Ix c s B) (hIa : ∀ s A o, I s A → I s (A.alloc o)) (h0 : I [] w) (hKr : ∀ W, Kp W W) (a₁ : α → Act)
    (hassign : ∀ (l : Nat) (x : α) (W : World) (K : Act → World → Prop), K (a₁ x) W →
      assign.wpIn (F.inRound l) (n - 1 - 1) P (Exit.then K (fun _ _ _ => False)) { tmps := (ps.zip (encs x)).foldl (fun t (p, v) => t.setIfInBounds p v) a.tmps, defers := [] } W)
    (hbody : ∀ (l : Nat) (pre : List α) (x : α) (W : World), w.heap.size ≤ l → (∃ r, W.heap[l]? = some (.loop r)) → I pre W → G x W → Np pre → body.wpIn (F.inRound l) (n - 1 - 1) P (endsL w.heap.size Kp I Ix (pre ++ [x]) W) (a₁ x) W)
    (hdone : ∀ (D : Nat) (xs : List α) (W : World), w.heap.size ≤ D → S xs → I xs W → W.heap[D]? = some (.deferred (some [])) → Q .normal { a with defers := { target := .collected D, args := #[] } :: a.defers } W)
    (hstop : ∀ (D : Nat) (c : Code) (pre : List α) (W : World), w.heap.size ≤ D → Sp pre → Ix c pre W → W.heap[D]? = some (.deferred (some [])) → c.wpIn F n P Q { a with defers := { target := .collected D, args := #[] } :: a.defers } W) :
    (Code.rangeFunc g ps assign body).wpIn F n P Q a w :=
  rangeLH hro h1 hg hFg eg hseq (fun h k => hKt h k) hKb hb0 hps hAb I Ix hI hIx hG hIA hIxA hIa h0 (fun x a' _ => a' = a₁ x) (fun _ _ _ _ _ _ h _ _ _ => h)
    (fun l pre x W K hi hg hK => hassign l x W K (hK _ _ (KeepsFrom.refl _ _) (hKr W) hi hg rfl)) (fun l pre x a' W hl hr hi hg e hn => by subst e; exact hbody l pre x W hl hr hi hg hn) hdone hstop

/-- .. likewise -/
theorem rangeN {g : Operand} {ps : Array Tmp} {assign body : Code} {Q : Exit → Act → World → Prop} {a : Act}
    {l₀ : Nat} {r₀ : Loop} (hro : F.round = some l₀) (hl₀ : w.heap[l₀]? = some (.loop r₀)) (h1 : 1 ≤ n) {gf : Nat} {lb : Array Value} (hg : a.eval g = .func (.func gf) #[] lb) (hFg : F.fn gf) (eg : ∀ args w, (callFunc gf args).run P w = .ok (.enter gf args) w)
    {encs : α → Array Value} {Kp : World → World → Prop} {Ab : World → World → World → Prop} {G : α → World → Prop} {S Sp Np : List α → Prop} {w0 : World} (hseq : SeqL F (n - 1) P gf lb encs Kp Ab G S Sp Np w0)
    (hKt : ∀ {A B C : World}, Kp A B → Kp B C → Kp A C) (hKb : ∀ (W : World) (l : Nat) (o o' : Obj), w.heap.size ≤ l → W.heap[l]? = some o → o.isCells = false → Kp W (W.putObj l o')) (hb0 : Below w0.heap.size w0 w) (hps : ∀ x, (encs x).size = ps.size)
    (hAb : ∀ W A B (k : Nat) (o : Obj), Ab W A B → k < W.heap.size → A.heap[k]? = some o → o.isCells = false → B.heap[k]? = some o)
    (I : List α → World → Prop) (Ix : Code → List α → World → Prop) (hI : ∀ s, Rec w.heap.size (I s)) (hIx : ∀ c s, Rec w.heap.size (Ix c s)) (hG : ∀ x, Rec w.heap.size (G x))
    (hIA : ∀ W s A B, w.heap.size ≤ W.heap.size → I s A → Ab W A B → I s B) (hIxA : ∀ W c s A B, w.heap.size ≤ W.heap.size → Ix c s A → Ab W A B → Ix c s B) (hIa : ∀ s A o, I s A → I s (A.alloc o)) (h0 : I [] w) (hKr : ∀ W, Kp W W) (a₁ : α → Act)
    (hassign : ∀ (l : Nat) (x : α) (W : World) (K : Act → World → Prop), K (a₁ x) W →
      assign.wpIn (F.inRound l) (n - 1 - 1) P (Exit.then K (fun _ _ _ => False)) { tmps := (ps.zip (encs x)).foldl (fun t (p, v) => t.setIfInBounds p v) a.tmps, defers := [] } W)
    (hbody : ∀ (l : Nat) (pre : List α) (x : α) (W : World), w.heap.size ≤ l → (∃ r, W.heap[l]? = some (.loop r)) → I pre W → G x W → Np pre → body.wpIn (F.inRound l) (n - 1 - 1) P (endsL w.heap.size Kp I Ix (pre ++ [x]) W) (a₁ x) W)
    (hdone : ∀ (xs : List α) (W : World), S xs → I xs W → Q .normal a W)
    (hstop : ∀ (c : Code) (pre : List α) (W : World), Sp pre → Ix c pre W → c.wpIn F n P Q a W) :
    (Code.rangeFunc g ps assign body).wpIn F n P Q a w :=
  rangeNH hro hl₀ h1 hg hFg eg hseq (fun h k => hKt h k) hKb hb0 hps hAb I Ix hI hIx hG hIA hIxA hIa h0 (fun x a' _ => a' = a₁ x) (fun _ _ _ _ _ _ h _ _ _ => h)
    (fun l pre x W K hi hg hK => hassign l x W K (hK _ _ (KeepsFrom.refl _ _) (hKr W) hi hg rfl)) (fun l pre x a' W hl hr hi hg e hn => by subst e; exact hbody l pre x W hl hr hi hg hn) hdone hstop

end
end Go.Proofs.Ytnnngbnimmcjiaa

namespace Go.Proofs.Ytnnngbnimmcjiaa
open Go.RowKit Go.Shelf

attribute [local go_sem] Oper.semAt_some

theorem grown_drewN' (w : World) (n : Nat) (row : Option Nat) : w.grownBy (w.drewN n) row := ⟨rfl, rfl, rfl, Nat.le_refl _, fun _ _ _ => rfl⟩
/-- only new blocks, and draws -/
def New (_W A B : World) : Prop := A.grownBy B none
theorem new_cells : ∀ W A B (k : Nat) (o : Obj), New W A B → k < W.heap.size → A.heap[k]? = some o → o.isCells = false → B.heap[k]? = some o :=
  fun _ _ _ k _ h _ hk _ => (h.block k (Array.getElem?_eq_some_iff.1 hk).1 (by simp)).trans hk
/-- the blocks of P are as they were -/
def Kept (P : Nat → Prop) (W W' : World) : Prop := ∀ k, P k → W'.heap[k]? = W.heap[k]?
theorem Kept.refl (P : Nat → Prop) (W : World) : Kept P W W := fun _ _ => rfl
theorem Kept.trans {P : Nat → Prop} {A B C : World} (h : Kept P A B) (k : Kept P B C) : Kept P A C := fun i hi => (k i hi).trans (h i hi)
theorem Kept.cell {P : Nat → Prop} {W W' : World} (h : Kept P W W') {a : Addr} (ha : P a.block) : W'.cell? a = W.cell? a := World.cell?_of_block (w := W) (h a.block ha)
theorem Kept.new {P : Nat → Prop} {A B : World} (h : A.grownBy B none) (hP : ∀ k, P k → k < A.heap.size) : Kept P A B := fun k hk => h.block k (hP k hk) (by simp)

theorem grown_below {w w' : World} (h : w.grownBy w' none) : Below w.heap.size w w' := (Below.refl _ _).grown h (Nat.le_refl _) (fun k e => by cases e)
theorem below_putObj {n : Nat} {A : World} {l : Nat} {o : Obj} (o' : Obj) (hl : A.heap[l]? = some o) (hn : n ≤ l) : Below n A (A.putObj l o') :=
  (Below.refl n A).grown (grownBy_putObj' A l o') (by have := (Array.getElem?_eq_some_iff.1 hl).1; omega) (fun k e => by cases e; omega)
theorem heap_lt {W : World} {b : Nat} {o : Obj} (h : W.heap[b]? = some o) : b < W.heap.size := (Array.getElem?_eq_some_iff.1 h).1

/-- the block Bo holds what f says of the rounds that are over; all below M is as it was in ws -/
def BoxI {α : Type} (ws : World) (Bo M : Nat) (t : TypeId) (f : List α → Array Value) (pre : List α) (W : World) : Prop := W.heap[Bo]? = some (.cells (f pre) t) ∧ Below M ws W
theorem BoxI.rec' {α : Type} {ws : World} {Bo M : Nat} {t : TypeId} {f : List α → Array Value} {B : Nat} (h1 : Bo < B) (h2 : M ≤ B) (s : List α) : Rec B (BoxI ws Bo M t f s) := fun A l o o' h hl hA ho =>
  ⟨(World.putObj_heap_other (by omega)).trans h.1, h.2.trans (below_putObj o' hA (by omega))⟩
theorem BoxI.new {α : Type} {ws : World} {Bo M : Nat} {t : TypeId} {f : List α → Array Value} {s : List α} {A B : World} (h : BoxI ws Bo M t f s A) (hM : M ≤ A.heap.size) (k : A.grownBy B none) : BoxI ws Bo M t f s B :=
  ⟨(k.block Bo (heap_lt h.1) (by simp)).trans h.1, h.2.trans ((grown_below k).mono hM)⟩
theorem BoxI.size {α : Type} {ws : World} {Bo M : Nat} {t : TypeId} {f : List α → Array Value} {s : List α} {A : World} (h : BoxI ws Bo M t f s A) : ws.heap.size ≤ A.heap.size := h.2.size
theorem BoxI.below {α : Type} {ws : World} {Bo M : Nat} {t : TypeId} {f : List α → Array Value} {s : List α} {A B : World} (h : BoxI ws Bo M t f s A) (hM : M ≤ A.heap.size) (k : Below A.heap.size A B) : BoxI ws Bo M t f s B :=
  ⟨(k.block Bo (heap_lt h.1)).trans h.1, h.2.trans (k.mono hM)⟩
theorem BoxI.cell {α : Type} {ws : World} {Bo M : Nat} {t : TypeId} {f : List α → Array Value} {s : List α} {A : World} (h : BoxI ws Bo M t f s A) (i : Nat) {x : Value} (hx : (f s)[i]? = some x) : A.cell? ⟨Bo, i, none⟩ = some x := cell_blk h.1 i hx
theorem BoxI.free {α : Type} {ws : World} {Bo M : Nat} {t : TypeId} {f : List α → Array Value} {s : List α} {A : World} (h : BoxI ws Bo M t f s A) (i : Nat) : A.frozen? ⟨Bo, i, none⟩ = false := free_blk h.1 i
theorem BoxI.store {α : Type} {ws : World} {Bo M : Nat} {t : TypeId} {f : List α → Array Value} {s s' : List α} {A : World} (h : BoxI ws Bo M t f s A) (hM : M ≤ Bo) (i : Nat) (v : Value) (hf : (f s).setIfInBounds i v = f s') : BoxI ws Bo M t f s' (A.setCell ⟨Bo, i, none⟩ v) := by
  refine ⟨?_, h.2.trans ((Below.refl M A).setCell hM v)⟩
  show (A.heap.modify Bo _)[Bo]? = _
  rw [Array.getElem?_modify]
  simp [h.1, hf]

/-- new blocks, one after another -/
def allocs (w : World) : List Obj → World
  | [] => w
  | o :: os => allocs (w.alloc o) os
theorem allocs_size (os : List Obj) : ∀ w : World, (allocs w os).heap.size = w.heap.size + os.length := by
  induction os with
  | nil => intro w; rfl
  | cons o os ih => intro w; simp only [allocs, ih, World.size_alloc, List.length_cons]; omega
theorem allocs_below (os : List Obj) : ∀ w : World, Below w.heap.size w (allocs w os) := by
  induction os with
  | nil => intro w; exact Below.refl _ _
  | cons o os ih => intro w; exact (below_alloc (Nat.le_refl _) o).trans ((ih (w.alloc o)).mono (by simp))
theorem allocs_at (os : List Obj) : ∀ (w : World) (i : Nat) (o : Obj), os[i]? = some o → (allocs w os).heap[w.heap.size + i]? = some o := by
  induction os with
  | nil => intro w i o h; simp at h
  | cons o' os ih =>
    intro w i o h
    cases i with
    | zero => simp at h; subst h; exact ((allocs_below os (w.alloc o')).block _ (by simp)).trans (World.alloc_heap_new _ _)
    | succ i =>
      have := ih (w.alloc o') i o (by simpa using h)
      rw [World.size_alloc] at this
      rw [show w.heap.size + (i + 1) = w.heap.size + 1 + i by omega]; exact this
theorem allocs4 (w : World) (o1 o2 o3 o4 : Obj) : ∃ ws : World, (((w.alloc o1).alloc o2).alloc o3).alloc o4 = ws ∧ Hid (Below w.heap.size w ws) ∧ ws.heap.size = w.heap.size + 4 ∧
    ws.heap[w.heap.size]? = some o1 ∧ ws.heap[w.heap.size + 1]? = some o2 ∧ ws.heap[w.heap.size + 1 + 1]? = some o3 ∧ ws.heap[w.heap.size + 1 + 1 + 1]? = some o4 :=
  ⟨_, rfl, allocs_below [o1, o2, o3, o4] w, by simp, allocs_at [o1, o2, o3, o4] w 0 _ rfl, allocs_at [o1, o2, o3, o4] w 1 _ rfl, allocs_at [o1, o2, o3, o4] w 2 _ rfl, allocs_at [o1, o2, o3, o4] w 3 _ rfl⟩

theorem keepsFrom_below {W W' : World} (B : Nat) (h : Below W.heap.size W W') : KeepsFrom B W W' := ⟨h.size, fun k o _ hk _ => (h.block k (heap_lt hk)).trans hk⟩

theorem own_rec {β : Type} {I : β → World → Prop} (h : Own I) (B : Nat) (s : β) : Rec B (I s) := fun _ _ _ o' hs _ hA ho => h.putObj o' hs hA ho
theorem own_new {β : Type} {I : β → World → Prop} (h : Own I) {s : β} {A B : World} (hs : I s A) (k : A.grownBy B none) : I s B := h s A B none hs k (fun r e => by cases e)
theorem below_rec {n B : Nat} (ws : World) (h : n ≤ B) : Rec B (fun W => Below n ws W) := fun _ _ _ o' hs hl hA _ => hs.trans (below_putObj o' hA (by omega))
theorem below_new {n : Nat} {ws A B : World} (hs : Below n ws A) (hn : n ≤ ws.heap.size) (k : A.grownBy B none) : Below n ws B := hs.trans ((grown_below k).mono (Nat.le_trans hn hs.size))

/-- the box Bo holds a list of its own, of the numbers f pre -/
def ListI {α : Type} (Bo n0 : Nat) (f : List α → List Int) (pre : List α) (W : World) : Prop := ∃ v, Boxed W Bo 22 v ∧ W.ownsRow n0 3 1 v (f pre).length ((f pre).map (Value.int .i64)) ∧ True
theorem listI_own {α : Type} (Bo n0 : Nat) (f : List α → List Int) : Own (ListI Bo n0 f) := holdsRow_own n0 Bo 22 3 1 (fun pre => (f pre).length) (fun pre => (f pre).map (Value.int .i64)) (fun _ _ => True)

end Go.Proofs.Ytnnngbnimmcjiaa
