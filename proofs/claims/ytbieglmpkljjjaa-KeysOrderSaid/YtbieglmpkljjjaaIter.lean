/-
  Range: a loop over an iterator whose rounds are told a fact of the world (G), and which may itself change memory of its own between two rounds (Ab).
-/
import Derived.Test.YtbieglmpkljjjaaBase
import Derived.RangeFuncNested
import Derived.RangeFuncLeaves
import Derived.Test.YtbieglmpkljjjaaRef1
import Derived.RangeFuncBound
import Derived.RangeFuncCalls
import Derived.Shelf.Abstract
import Derived.Shelf.RegionOpen
import Derived.OwnWalkIn
import Derived.TacticsInMore
import Derived.LoopNIn
import Derived.LoopIn
import Derived.Sort.QuietTacIn
namespace Go.Proofs.Ytbieglmpkljjjaa
open Go.RowKit

/-- what an iterator does: it yields values x of which G holds then; between two rounds it changes a world A to one B with Ab W A B only (W: where it began); what a round keeps is Kp -/
def SeqL {α : Type} (F : Fence) (n : Nat) (P : Program) (g : Nat) (lb : Array Value) (encs : α → Array Value) (Kp : World → World → Prop) (Ab : World → World → World → Prop) (G : α → World → Prop) (S Sp : List α → Prop) (Np : List α → Prop) (w : World) : Prop :=
  ∀ (l : Nat) (J Jx : List α → World → Prop) (W : World), Below w.heap.size w W → (∀ s A B, J s A → Ab W A B → J s B) → (∀ s A B, Jx s A → Ab W A B → Jx s B) →
    (∀ pre x W1, J pre W1 → G x W1 → Np pre → YieldAt F (n - 1) P l (encs x) W1 fun e W' =>
      (e = .returned (.bool true) ∧ J (pre ++ [x]) W' ∧ Kp W1 W') ∨ (e = .returned (.bool false) ∧ Jx (pre ++ [x]) W')) →
    J [] W →
    CallsIn F n P g (#[.func (.yield l) #[] #[]] ++ lb) W fun e W' => (∃ v, e = .returned v) ∧ ((∃ xs, S xs ∧ J xs W') ∨ (∃ pre, Sp pre ∧ Jx pre W'))

theorem SeqL.inRound {α : Type} {F : Fence} {n : Nat} {P : Program} {g : Nat} {lb : Array Value} {encs : α → Array Value} {Kp : World → World → Prop} {Ab : World → World → World → Prop} {G : α → World → Prop} {S Sp Np : List α → Prop} {w : World} (l : Nat)
    (h : SeqL F n P g lb encs Kp Ab G S Sp Np w) : SeqL (F.inRound l) n P g lb encs Kp Ab G S Sp Np w := h

/-- how a round's body may end -/
def endsL {α : Type} (B : Nat) (Kp : World → World → Prop) (I : List α → World → Prop) (Ix : Code → List α → World → Prop) (xs : List α) (W : World) : Exit → Act → World → Prop
  | .normal, _, W' => KeepsFrom B W W' ∧ Kp W W' ∧ I xs W'
  | .ret, _, W' => KeepsFrom B W W' ∧ Ix .ret xs W'
  | .exit id, _, W' => KeepsFrom B W W' ∧ Ix (.exit id) xs W'
  | .goto t, _, W' => KeepsFrom B W W' ∧ Ix (.goto t) xs W'
  | .panic _, _, _ => False
  | .outgrown, _, _ => False

/-- a fact that stands when a record at or beyond B turns -/
def Rec (B : Nat) (p : World → Prop) : Prop := ∀ (A : World) (l : Nat) (o o' : Obj), p A → B ≤ l → A.heap[l]? = some o → o.isCells = false → p (A.putObj l o')

section
variable {α : Type} {F : Fence} {n : Nat} {P : Program} {w : World}

/-- one round, seen from the iterator -/
theorem round_of {a : Act} {fn : Nat} {ps : Array Tmp} {assign body : Code} {dfr l : Nat} (hfn : F.fn fn) (hl0 : w.heap.size ≤ l)
    {encs : α → Array Value} {Kp : World → World → Prop} {G : α → World → Prop} {Np : List α → Prop} {m : Nat} (hKt : ∀ {A B C : World}, Kp A B → Kp B C → Kp A C)
    (hKb : ∀ (W : World) (l : Nat) (o o' : Obj), w.heap.size ≤ l → W.heap[l]? = some o → o.isCells = false → Kp W (W.putObj l o')) (hps : ∀ x, (encs x).size = ps.size)
    (Bk : World → Prop) (hBk : ∀ W W', Bk W → KeepsFrom w.heap.size W W' → Bk W') (hBp : ∀ W o', Bk W → Bk (W.putObj l o'))
    (I : List α → World → Prop) (Ix : Code → List α → World → Prop) (hI : ∀ s, Rec w.heap.size (I s)) (hIx : ∀ c s, Rec w.heap.size (Ix c s)) (hG : ∀ x, Rec w.heap.size (G x)) (Ax : α → Act → World → Prop) (hAx : ∀ x a', Rec w.heap.size (Ax x a'))
    (hassign : ∀ (pre : List α) (x : α) (W : World) (K : Act → World → Prop), I pre W → G x W → (∀ a' W', KeepsFrom w.heap.size W W' → Kp W W' → I pre W' → G x W' → Ax x a' W' → K a' W') →
      assign.wpIn (F.inRound l) m P (Exit.then K (fun _ _ _ => False)) { tmps := (ps.zip (encs x)).foldl (fun t (p, v) => t.setIfInBounds p v) a.tmps, defers := [] } W)
    (hbody : ∀ (pre : List α) (x : α) (a' : Act) (W : World), (∃ r, W.heap[l]? = some (.loop r)) → I pre W → G x W → Ax x a' W → Np pre → body.wpIn (F.inRound l) m P (endsL w.heap.size Kp I Ix (pre ++ [x]) W) a' W)
    (pre : List α) (x : α) (W1 : World) (hi : I pre W1) (hbk : Bk W1) (hrec : W1.heap[l]? = some (.loop { state := .ready, pending := none, fn := fn, tmps := a.tmps, params := ps, assign := assign, body := body, defers := dfr })) (hg : G x W1) (hlen : Np pre) :
    YieldAt F m P l (encs x) W1 fun e W' =>
      (e = .returned (.bool true) ∧ (I (pre ++ [x]) W' ∧ Bk W' ∧ W'.heap[l]? = some (.loop { state := .ready, pending := none, fn := fn, tmps := a.tmps, params := ps, assign := assign, body := body, defers := dfr })) ∧ Kp W1 W') ∨
      (e = .returned (.bool false) ∧ ∃ c, Ix c (pre ++ [x]) W' ∧ Bk W' ∧ W'.heap[l]? = some (.loop { state := .done, pending := some c, fn := fn, tmps := a.tmps, params := ps, assign := assign, body := body, defers := dfr })) := by
  obtain ⟨R, hR⟩ : ∃ R : LoopState → Option Code → Loop, R = fun st pe => { state := st, pending := pe, fn := fn, tmps := a.tmps, params := ps, assign := assign, body := body, defers := dfr } := ⟨_, rfl⟩
  have hl : W1.heap[l]? = some (.loop (R .ready none)) := by rw [hR]; exact hrec
  have goal1 : ∀ st pe, ({ state := st, pending := pe, fn := fn, tmps := a.tmps, params := ps, assign := assign, body := body, defers := dfr } : Loop) = R st pe := fun st pe => by rw [hR]
  simp only [goal1]
  have hy := run_yield (P := P) (args := encs x) hl (by rw [hR]; exact hps x)
  rw [hR] at hy
  refine ⟨fn, _, assign, body, hy, roundIn_of_wpIn hfn (hassign pre x W1 _ hi hg ?_)⟩
  intro a' Wa hka hkpa hia hga haxa
  replace hl := hka.same l _ hl0 hl rfl
  replace hbk := hBk _ _ hbk hka
  have hlt := (Array.getElem?_eq_some_iff.1 hl).1
  refine ⟨_, run_beginRound hl (by rw [hR]), ?_⟩
  have hbusy : (Wa.putObj l (.loop { R .ready none with state := .busy })).heap[l]? = some (.loop { R .ready none with state := .busy }) := World.putObj_heap_same hlt
  have hk0 : Kp W1 (Wa.putObj l (.loop { R .ready none with state := .busy })) := hKt hkpa (hKb _ _ _ _ hl0 hl rfl)
  refine wpIn_mono (hbody pre x a' _ ⟨_, hbusy⟩ (hI _ _ _ _ _ hia hl0 hl rfl) (hG _ _ _ _ _ hga hl0 hl rfl) (hAx _ _ _ _ _ _ haxa hl0 hl rfl) hlen) ?_
  have hbk1 := hBp Wa (.loop { R .ready none with state := .busy }) hbk
  generalize Wa.putObj l (.loop { R .ready none with state := .busy }) = Wb at hbusy hk0 hbk1 ⊢
  have last : ∀ (j : Option Code) (W3 : World), KeepsFrom w.heap.size Wb W3 →
      (Instr.endRound l j).run P W3 = .ok (.bool j.isNone) (W3.putObj l (.loop (R (if j.isNone then .ready else .done) j))) ∧ W3.heap[l]? = some (.loop { R .ready none with state := .busy }) ∧
      (W3.putObj l (.loop (R (if j.isNone then .ready else .done) j))).heap[l]? = some (.loop (R (if j.isNone then .ready else .done) j)) := fun j W3 hk => by
    have h3 := hk.same l _ hl0 hbusy rfl
    have he := run_endRound (P := P) j h3
    refine ⟨?_, h3, World.putObj_heap_same (Array.getElem?_eq_some_iff.1 h3).1⟩
    rw [hR] at he ⊢; exact he
  intro e a3 W3 hp
  cases e with
  | normal =>
    obtain ⟨hk, hkp, hi3⟩ := hp
    obtain ⟨h1, h2, h3⟩ := last none W3 hk
    exact ⟨_, _, h1, .inl ⟨rfl, ⟨hI _ _ _ _ _ hi3 hl0 h2 rfl, hBp _ _ (hBk _ _ hbk1 hk), h3⟩, hKt (hKt hk0 hkp) (hKb _ _ _ _ hl0 h2 rfl)⟩⟩
  | ret =>
    obtain ⟨hk, hi3⟩ := hp
    obtain ⟨h1, h2, h3⟩ := last (some .ret) W3 hk
    exact ⟨_, _, h1, .inr ⟨rfl, .ret, hIx _ _ _ _ _ _ hi3 hl0 h2 rfl, hBp _ _ (hBk _ _ hbk1 hk), h3⟩⟩
  | exit id =>
    obtain ⟨hk, hi3⟩ := hp
    obtain ⟨h1, h2, h3⟩ := last (some (.exit id)) W3 hk
    exact ⟨_, _, h1, .inr ⟨rfl, .exit id, hIx _ _ _ _ _ _ hi3 hl0 h2 rfl, hBp _ _ (hBk _ _ hbk1 hk), h3⟩⟩
  | goto t =>
    obtain ⟨hk, hi3⟩ := hp
    obtain ⟨h1, h2, h3⟩ := last (some (.goto t)) W3 hk
    exact ⟨_, _, h1, .inr ⟨rfl, .goto t, hIx _ _ _ _ _ _ hi3 hl0 h2 rfl, hBp _ _ (hBk _ _ hbk1 hk), h3⟩⟩
  | panic ch => exact hp.elim
  | outgrown => exact hp.elim

/-- the loop, where it stands in no other one -/
theorem rangeLH {g : Operand} {ps : Array Tmp} {assign body : Code} {Q : Exit → Act → World → Prop} {a : Act}
    (hro : F.round = none) (h1 : 1 ≤ n) {gf : Nat} {lb : Array Value} (hg : a.eval g = .func (.func gf) #[] lb) (hFg : F.fn gf) (eg : ∀ args w, (callFunc gf args).run P w = .ok (.enter gf args) w)
    {encs : α → Array Value} {Kp : World → World → Prop} {Ab : World → World → World → Prop} {G : α → World → Prop} {S Sp Np : List α → Prop} {w0 : World} (hseq : SeqL F (n - 1) P gf lb encs Kp Ab G S Sp Np w0)
    (hKt : ∀ {A B C : World}, Kp A B → Kp B C → Kp A C) (hKb : ∀ (W : World) (l : Nat) (o o' : Obj), w.heap.size ≤ l → W.heap[l]? = some o → o.isCells = false → Kp W (W.putObj l o')) (hb0 : Below w0.heap.size w0 w) (hps : ∀ x, (encs x).size = ps.size)
    (hAb : ∀ W A B (k : Nat) (o : Obj), Ab W A B → k < W.heap.size → A.heap[k]? = some o → o.isCells = false → B.heap[k]? = some o)
    (I : List α → World → Prop) (Ix : Code → List α → World → Prop) (hI : ∀ s, Rec w.heap.size (I s)) (hIx : ∀ c s, Rec w.heap.size (Ix c s)) (hG : ∀ x, Rec w.heap.size (G x))
    (hIA : ∀ W s A B, w.heap.size ≤ W.heap.size → I s A → Ab W A B → I s B) (hIxA : ∀ W c s A B, w.heap.size ≤ W.heap.size → Ix c s A → Ab W A B → Ix c s B) (hIa : ∀ s A o, I s A → I s (A.alloc o)) (h0 : I [] w) (Ax : α → Act → World → Prop) (hAx : ∀ x a', Rec w.heap.size (Ax x a'))
    (hassign : ∀ (l : Nat) (pre : List α) (x : α) (W : World) (K : Act → World → Prop), I pre W → G x W → (∀ a' W', KeepsFrom w.heap.size W W' → Kp W W' → I pre W' → G x W' → Ax x a' W' → K a' W') →
      assign.wpIn (F.inRound l) (n - 1 - 1) P (Exit.then K (fun _ _ _ => False)) { tmps := (ps.zip (encs x)).foldl (fun t (p, v) => t.setIfInBounds p v) a.tmps, defers := [] } W)
    (hbody : ∀ (l : Nat) (pre : List α) (x : α) (a' : Act) (W : World), w.heap.size ≤ l → (∃ r, W.heap[l]? = some (.loop r)) → I pre W → G x W → Ax x a' W → Np pre → body.wpIn (F.inRound l) (n - 1 - 1) P (endsL w.heap.size Kp I Ix (pre ++ [x]) W) a' W)
    (hdone : ∀ (D : Nat) (xs : List α) (W : World), w.heap.size ≤ D → S xs → I xs W → W.heap[D]? = some (.deferred (some [])) → Q .normal { a with defers := { target := .collected D, args := #[] } :: a.defers } W)
    (hstop : ∀ (D : Nat) (c : Code) (pre : List α) (W : World), w.heap.size ≤ D → Sp pre → Ix c pre W → W.heap[D]? = some (.deferred (some [])) → c.wpIn F n P Q { a with defers := { target := .collected D, args := #[] } :: a.defers } W) :
    (Code.rangeFunc g ps assign body).wpIn F n P Q a w := by
  refine wpIn_rangeFunc fun fn hfn => ?_
  rw [hro]
  obtain ⟨R, hR⟩ : ∃ R : LoopState → Option Code → Loop, R = fun st pe => { state := st, pending := pe, fn := fn, tmps := a.tmps, params := ps, assign := assign, body := body, defers := w.heap.size } := ⟨_, rfl⟩
  obtain ⟨W1, hW1⟩ : ∃ W1, (w.alloc (.deferred (some []))).alloc (.loop (R .ready none)) = W1 := ⟨_, rfl⟩
  have hs1 : W1.heap.size = w.heap.size + 2 := by rw [← hW1]; simp
  have hl1 : W1.heap[w.heap.size + 1]? = some (.loop (R .ready none)) := by
    rw [← hW1]; have := World.alloc_heap_new (w.alloc (.deferred (some []))) (.loop (R .ready none)); rwa [World.size_alloc] at this
  have hd1 : W1.heap[w.heap.size]? = some (.deferred (some [])) := by
    rw [← hW1]; exact (Below.heap_alloc _ _ _ (by simp)).trans (World.alloc_heap_new w _)
  have hb1 : Below w0.heap.size w0 W1 := by rw [← hW1]; exact hb0.trans ((below2 (Nat.le_refl _) _ _).mono hb0.size)
  have hi1 : I [] W1 := by rw [← hW1]; exact hIa _ _ _ (hIa _ _ _ h0)
  refine ⟨w.heap.size + 1, [{ target := .collected w.heap.size, args := #[] }], W1, { target := .fn (.func gf) lb, args := #[.func (.yield (w.heap.size + 1)) #[] #[]] }, W1, gf,
    #[.func (.yield (w.heap.size + 1)) #[] #[]] ++ lb, W1, by rw [← hW1, hR]; exact run_enterLoop_outer _ _ _ _ _, by simp only [resolve, hg]; simp [go_sem], ?_, by simp [invoke, go_sem, eg], fun _ => h1, ?_⟩
  · intro f' hf'; simp [Target.leads] at hf'; subst hf'; exact hFg
  have hBk : ∀ W W', W.heap[w.heap.size]? = some (Obj.deferred (some [])) → KeepsFrom w.heap.size W W' → W'.heap[w.heap.size]? = some (Obj.deferred (some [])) := fun W W' h k => k.same _ _ (Nat.le_refl _) h rfl
  have hBp : ∀ (W : World) o', W.heap[w.heap.size]? = some (Obj.deferred (some [])) → (W.putObj (w.heap.size + 1) o').heap[w.heap.size]? = some (Obj.deferred (some [])) := fun W o' h => (World.putObj_heap_other (by omega)).trans h
  refine (hseq (w.heap.size + 1)
    (fun pre W => I pre W ∧ W.heap[w.heap.size]? = some (.deferred (some [])) ∧ W.heap[w.heap.size + 1]? = some (.loop (R .ready none)))
    (fun pre W => ∃ c, Ix c pre W ∧ W.heap[w.heap.size]? = some (.deferred (some [])) ∧ W.heap[w.heap.size + 1]? = some (.loop (R .done (some c)))) W1 hb1
    (fun s A B h k => ⟨hIA W1 s A B (by omega) h.1 k, hAb _ _ _ _ _ k (by omega) h.2.1 rfl, hAb _ _ _ _ _ k (by omega) h.2.2 rfl⟩)
    (fun s A B h k => by obtain ⟨c, h1, h2, h3⟩ := h; exact ⟨c, hIxA W1 c s A B (by omega) h1 k, hAb _ _ _ _ _ k (by omega) h2 rfl, hAb _ _ _ _ _ k (by omega) h3 rfl⟩)
    ?_ ⟨hi1, hd1, hl1⟩).mono ?_
  · intro pre x W hJ hgx hlen
    rw [hR]
    exact round_of (w := w) (Kp := Kp) (a := a) (fn := fn) (dfr := w.heap.size) (l := w.heap.size + 1) hfn (by omega) (fun h k => hKt h k) hKb hps _ hBk hBp I Ix hI hIx hG Ax hAx (hassign _) (fun pre x a' W => hbody (w.heap.size + 1) pre x a' W (Nat.le_succ _)) pre x W hJ.1 hJ.2.1 (by have := hJ.2.2; rw [hR] at this; exact this) hgx hlen
  · rintro e W2 ⟨⟨v, rfl⟩, (⟨xs, hS, hi, hk, hl⟩ | ⟨pre, hSp, c, hi, hk, hl⟩)⟩
    · exact ⟨none, _, by have := run_endLoop (P := P) hl (by rw [hR]; simp); rw [hR] at this; exact this, hdone _ xs _ (Nat.le_refl _) hS (hI _ _ _ _ _ hi (by omega) hl rfl) ((World.putObj_heap_other (by omega)).trans hk)⟩
    · exact ⟨some c, _, by have := run_endLoop (P := P) hl (by rw [hR]; simp); rw [hR] at this; exact this, hstop _ c pre _ (Nat.le_refl _) hSp (hIx c _ _ _ _ _ hi (by omega) hl rfl) ((World.putObj_heap_other (by omega)).trans hk)⟩

/-- .. and where it stands in a round of loop l₀ -/
theorem rangeNH {g : Operand} {ps : Array Tmp} {assign body : Code} {Q : Exit → Act → World → Prop} {a : Act}
    {l₀ : Nat} {r₀ : Loop} (hro : F.round = some l₀) (hl₀ : w.heap[l₀]? = some (.loop r₀)) (h1 : 1 ≤ n) {gf : Nat} {lb : Array Value} (hg : a.eval g = .func (.func gf) #[] lb) (hFg : F.fn gf) (eg : ∀ args w, (callFunc gf args).run P w = .ok (.enter gf args) w)
    {encs : α → Array Value} {Kp : World → World → Prop} {Ab : World → World → World → Prop} {G : α → World → Prop} {S Sp Np : List α → Prop} {w0 : World} (hseq : SeqL F (n - 1) P gf lb encs Kp Ab G S Sp Np w0)
    (hKt : ∀ {A B C : World}, Kp A B → Kp B C → Kp A C) (hKb : ∀ (W : World) (l : Nat) (o o' : Obj), w.heap.size ≤ l → W.heap[l]? = some o → o.isCells = false → Kp W (W.putObj l o')) (hb0 : Below w0.heap.size w0 w) (hps : ∀ x, (encs x).size = ps.size)
    (hAb : ∀ W A B (k : Nat) (o : Obj), Ab W A B → k < W.heap.size → A.heap[k]? = some o → o.isCells = false → B.heap[k]? = some o)
    (I : List α → World → Prop) (Ix : Code → List α → World → Prop) (hI : ∀ s, Rec w.heap.size (I s)) (hIx : ∀ c s, Rec w.heap.size (Ix c s)) (hG : ∀ x, Rec w.heap.size (G x))
    (hIA : ∀ W s A B, w.heap.size ≤ W.heap.size → I s A → Ab W A B → I s B) (hIxA : ∀ W c s A B, w.heap.size ≤ W.heap.size → Ix c s A → Ab W A B → Ix c s B) (hIa : ∀ s A o, I s A → I s (A.alloc o)) (h0 : I [] w) (Ax : α → Act → World → Prop) (hAx : ∀ x a', Rec w.heap.size (Ax x a'))
    (hassign : ∀ (l : Nat) (pre : List α) (x : α) (W : World) (K : Act → World → Prop), I pre W → G x W → (∀ a' W', KeepsFrom w.heap.size W W' → Kp W W' → I pre W' → G x W' → Ax x a' W' → K a' W') →
      assign.wpIn (F.inRound l) (n - 1 - 1) P (Exit.then K (fun _ _ _ => False)) { tmps := (ps.zip (encs x)).foldl (fun t (p, v) => t.setIfInBounds p v) a.tmps, defers := [] } W)
    (hbody : ∀ (l : Nat) (pre : List α) (x : α) (a' : Act) (W : World), w.heap.size ≤ l → (∃ r, W.heap[l]? = some (.loop r)) → I pre W → G x W → Ax x a' W → Np pre → body.wpIn (F.inRound l) (n - 1 - 1) P (endsL w.heap.size Kp I Ix (pre ++ [x]) W) a' W)
    (hdone : ∀ (xs : List α) (W : World), S xs → I xs W → Q .normal a W)
    (hstop : ∀ (c : Code) (pre : List α) (W : World), Sp pre → Ix c pre W → c.wpIn F n P Q a W) :
    (Code.rangeFunc g ps assign body).wpIn F n P Q a w := by
  refine wpIn_rangeFunc fun fn hfn => ?_
  rw [hro]
  obtain ⟨R, hR⟩ : ∃ R : LoopState → Option Code → Loop, R = fun st pe => { state := st, pending := pe, fn := fn, tmps := a.tmps, params := ps, assign := assign, body := body, defers := r₀.defers } := ⟨_, rfl⟩
  obtain ⟨W1, hW1⟩ : ∃ W1, w.alloc (.loop (R .ready none)) = W1 := ⟨_, rfl⟩
  have hs1 : W1.heap.size = w.heap.size + 1 := by rw [← hW1]; simp
  have hl1 : W1.heap[w.heap.size]? = some (.loop (R .ready none)) := by rw [← hW1]; exact World.alloc_heap_new w _
  have hb1 : Below w0.heap.size w0 W1 := by rw [← hW1]; exact hb0.trans ((below_alloc (Nat.le_refl _) _).mono hb0.size)
  have hi1 : I [] W1 := by rw [← hW1]; exact hIa _ _ _ h0
  refine ⟨w.heap.size, [], W1, { target := .fn (.func gf) lb, args := #[.func (.yield w.heap.size) #[] #[]] }, W1, gf,
    #[.func (.yield w.heap.size) #[] #[]] ++ lb, W1, by rw [← hW1, hR]; exact run_enterLoop_inner hl₀ _ _ _ _ _, by simp only [resolve, hg]; simp [go_sem], ?_, by simp [invoke, go_sem, eg], fun _ => h1, ?_⟩
  · intro f' hf'; simp [Target.leads] at hf'; subst hf'; exact hFg
  refine (hseq w.heap.size
    (fun pre W => I pre W ∧ True ∧ W.heap[w.heap.size]? = some (.loop (R .ready none)))
    (fun pre W => ∃ c, Ix c pre W ∧ True ∧ W.heap[w.heap.size]? = some (.loop (R .done (some c)))) W1 hb1
    (fun s A B h k => ⟨hIA W1 s A B (by omega) h.1 k, trivial, hAb _ _ _ _ _ k (by omega) h.2.2 rfl⟩)
    (fun s A B h k => by obtain ⟨c, h1, h2, h3⟩ := h; exact ⟨c, hIxA W1 c s A B (by omega) h1 k, trivial, hAb _ _ _ _ _ k (by omega) h3 rfl⟩)
    ?_ ⟨hi1, trivial, hl1⟩).mono ?_
  · intro pre x W hJ hgx hlen
    rw [hR]
    exact round_of (w := w) (Kp := Kp) (a := a) (fn := fn) (dfr := r₀.defers) (l := w.heap.size) hfn (by omega) (fun h k => hKt h k) hKb hps (fun _ => True) (fun _ _ _ _ => trivial) (fun _ _ _ => trivial) I Ix hI hIx hG Ax hAx (hassign _) (fun pre x a' W => hbody w.heap.size pre x a' W (Nat.le_refl _)) pre x W hJ.1 trivial (by have := hJ.2.2; rw [hR] at this; exact this) hgx hlen
  · rintro e W2 ⟨⟨v, rfl⟩, (⟨xs, hS, hi, _, hl⟩ | ⟨pre, hSp, c, hi, _, hl⟩)⟩
    · exact ⟨none, _, by have := run_endLoop (P := P) hl (by rw [hR]; simp); rw [hR] at this; exact this, hdone xs _ hS (hI _ _ _ _ _ hi (by omega) hl rfl)⟩
    · exact ⟨some c, _, by have := run_endLoop (P := P) hl (by rw [hR]; simp); rw [hR] at this; exact this, hstop c pre _ hSp (hIx c _ _ _ _ _ hi (by omega) hl rfl)⟩

/-- .. where the assignment lays nothing -/
theorem rangeL {g : Operand} {ps : Array Tmp} {assign body : Code} {Q : Exit → Act → World → Prop} {a : Act}
    (hro : F.round = none) (h1 : 1 ≤ n) {gf : Nat} {lb : Array Value} (hg : a.eval g = .func (.func gf) #[] lb) (hFg : F.fn gf) (eg : ∀ args w, (callFunc gf args).run P w = .ok (.enter gf args) w)
    {encs : α → Array Value} {Kp : World → World → Prop} {Ab : World → World → World → Prop} {G : α → World → Prop} {S Sp Np : List α → Prop} {w0 : World} (hseq : SeqL F (n - 1) P gf lb encs Kp Ab G S Sp Np w0)
    (hKt : ∀ {A B C : World}, Kp A B → Kp B C → Kp A C) (hKb : ∀ (W : World) (l : Nat) (o o' : Obj), w.heap.size ≤ l → W.heap[l]? = some o → o.isCells = false → Kp W (W.putObj l o')) (hb0 : Below w0.heap.size w0 w) (hps : ∀ x, (encs x).size = ps.size)
    (hAb : ∀ W A B (k : Nat) (o : Obj), Ab W A B → k < W.heap.size → A.heap[k]? = some o → o.isCells = false → B.heap[k]? = some o)
    (I : List α → World → Prop) (Ix : Code → List α → World → Prop) (hI : ∀ s, Rec w.heap.size (I s)) (hIx : ∀ c s, Rec w.heap.size (Ix c s)) (hG : ∀ x, Rec w.heap.size (G x))
    (hIA : ∀ W s A B, w.heap.size ≤ W.heap.size → I s A → Ab W A B → I s B) (hIxA : ∀ W c s A B, w.heap.size ≤ W.heap.size → Ix c s A → Ab W A B → Ix c s B) (hIa : ∀ s A o, I s A → I s (A.alloc o)) (h0 : I [] w) (hKr : ∀ W, Kp W W) (a₁ : α → Act)
    (hassign : ∀ (l : Nat) (x : α) (W : World) (K : Act → World → Prop), K (a₁ x) W →
      assign.wpIn (F.inRound l) (n - 1 - 1) P (Exit.then K (fun _ _ _ => False)) { tmps := (ps.zip (encs x)).foldl (fun t (p, v) => t.setIfInBounds p v) a.tmps, defers := [] } W)
    (hbody : ∀ (l : Nat) (pre : List α) (x : α) (W : World), w.heap.size ≤ l → (∃ r, W.heap[l]? = some (.loop r)) → I pre W → G x W → Np pre → body.wpIn (F.inRound l) (n - 1 - 1) P (endsL w.heap.size Kp I Ix (pre ++ [x]) W) (a₁ x) W)
    (hdone : ∀ (D : Nat) (xs : List α) (W : World), w.heap.size ≤ D → S xs → I xs W → W.heap[D]? = some (.deferred (some [])) → Q .normal { a with defers := { target := .collected D, args := #[] } :: a.defers } W)
    (hstop : ∀ (D : Nat) (c : Code) (pre : List α) (W : World), w.heap.size ≤ D → Sp pre → Ix c pre W → W.heap[D]? = some (.deferred (some [])) → c.wpIn F n P Q { a with defers := { target := .collected D, args := #[] } :: a.defers } W) :
    (Code.rangeFunc g ps assign body).wpIn F n P Q a w :=
  rangeLH hro h1 hg hFg eg hseq (fun h k => hKt h k) hKb hb0 hps hAb I Ix hI hIx hG hIA hIxA hIa h0 (fun x a' _ => a' = a₁ x) (fun _ _ _ _ _ _ h _ _ _ => h)
    (fun l pre x W K hi hg hK => hassign l x W K (hK _ _ (KeepsFrom.refl _ _) (hKr W) hi hg rfl)) (fun l pre x a' W hl hr hi hg e hn => by subst e; exact hbody l pre x W hl hr hi hg hn) hdone hstop

/-- .. likewise -/
theorem rangeN {g : Operand} {ps : Array Tmp} {assign body : Code} {Q : Exit → Act → World → Prop} {a : Act}
    {l₀ : Nat} {r₀ : Loop} (hro : F.round = some l₀) (hl₀ : w.heap[l₀]? = some (.loop r₀)) (h1 : 1 ≤ n) {gf : Nat} {lb : Array Value} (hg : a.eval g = .func (.func gf) #[] lb) (hFg : F.fn gf) (eg : ∀ args w, (callFunc gf args).run P w = .ok (.enter gf args) w)
    {encs : α → Array Value} {Kp : World → World → Prop} {Ab : World → World → World → Prop} {G : α → World → Prop} {S Sp Np : List α → Prop} {w0 : World} (hseq : SeqL F (n - 1) P gf lb encs Kp Ab G S Sp Np w0)
    (hKt : ∀ {A B C : World}, Kp A B → Kp B C → Kp A C) (hKb : ∀ (W : World) (l : Nat) (o o' : Obj), w.heap.size ≤ l → W.heap[l]? = some o → o.isCells = false → Kp W (W.putObj l o')) (hb0 : Below w0.heap.size w0 w) (hps : ∀ x, (encs x).size = ps.size)
    (hAb : ∀ W A B (k : Nat) (o : Obj), Ab W A B → k < W.heap.size → A.heap[k]? = some o → o.isCells = false → B.heap[k]? = some o)
    (I : List α → World → Prop) (Ix : Code → List α → World → Prop) (hI : ∀ s, Rec w.heap.size (I s)) (hIx : ∀ c s, Rec w.heap.size (Ix c s)) (hG : ∀ x, Rec w.heap.size (G x))
    (hIA : ∀ W s A B, w.heap.size ≤ W.heap.size → I s A → Ab W A B → I s B) (hIxA : ∀ W c s A B, w.heap.size ≤ W.heap.size → Ix c s A → Ab W A B → Ix c s B) (hIa : ∀ s A o, I s A → I s (A.alloc o)) (h0 : I [] w) (hKr : ∀ W, Kp W W) (a₁ : α → Act)
    (hassign : ∀ (l : Nat) (x : α) (W : World) (K : Act → World → Prop), K (a₁ x) W →
      assign.wpIn (F.inRound l) (n - 1 - 1) P (Exit.then K (fun _ _ _ => False)) { tmps := (ps.zip (encs x)).foldl (fun t (p, v) => t.setIfInBounds p v) a.tmps, defers := [] } W)
    (hbody : ∀ (l : Nat) (pre : List α) (x : α) (W : World), w.heap.size ≤ l → (∃ r, W.heap[l]? = some (.loop r)) → I pre W → G x W → Np pre → body.wpIn (F.inRound l) (n - 1 - 1) P (endsL w.heap.size Kp I Ix (pre ++ [x]) W) (a₁ x) W)
    (hdone : ∀ (xs : List α) (W : World), S xs → I xs W → Q .normal a W)
    (hstop : ∀ (c : Code) (pre : List α) (W : World), Sp pre → Ix c pre W → c.wpIn F n P Q a W) :
    (Code.rangeFunc g ps assign body).wpIn F n P Q a w :=
  rangeNH hro hl₀ h1 hg hFg eg hseq (fun h k => hKt h k) hKb hb0 hps hAb I Ix hI hIx hG hIA hIxA hIa h0 (fun x a' _ => a' = a₁ x) (fun _ _ _ _ _ _ h _ _ _ => h)
    (fun l pre x W K hi hg hK => hassign l x W K (hK _ _ (KeepsFrom.refl _ _) (hKr W) hi hg rfl)) (fun l pre x a' W hl hr hi hg e hn => by subst e; exact hbody l pre x W hl hr hi hg hn) hdone hstop

end
end Go.Proofs.Ytbieglmpkljjjaa

namespace Go.Proofs.Ytbieglmpkljjjaa
open Go.RowKit Go.Shelf

attribute [local go_sem] Oper.semAt_some

theorem grown_drewN' (w : World) (n : Nat) (row : Option Nat) : w.grownBy (w.drewN n) row := ⟨rfl, rfl, rfl, Nat.le_refl _, fun _ _ _ => rfl⟩
/-- only new blocks, and draws -/
def New (_W A B : World) : Prop := A.grownBy B none
theorem new_cells : ∀ W A B (k : Nat) (o : Obj), New W A B → k < W.heap.size → A.heap[k]? = some o → o.isCells = false → B.heap[k]? = some o :=
  fun _ _ _ k _ h _ hk _ => (h.block k (Array.getElem?_eq_some_iff.1 hk).1 (by simp)).trans hk
/-- the blocks of P are as they were -/
def Kept (P : Nat → Prop) (W W' : World) : Prop := ∀ k, P k → W'.heap[k]? = W.heap[k]?
theorem Kept.refl (P : Nat → Prop) (W : World) : Kept P W W := fun _ _ => rfl
theorem Kept.trans {P : Nat → Prop} {A B C : World} (h : Kept P A B) (k : Kept P B C) : Kept P A C := fun i hi => (k i hi).trans (h i hi)
theorem Kept.cell {P : Nat → Prop} {W W' : World} (h : Kept P W W') {a : Addr} (ha : P a.block) : W'.cell? a = W.cell? a := World.cell?_of_block (w := W) (h a.block ha)
theorem Kept.new {P : Nat → Prop} {A B : World} (h : A.grownBy B none) (hP : ∀ k, P k → k < A.heap.size) : Kept P A B := fun k hk => h.block k (hP k hk) (by simp)

set_option maxHeartbeats 800000 in
theorem kwalk_any (v1 v2 v3 : Value) (au : Option Addr) (nx cu : Nat) (w : World) :
    Calls Try.prog 70 #[.agg #[v1, v2, v3], .slice au nx cu] w fun e w' => e = .returned (.func (.func 107) #[] #[.pointer (some ⟨w.heap.size, 0, none⟩), .pointer (some ⟨w.heap.size + 1, 0, none⟩)]) ∧ w' = (w.alloc (.cells #[v1, v2, v3] 26)).alloc (.cells #[.slice au nx cu] 22) := by
  go_enter Try.func70, Try.ntmps70
  go_wp2
  go_ret
  exact ⟨rfl, rfl⟩

set_option maxRecDepth 100000 in
set_option maxHeartbeats 4000000 in
theorem walk1_seq (n : Nat) (hn : 1 ≤ n) (Bb Bx N : Nat) (D : Nd) (nv : Nat) (V : Nat → Int) (ns nx : Nat) (x : Nat → Int) (P : Nat → Prop) (Kp : World → World → Prop) (hKp : ∀ A B, Kp A B → Kept P A B)
    (w : World) (v1 v2 : Value) (an : Option Addr) (cn : Nat) (au : Option Addr) (cu : Nat) (hcb : w.cell? ⟨Bb, 2, none⟩ = some (.slice an D.n cn)) (hcx : w.cell? ⟨Bx, 0, none⟩ = some (.slice au nx cu))
    (hD : NodesAt N w (.slice an D.n cn) D) (hF : 0 < nx → ∃ bu ou, au = some ⟨bu, ou, none⟩ ∧ P bu ∧ ∀ i, i < nx → w.cell? ⟨bu, ou + i, none⟩ = some (.int .i64 (x i)))
    (hPN : ∀ k, k < N → P k) (hPb : P Bb) (hPx : P Bx) (hPw : ∀ k, P k → k < w.heap.size) (hG : GoodN nv V ns D) (hX : GoodX nv V nx x) :
    SeqL Fence.wide n Try.prog 107 #[.pointer (some ⟨Bb, 0, none⟩), .pointer (some ⟨Bx, 0, none⟩)] (fun k : Nat => #[.int .i64 k]) Kp New (fun k _ => k < D.n) (fun ys => ys = walk D x) (fun _ => True) (fun pre => pre.length < D.n) w := by
  intro l J Jx W hW hJa _ hY h0
  obtain ⟨bn, on, rfl, hbn, hrn⟩ := hD.cells hG.n1
  have HR := Lib.hid hrn
  have HF := Lib.hid hF
  have HY := Lib.hid hY
  have HJ := Lib.hid hJa
  have HG := Lib.hid hG
  have HX := Lib.hid hX
  have HKp := Lib.hid hKp
  have HW := Lib.hid hW
  have HPw : Hid (∀ k, P k → k < W.heap.size) := fun k hk => Nat.lt_of_lt_of_le (hPw k hk) hW.size
  have HK0 : Hid (Kept P w W) := fun k hk => hW.block k (hPw k hk)
  have HWK : Hid (walk D x = [] ++ wk D x 0) := walk_wk D x
  have HPn : Hid (P bn) := hPN bn hbn
  have HPb := Lib.hid hPb
  have HPx := Lib.hid hPx
  have HPN := Lib.hid hPN
  have HCB := Lib.hid hcb
  have HCX := Lib.hid hcx
  have HN1 := Lib.hid hG.n1
  clear hrn hF hY hJa hG hX hKp hW hPb hPx hPN hPw hcb hcx hD hbn
  refine callsIn_of_wp Try.func107 rfl trivial ?_ rfl
  simp only [Try.ntmps107, List.size_toArray, List.length_cons, List.length_nil, Nat.reduceAdd, Nat.reduceSub, Array.replicate_succ, Array.replicate_zero, List.push_toArray, List.append_toArray, List.nil_append, List.cons_append]
  gi_wp2
  gi_loopw [4] (fun i wr => ∃ k : Nat, ∃ pre : List Nat, i = .int .i64 k ∧ Hid (k < D.n ∧ walk D x = pre ++ wk D x k) ∧ Hid (J pre wr) ∧ Hid (Kept P W wr))
    (fun i _ => D.n - (intOf i).toNat)
  case atStart => exact ⟨0, [], rfl, ⟨HN1.out, HWK.out⟩, h0, Kept.refl _ _⟩
  case round =>
    obtain ⟨k, pre, rfl, hk, hJs, hKs⟩ := hrel
    have hkl : k < D.n := hk.out.1
    have hlen : pre.length < D.n := by
      have e1 := walk_len HG.out HX.out
      rw [hk.out.2] at e1
      by_cases hM : D.M k = -1
      · rw [wk_stop HG.out hkl hM] at e1; simp at e1; omega
      · rw [wk_go HG.out HX.out hkl hM] at e1; simp at e1; omega
    obtain ⟨fn, tmps, assign, body, hy, hR⟩ := HY.out pre k wr hJs.out hkl hlen
    gi_wp2
    refine hR.mono ?_
    rintro e W3 (⟨rfl, hJ3, hk3⟩ | ⟨rfl, hJx3⟩)
    · have HK3 : Hid (Kept P W W3) := hKs.out.trans (HKp.out _ _ hk3)
      have HK : Hid (Kept P w W3) := HK0.out.trans HK3.out
      obtain ⟨ai, ci, hm, hs, hnx, hints⟩ := HR.out k hkl
      have hki : (k : Int) < (D.n : Int) := by omega
      have b2 := (HK.out.cell (a := ⟨Bb, 2, none⟩) HPb.out).trans HCB.out
      have n0 := (HK.out.cell (a := ⟨bn, on + k * 3, none⟩) HPn.out).trans hm
      have n1 := (HK.out.cell (a := ⟨bn, on + k * 3 + 1, none⟩) HPn.out).trans hs
      have n2 := (HK.out.cell (a := ⟨bn, on + k * 3 + 2, none⟩) HPn.out).trans hnx
      obtain ⟨wn, hwn, HBn, hszn, hblkn⟩ := box1 W3 (.cells #[.int .i64 (D.M k), .int .i64 (D.S k), .slice ai (D.q k) ci] 41)
      have m0 := cell_blk hblkn 0 rfl
      have m1 := cell_blk hblkn 1 rfl
      have m2 := cell_blk hblkn 2 rfl
      have HJ4 : Hid (J (pre ++ [k]) wn) := HJ.out _ _ _ hJ3 (by rw [← hwn]; exact World.grownBy_alloc _ _ _)
      have HP3 : Hid (∀ k, P k → k < W3.heap.size) := fun k hk => by
        have h1 := HPw.out k hk
        have h2 := HK3.out k hk
        rw [Array.getElem?_eq_getElem h1] at h2
        exact (Array.getElem?_eq_some_iff.1 h2).1
      have HK4 : Hid (Kept P W wn) := HK3.out.trans (fun k hk => HBn.out.block k (HP3.out k hk))
      clear hblkn hm hs hnx hJ3 hk3 hR hy
      by_cases hM : D.M k = -1
      · have hme : (D.M k == -1) = true := by simp [hM]
        have HE : Hid (pre ++ [k] = walk D x) := by unfold Hid; rw [hk.out.2, wk_stop HG.out hkl hM]
        clear hM
        gi_wp2
        refine bodyPost_ret (results_none rfl _ _ _) rfl ?_
        exact ⟨⟨_, rfl⟩, .inl ⟨_, HE.out, HJ4.out⟩⟩
      · have hme : (D.M k == -1) = false := by simp [hM]
        obtain ⟨g1, g2, g3, g4, g5⟩ := nxt_ok HG.out HX.out hkl hM
        have a1 := (HG.out.ask k hkl hM).1; have a2 := (HG.out.ask k hkl hM).2.1
        obtain ⟨m, hmm⟩ : ∃ m : Nat, D.M k = m := ⟨(D.M k).toNat, by omega⟩
        have HE : Hid (walk D x = (pre ++ [k]) ++ wk D x (nxt D x k)) := by unfold Hid; rw [hk.out.2, wk_go HG.out HX.out hkl hM, List.append_assoc]; rfl
        rw [hmm] at m0 hme g3 g4 g5 a2 hwn n0
        rw [Int.toNat_natCast] at g3 g4 g5
        have hmn : m < nx := by have := HX.out.n; omega
        have hmi : (m : Int) < (nx : Int) := by omega
        obtain ⟨bu, ou, rfl, hPu, hru⟩ := HF.out (by omega)
        have hcu := hru m hmn
        obtain ⟨t, hxt⟩ : ∃ t : Nat, x m = t := ⟨(x m).toNat, (Int.toNat_of_nonneg g4).symm⟩
        rw [hxt] at hcu g3 g4 g5
        rw [Int.toNat_natCast] at g3 g5
        have hti : (t : Int) < (D.q k : Int) := by omega
        obtain ⟨bt, ot, rfl, hbt, hrt⟩ := hints.cells (by omega)
        have hct := hrt t g3
        rw [g5] at hct
        have HKn : Hid (Kept P w wn) := HK0.out.trans HK4.out
        have d1 := (HKn.out.cell (a := ⟨Bx, 0, none⟩) HPx.out).trans HCX.out
        have d2 := (HKn.out.cell (a := ⟨bu, ou + m, none⟩) hPu).trans hcu
        have d3 := (HKn.out.cell (a := ⟨bt, ot + t, none⟩) (HPN.out bt hbt)).trans hct
        have HNX := Lib.hid g1
        have HNX2 := Lib.hid g2
        clear hints hru hrt hM hmm hxt g5 g4 a1 a2 g1 hcu hct
        generalize nxt D x k = y at *
        gi_wp2
        gi_quiet (fail)
        gi_wp2
        go_roundw
        case rel => exact ⟨y, pre ++ [k], rfl, ⟨HNX2.out, HE.out⟩, HJ.out _ _ _ HJ4.out (grown_drewN' _ _ _), HK4.out⟩
        case measure => simp [intOf]; have := HNX.out; omega
    · gi_wp2
      go_end0
      exact ⟨⟨_, rfl⟩, .inr ⟨_, trivial, hJx3⟩⟩

end Go.Proofs.Ytbieglmpkljjjaa

namespace Go.Proofs.Ytbieglmpkljjjaa
open Go.RowKit Go.Shelf

attribute [local go_sem] Oper.semAt_some

theorem grown_below {w w' : World} (h : w.grownBy w' none) : Below w.heap.size w w' := (Below.refl _ _).grown h (Nat.le_refl _) (fun k e => by cases e)
theorem below_putObj {n : Nat} {A : World} {l : Nat} {o : Obj} (o' : Obj) (hl : A.heap[l]? = some o) (hn : n ≤ l) : Below n A (A.putObj l o') :=
  (Below.refl n A).grown (grownBy_putObj' A l o') (by have := (Array.getElem?_eq_some_iff.1 hl).1; omega) (fun k e => by cases e; omega)
theorem heap_lt {W : World} {b : Nat} {o : Obj} (h : W.heap[b]? = some o) : b < W.heap.size := (Array.getElem?_eq_some_iff.1 h).1

/-- the block Bo holds what f says of the rounds that are over; all below M is as it was in ws -/
def BoxI {α : Type} (ws : World) (Bo M : Nat) (t : TypeId) (f : List α → Array Value) (pre : List α) (W : World) : Prop := W.heap[Bo]? = some (.cells (f pre) t) ∧ Below M ws W
theorem BoxI.rec' {α : Type} {ws : World} {Bo M : Nat} {t : TypeId} {f : List α → Array Value} {B : Nat} (h1 : Bo < B) (h2 : M ≤ B) (s : List α) : Rec B (BoxI ws Bo M t f s) := fun A l o o' h hl hA ho =>
  ⟨(World.putObj_heap_other (by omega)).trans h.1, h.2.trans (below_putObj o' hA (by omega))⟩
theorem BoxI.new {α : Type} {ws : World} {Bo M : Nat} {t : TypeId} {f : List α → Array Value} {s : List α} {A B : World} (h : BoxI ws Bo M t f s A) (hM : M ≤ A.heap.size) (k : A.grownBy B none) : BoxI ws Bo M t f s B :=
  ⟨(k.block Bo (heap_lt h.1) (by simp)).trans h.1, h.2.trans ((grown_below k).mono hM)⟩
theorem BoxI.size {α : Type} {ws : World} {Bo M : Nat} {t : TypeId} {f : List α → Array Value} {s : List α} {A : World} (h : BoxI ws Bo M t f s A) : ws.heap.size ≤ A.heap.size := h.2.size
theorem BoxI.below {α : Type} {ws : World} {Bo M : Nat} {t : TypeId} {f : List α → Array Value} {s : List α} {A B : World} (h : BoxI ws Bo M t f s A) (hM : M ≤ A.heap.size) (k : Below A.heap.size A B) : BoxI ws Bo M t f s B :=
  ⟨(k.block Bo (heap_lt h.1)).trans h.1, h.2.trans (k.mono hM)⟩
theorem BoxI.cell {α : Type} {ws : World} {Bo M : Nat} {t : TypeId} {f : List α → Array Value} {s : List α} {A : World} (h : BoxI ws Bo M t f s A) (i : Nat) {x : Value} (hx : (f s)[i]? = some x) : A.cell? ⟨Bo, i, none⟩ = some x := cell_blk h.1 i hx
theorem BoxI.free {α : Type} {ws : World} {Bo M : Nat} {t : TypeId} {f : List α → Array Value} {s : List α} {A : World} (h : BoxI ws Bo M t f s A) (i : Nat) : A.frozen? ⟨Bo, i, none⟩ = false := free_blk h.1 i
theorem BoxI.store {α : Type} {ws : World} {Bo M : Nat} {t : TypeId} {f : List α → Array Value} {s s' : List α} {A : World} (h : BoxI ws Bo M t f s A) (hM : M ≤ Bo) (i : Nat) (v : Value) (hf : (f s).setIfInBounds i v = f s') : BoxI ws Bo M t f s' (A.setCell ⟨Bo, i, none⟩ v) := by
  refine ⟨?_, h.2.trans ((Below.refl M A).setCell hM v)⟩
  show (A.heap.modify Bo _)[Bo]? = _
  rw [Array.getElem?_modify]
  simp [h.1, hf]

/-- new blocks, one after another -/
def allocs (w : World) : List Obj → World
  | [] => w
  | o :: os => allocs (w.alloc o) os
theorem allocs_size (os : List Obj) : ∀ w : World, (allocs w os).heap.size = w.heap.size + os.length := by
  induction os with
  | nil => intro w; rfl
  | cons o os ih => intro w; simp only [allocs, ih, World.size_alloc, List.length_cons]; omega
theorem allocs_below (os : List Obj) : ∀ w : World, Below w.heap.size w (allocs w os) := by
  induction os with
  | nil => intro w; exact Below.refl _ _
  | cons o os ih => intro w; exact (below_alloc (Nat.le_refl _) o).trans ((ih (w.alloc o)).mono (by simp))
theorem allocs_at (os : List Obj) : ∀ (w : World) (i : Nat) (o : Obj), os[i]? = some o → (allocs w os).heap[w.heap.size + i]? = some o := by
  induction os with
  | nil => intro w i o h; simp at h
  | cons o' os ih =>
    intro w i o h
    cases i with
    | zero => simp at h; subst h; exact ((allocs_below os (w.alloc o')).block _ (by simp)).trans (World.alloc_heap_new _ _)
    | succ i =>
      have := ih (w.alloc o') i o (by simpa using h)
      rw [World.size_alloc] at this
      rw [show w.heap.size + (i + 1) = w.heap.size + 1 + i by omega]; exact this
theorem allocs4 (w : World) (o1 o2 o3 o4 : Obj) : ∃ ws : World, (((w.alloc o1).alloc o2).alloc o3).alloc o4 = ws ∧ Hid (Below w.heap.size w ws) ∧ ws.heap.size = w.heap.size + 4 ∧
    ws.heap[w.heap.size]? = some o1 ∧ ws.heap[w.heap.size + 1]? = some o2 ∧ ws.heap[w.heap.size + 1 + 1]? = some o3 ∧ ws.heap[w.heap.size + 1 + 1 + 1]? = some o4 :=
  ⟨_, rfl, allocs_below [o1, o2, o3, o4] w, by simp, allocs_at [o1, o2, o3, o4] w 0 _ rfl, allocs_at [o1, o2, o3, o4] w 1 _ rfl, allocs_at [o1, o2, o3, o4] w 2 _ rfl, allocs_at [o1, o2, o3, o4] w 3 _ rfl⟩

/-- the sort of the last node of some -/
def lastS (D : Nd) (pre : List Nat) : Int := (pre.getLast?.map D.S).getD (-1)
theorem lastS_snoc (D : Nd) (pre : List Nat) (k : Nat) : lastS D (pre ++ [k]) = D.S k := by simp [lastS]
theorem lastS_walk {nv : Nat} {V : Nat → Int} {ns : Nat} {D : Nd} {n : Nat} {x : Nat → Int} (hD : GoodN nv V ns D) (hx : GoodX nv V n x) : lastS D (walk D x) = endOf D x := by
  obtain ⟨pre, k, e, _, _, _, he⟩ := walk_last hD hx
  rw [e, lastS_snoc, he]

theorem keepsFrom_below {W W' : World} (B : Nat) (h : Below W.heap.size W W') : KeepsFrom B W W' := ⟨h.size, fun k o _ hk _ => (h.block k (heap_lt hk)).trans hk⟩

set_option maxRecDepth 100000 in
set_option maxHeartbeats 4000000 in
theorem kend_any (N : Nat) (v u : Value) (B : KB) (n : Nat) (x : Nat → Int) (w : World) (h : BookAt N w v B) (hu : IntsAt w.heap.size w u n x) (hG : GoodB B) (hX : GoodX B.nv B.V n x) :
    Calls Try.prog 71 #[v, u] w fun e W' => e = .returned (.int .i64 (endOf B.D x)) ∧ Below w.heap.size w W' := by
  obtain ⟨au, cu, rfl, _, _⟩ := id hu
  obtain ⟨hN, a1, z1, a2, z2, a3, z3, rfl, _⟩ := id h
  have HB := Lib.hid h
  have HU := Lib.hid hu
  have HG := Lib.hid hG
  have HX := Lib.hid hX
  clear h hu hG hX
  refine (callsIn_wide (n := 3)).1 ?_
  refine callsIn_of_wp_marks Try.func71 rfl trivial ?_ rfl
  simp only [Try.ntmps71, List.size_toArray, List.length_cons, List.length_nil, Nat.reduceAdd, Nat.reduceSub, Array.replicate_succ, Array.replicate_zero, List.push_toArray, List.append_toArray, List.nil_append, List.cons_append]
  gi_wp2_with (refine ⟨trivial, ?_⟩; gi_at_call 70; refine (callsIn_wide.2 (kwalk_any _ _ _ _ _ _ _)).mono ?_; rintro e w' ⟨rfl, rfl⟩)
  obtain ⟨ws, hws, HBs, hsz, k0, k1, k2, k3⟩ := allocs4 w (.cells #[.slice a1 B.nv z1, .slice a2 B.ns z2, .slice a3 B.D.n z3] 26) (.cells #[.int .i64 (-1)] 3) (.cells #[.slice a1 B.nv z1, .slice a2 B.ns z2, .slice a3 B.D.n z3] 26) (.cells #[.slice au n cu] 22)
  rw [hws]
  clear hws
  have HBK := Lib.hid (HB.out.go HBs.out)
  have HUS := Lib.hid (HU.out.go (Nat.le_refl _) HBs.out)
  have hND := HBK.out.nodes
  obtain ⟨bn, on, rfl, hbn, hrn⟩ := hND.cells HG.out.D.n1
  have hseq := walk1_seq 2 (by omega) (w.heap.size + 2) (w.heap.size + 3) N B.D B.nv B.V B.ns n x (fun k => k < ws.heap.size ∧ k ≠ w.heap.size + 1) (Kept fun k => k < ws.heap.size ∧ k ≠ w.heap.size + 1) (fun _ _ h => h) ws (.slice a1 B.nv z1) (.slice a2 B.ns z2) _ z3 au cu
    (cell_blk k2 2 rfl) (cell_blk k3 0 rfl) hND (fun h0 => by obtain ⟨bu, ou, e, h1, h2⟩ := HUS.out.cells h0; exact ⟨bu, ou, e, ⟨by omega, by omega⟩, h2⟩)
    (fun k hk => ⟨by omega, by omega⟩) ⟨by omega, by omega⟩ ⟨by omega, by omega⟩ (fun k hk => hk.1) HG.out.D HX.out
  have HRN := Lib.hid hrn
  have HSEQ := Lib.hid hseq
  have K0 := Lib.hid k0
  have K1 := Lib.hid k1
  clear hND hrn hseq k0 k1 k2 k3
  refine rangeL (w := ws) rfl (by omega) (gf := 107) (lb := #[.pointer (some ⟨w.heap.size + 1 + 1, 0, none⟩), .pointer (some ⟨w.heap.size + 1 + 1 + 1, 0, none⟩)]) rfl trivial (enters_of Try.func107 (by kernel_rfl) rfl) HSEQ.out
    (fun h k => Kept.trans h k) (fun W l o o' hl _ _ k hk => World.putObj_heap_other (by omega)) (Below.refl _ _) (fun _ => rfl) new_cells
    (BoxI ws (w.heap.size + 1) (w.heap.size + 1) 3 (fun pre => #[.int .i64 (lastS B.D pre)])) (fun _ _ _ => False)
    (fun s => BoxI.rec' (by omega) (by omega) s) (fun _ _ _ _ _ _ h _ _ _ => h) (fun _ _ _ _ _ h _ _ _ => h)
    (fun W s A C hW hs hk => BoxI.new hs (by have := hs.size; omega) hk) (fun _ _ _ _ _ _ h _ => h) (fun s A o hs => BoxI.new hs (by have := hs.size; omega) (World.grownBy_alloc _ _ _)) ⟨K1.out, Below.refl _ _⟩ (fun W => Kept.refl _ W)
    (fun k => { tmps := #[.agg #[.slice a1 B.nv z1, .slice a2 B.ns z2, .slice (some ⟨bn, on, none⟩) B.D.n z3], .slice au n cu, .pointer (some ⟨w.heap.size, 0, none⟩), undef, .int .i64 0, .pointer (some ⟨w.heap.size + 1, 0, none⟩), .int .i64 (k : Int), .agg #[.slice a1 B.nv z1, .slice a2 B.ns z2, .slice (some ⟨bn, on, none⟩) B.D.n z3], .slice au n cu, .func (.func 107) #[] #[.pointer (some ⟨w.heap.size + 1 + 1, 0, none⟩), .pointer (some ⟨w.heap.size + 1 + 1 + 1, 0, none⟩)], .int .i64 (k : Int), undef, undef, undef, undef, undef, undef, undef], defers := [] }) ?assign ?body ?done ?stop
  case assign =>
    intro l x W K hK
    gi_wp2
    exact hK
  case body =>
    intro l pre k W hl hrec hs hk hpl
    have hc := hs.cell 0 rfl
    have hf := hs.free 0
    have b2 := (hs.2.cell (p := ⟨w.heap.size, 2, none⟩) (Nat.lt_succ_self _)).trans (cell_blk K0.out 2 rfl)
    obtain ⟨ai, ci, hm, hsn, hnx, hints⟩ := HRN.out k hk
    have n1 := (hs.2.cell (p := ⟨bn, on + k * 3 + 1, none⟩) (by show bn < _; omega)).trans hsn
    have hki : (k : Int) < (B.D.n : Int) := by omega
    have HS := Lib.hid hs
    clear hs hm hsn hnx hints
    gi_wp2
    exact ⟨(KeepsOthers.setCell _ _ _).from _, fun j hj => Below.heap_setCell _ _ _ _ hj.2, HS.out.store (Nat.le_refl _) 0 _ (by rw [lastS_snoc]; rfl)⟩
  case done =>
    rintro D ys W hD rfl hs hK
    have hc := hs.cell 0 rfl
    rw [lastS_walk HG.out.D HX.out] at hc
    gi_wp2
    refine ⟨by simp, .inl ⟨_, _, rfl, run_takeDeferred hK, ?_⟩⟩
    exact ⟨_, results_tmp rfl _ _ _, rfl, (HBs.out.trans (hs.2.mono (by omega))).trans (belowK_b (w := w) (Nat.le_refl _) W D _ _ (by omega) hK rfl rfl)⟩
  case stop =>
    rintro D c pre W hD _ h _
    exact h.elim

end Go.Proofs.Ytbieglmpkljjjaa

namespace Go.Proofs.Ytbieglmpkljjjaa
open Go.RowKit Go.Shelf

attribute [local go_sem] Oper.semAt_some

theorem own_rec {β : Type} {I : β → World → Prop} (h : Own I) (B : Nat) (s : β) : Rec B (I s) := fun _ _ _ o' hs _ hA ho => h.putObj o' hs hA ho
theorem own_new {β : Type} {I : β → World → Prop} (h : Own I) {s : β} {A B : World} (hs : I s A) (k : A.grownBy B none) : I s B := h s A B none hs k (fun r e => by cases e)
theorem below_rec {n B : Nat} (ws : World) (h : n ≤ B) : Rec B (fun W => Below n ws W) := fun _ _ _ o' hs hl hA _ => hs.trans (below_putObj o' hA (by omega))
theorem below_new {n : Nat} {ws A B : World} (hs : Below n ws A) (hn : n ≤ ws.heap.size) (k : A.grownBy B none) : Below n ws B := hs.trans ((grown_below k).mono (Nat.le_trans hn hs.size))

/-- the box Bo holds a list of its own, of the numbers f pre -/
def ListI {α : Type} (Bo n0 : Nat) (f : List α → List Int) (pre : List α) (W : World) : Prop := ∃ v, Boxed W Bo 22 v ∧ W.ownsRow n0 3 1 v (f pre).length ((f pre).map (Value.int .i64)) ∧ True
theorem listI_own {α : Type} (Bo n0 : Nat) (f : List α → List Int) : Own (ListI Bo n0 f) := holdsRow_own n0 Bo 22 3 1 (fun pre => (f pre).length) (fun pre => (f pre).map (Value.int .i64)) (fun _ _ => True)

set_option maxRecDepth 100000 in
set_option maxHeartbeats 4000000 in
theorem appendWalk_any (Bb Bx N : Nat) (D : Nd) (nv : Nat) (V : Nat → Int) (ns nx : Nat) (x : Nat → Int)
    (w : World) (v1 v2 : Value) (an : Option Addr) (cn : Nat) (au : Option Addr) (cu : Nat) (hcb : w.cell? ⟨Bb, 2, none⟩ = some (.slice an D.n cn)) (hcx : w.cell? ⟨Bx, 0, none⟩ = some (.slice au nx cu))
    (hD : NodesAt N w (.slice an D.n cn) D) (hF : IntsAt w.heap.size w (.slice au nx cu) nx x)
    (hN : N ≤ w.heap.size) (hb : Bb < w.heap.size) (hx : Bx < w.heap.size) (hG : GoodN nv V ns D) (hX : GoodX nv V nx x) (h1000 : D.n ≤ 1000) :
    Calls Try.prog 106 #[.slice none 0 0, .func (.func 107) #[] #[.pointer (some ⟨Bb, 0, none⟩), .pointer (some ⟨Bx, 0, none⟩)]] w (GivesI w.heap.size w (ints (walk D x))) := by
  obtain ⟨i0, hi, hz0, hz1, hz2⟩ := info_parts Try.infoInt
  obtain ⟨ws, hws, HBs, hszs, hblk⟩ := box1 w (.cells #[.slice none 0 0] 22)
  have hsz : ws.heap.size = w.heap.size + 1 := by rw [← hws]; simp
  have hseq := walk1_seq 2 (by omega) Bb Bx N D nv V ns nx x (fun k => k < w.heap.size) (Below w.heap.size) (fun _ _ h k hk => h.block k hk) ws v1 v2 an cn au cu
    ((HBs.out.cell (p := ⟨Bb, 2, none⟩) hb).trans hcb) ((HBs.out.cell (p := ⟨Bx, 0, none⟩) hx).trans hcx) (hD.go hN HBs.out) (fun h0 => by obtain ⟨bu, ou, e, h1, h2⟩ := hF.cells h0; exact ⟨bu, ou, e, h1, fun i hi => (HBs.out.cell (p := ⟨bu, ou + i, none⟩) h1).trans (h2 i hi)⟩)
    (fun k hk => by omega) hb hx (fun k hk => by omega) hG hX
  have HSEQ := Lib.hid hseq
  have HG := Lib.hid hG
  have HX := Lib.hid hX
  have K0 := Lib.hid hblk
  clear hseq hG hX hcb hcx hD hF hblk
  refine (callsIn_wide (n := 3)).1 ?_
  refine callsIn_of_wp_marks Try.func106 rfl trivial ?_ rfl
  simp only [Try.ntmps106, List.size_toArray, List.length_cons, List.length_nil, Nat.reduceAdd, Nat.reduceSub, Array.replicate_succ, Array.replicate_zero, List.push_toArray, List.append_toArray, List.nil_append, List.cons_append]
  gi_wp2
  (try rw [hws])
  clear hws
  refine rangeL (w := ws) rfl (by omega) (gf := 107) (lb := #[.pointer (some ⟨Bb, 0, none⟩), .pointer (some ⟨Bx, 0, none⟩)]) rfl trivial (enters_of Try.func107 (by kernel_rfl) rfl) HSEQ.out
    (fun h k => Below.trans h k) (fun W l o o' hl hW _ => below_putObj o' hW (by omega)) (Below.refl _ _) (fun _ => rfl) new_cells
    (fun pre W => (ListI w.heap.size ws.heap.size ints pre W ∧ pre.length ≤ D.n) ∧ Below w.heap.size w W) (fun _ _ _ => False)
    (fun s A l o o' h hl hA ho => ⟨⟨own_rec (listI_own _ _ _) _ s A l o o' h.1.1 hl hA ho, h.1.2⟩, below_rec w (by omega) A l o o' h.2 hl hA ho⟩) (fun _ _ _ _ _ _ h _ _ _ => h) (fun _ _ _ _ _ h _ _ _ => h)
    (fun W s A C hW hs hk => ⟨⟨own_new (listI_own _ _ _) hs.1.1 hk, hs.1.2⟩, below_new hs.2 (Nat.le_refl _) hk⟩) (fun _ _ _ _ _ _ h _ => h)
    (fun s A o hs => ⟨⟨own_new (listI_own _ _ _) hs.1.1 (World.grownBy_alloc _ _ _), hs.1.2⟩, below_new hs.2 (Nat.le_refl _) (World.grownBy_alloc _ _ _)⟩) ⟨⟨⟨_, K0.out, World.ownsRow_nil _ _ _ _, trivial⟩, Nat.zero_le _⟩, HBs.out⟩ (fun W => Below.refl _ W)
    (fun k => { tmps := #[.slice none 0 0, .func (.func 107) #[] #[.pointer (some ⟨Bb, 0, none⟩), .pointer (some ⟨Bx, 0, none⟩)], .pointer (some ⟨w.heap.size, 0, none⟩), undef, .slice none 0 0, .int .i64 (k : Int), .func (.func 107) #[] #[.pointer (some ⟨Bb, 0, none⟩), .pointer (some ⟨Bx, 0, none⟩)], .int .i64 (k : Int), undef, undef, undef, undef, undef], defers := [] }) ?assign ?body ?done ?stop
  case assign =>
    intro l x W K hK
    gi_wp2
    exact hK
  case body =>
    intro l pre k W hl hrec hs hk hpl
    replace hpl : pre.length < D.n := hpl
    obtain ⟨⟨⟨v, hv, hrow, _⟩, _⟩, hB⟩ := hs
    have hc := hv.cell
    have hWs : ws.heap.size ≤ W.heap.size := by have := heap_lt hv; omega
    have hlen : (ints pre).length ≤ 1000 := by rw [ints_len]; omega
    have HIS : Hid (ints (pre ++ [k]) = ints pre ++ [(k : Int)]) := ints_snoc _ _
    have HPL : Hid ((pre ++ [k]).length ≤ D.n) := by unfold Hid; simp; omega
    generalize ints pre = li at *
    gi_wp2_with (gi_at_builtin; refine wpListIn_append_own _ rfl _ _ 22 rfl ws.heap.size 3 i0 (.int .i64 0) 1 8 Try.underlying22 hi hz0 hz1 hz2 rfl (by decide) _ _ _ rfl (hrow.alloc _) ⟨W.heap.size, 0, none⟩ 1 1 [.int .i64 k] rfl rfl (cell_one_new _ _ _) (by simp [Value.oneCell']) (by unfold maxLen; omega) (by omega) (by simp; omega) ?_; intro v' w1 hown' hgrow _; obtain ⟨g', cap', rfl⟩ := ownsRow_succ hown'; obtain ⟨hv1, hv2, hr2, hk2, hb2⟩ := hv.appended (n₀ := w.heap.size) (by decide) (own_mono hrow (by omega)) hB.size (Nat.le_refl _) (own_mono hown' (by omega)) hgrow; have hc1 := hv1.cell; have hf1 := hv1.frozen)
    exact ⟨hk2.from _, hb2, ⟨⟨_, hv2, by rw [HIS.out, List.length_append, List.map_append]; exact hown'.kept (grownBy_setCell' _ _ _) (.inr (hv1.not_row (by decide) hown').symm), trivial⟩, HPL.out⟩, hB.trans hb2⟩
  case done =>
    rintro D' ys W hD rfl ⟨⟨⟨v, hv, hrow, _⟩, _⟩, hB⟩ hK
    have hc := hv.cell
    gi_wp2
    refine ⟨by simp, .inl ⟨_, _, rfl, run_takeDeferred hK, ?_⟩⟩
    have hown := own_mono (base' := w.heap.size) hrow (by omega)
    exact ⟨_, results_tmp rfl _ _ _, v, rfl, ownsRow_putObj hown _ hK rfl, hB.trans (belowK_b (w := w) (Nat.le_refl _) W D' _ _ (by omega) hK rfl rfl)⟩
  case stop =>
    rintro D c pre W hD _ h _
    exact h.elim

theorem collect_walk (Bb Bx N : Nat) (D : Nd) (nv : Nat) (V : Nat → Int) (ns nx : Nat) (x : Nat → Int)
    (w : World) (v1 v2 : Value) (an : Option Addr) (cn : Nat) (au : Option Addr) (cu : Nat) (hcb : w.cell? ⟨Bb, 2, none⟩ = some (.slice an D.n cn)) (hcx : w.cell? ⟨Bx, 0, none⟩ = some (.slice au nx cu))
    (hD : NodesAt N w (.slice an D.n cn) D) (hF : IntsAt w.heap.size w (.slice au nx cu) nx x)
    (hN : N ≤ w.heap.size) (hb : Bb < w.heap.size) (hx : Bx < w.heap.size) (hG : GoodN nv V ns D) (hX : GoodX nv V nx x) (h1000 : D.n ≤ 1000) :
    Calls Try.prog 69 #[.func (.func 107) #[] #[.pointer (some ⟨Bb, 0, none⟩), .pointer (some ⟨Bx, 0, none⟩)]] w (GivesI w.heap.size w (ints (walk D x))) := by
  have H := Lib.hid (appendWalk_any Bb Bx N D nv V ns nx x w v1 v2 an cn au cu hcb hcx hD hF hN hb hx hG hX h1000)
  clear hcb hcx hD hF hG hX
  go_enter Try.func69, Try.ntmps69
  go_wp2_with (go_at_call 106; refine H.out.mono ?_; rintro e w1 ⟨v, rfl, ho, hb1⟩)
  go_ret
  exact ⟨_, rfl, ho, hb1⟩

set_option maxHeartbeats 1600000 in
theorem kWalk_any (N : Nat) (v u : Value) (B : KB) (n : Nat) (x : Nat → Int) (w : World) (h : BookAt N w v B) (hu : IntsAt N w u n x) :
    Calls Try.prog 18 #[v, u] w (GivesIE w.heap.size w (eWalk B n x).1 (eWalk B n x).2) := by
  obtain ⟨au, cu, rfl, _, _⟩ := id hu
  have hN := h.1
  have h' := h
  obtain ⟨_, a1, z1, a2, z2, a3, z3, rfl, _⟩ := h'
  obtain ⟨ws, hws, HB, hsz, hblk⟩ := box1 w (.cells #[.slice a1 B.nv z1, .slice a2 B.ns z2, .slice a3 B.D.n z3] 26)
  have q0 := cell_blk hblk 0 rfl
  have q1 := cell_blk hblk 1 rfl
  have q2 := cell_blk hblk 2 rfl
  have HBK := Lib.hid (h.go HB.out)
  have HB0 : Hid (Below ws.heap.size ws ws) := Below.refl _ _
  have HNS : Hid (N ≤ ws.heap.size) := HBK.out.1
  have hlens := h.lens
  obtain ⟨hlv, hls, hln⟩ := hlens
  clear hblk h
  have HX := Lib.hid (hu.go hN HB.out)
  clear hu
  cases hv : okKB B with
  | false =>
    have HA : Hid (chkX B n x = 20) := by unfold Hid chkX; rw [hv]; rfl
    have HE : Hid (eWalk B n x = ([], 20)) := by unfold Hid eWalk; rw [hv]; rfl
    clear hv
    go_enter Try.func18, Try.ntmps18
    go_wp2_with (go_at_call 68; refine (checkFruit_any N _ _ B n x _ (HBK.out.go HB0.out) HX.out).mono ?_; rintro e w1 ⟨rfl, hb1⟩; rw [HA.out]; (try clear c0); have HB1 := Lib.hid (bel HB0.out hb1); have c1 := (old_of HB1.out).1; clear hb1)
    go_ret2
    exact ⟨.slice none 0 0, by rw [HE.out]; rfl, by rw [HE.out]; exact own_nil _ _, fin HB.out HB1.out⟩
  | true =>
    have HG := Lib.hid (goodB hv)
    cases hx : okX B.nv B.V n x with
    | false =>
      have HA : Hid (chkX B n x = 1) := by unfold Hid chkX; rw [hv, hx]; rfl
      have HE : Hid (eWalk B n x = ([], 1)) := by unfold Hid eWalk; rw [hv, hx]; rfl
      clear hv hx
      go_enter Try.func18, Try.ntmps18
      go_wp2_with (go_at_call 68; refine (checkFruit_any N _ _ B n x _ (HBK.out.go HB0.out) HX.out).mono ?_; rintro e w1 ⟨rfl, hb1⟩; rw [HA.out]; (try clear c0); have HB1 := Lib.hid (bel HB0.out hb1); have c1 := (old_of HB1.out).1; clear hb1)
      go_ret2
      exact ⟨.slice none 0 0, by rw [HE.out]; rfl, by rw [HE.out]; exact own_nil _ _, fin HB.out HB1.out⟩
    | true =>
      have HA : Hid (chkX B n x = 0) := by unfold Hid chkX; rw [hv, hx]; rfl
      have HE : Hid (eWalk B n x = (ints (walk B.D x), 0)) := by unfold Hid eWalk; rw [hv, hx]; rfl
      have HGX := Lib.hid (goodX hx)
      have hk1000 : B.D.n ≤ 1000 := by have := HG.out.nn; omega
      have HCC : Hid (∀ (wk : World) (p q : Nat), p < wk.heap.size → q < wk.heap.size → wk.heap[p]? = some (.cells #[.slice a1 B.nv z1, .slice a2 B.ns z2, .slice a3 B.D.n z3] 26) → wk.heap[q]? = some (.cells #[.slice au n cu] 22) → Hid (Below ws.heap.size ws wk) →
          Calls Try.prog 69 #[.func (.func 107) #[] #[.pointer (some ⟨p, 0, none⟩), .pointer (some ⟨q, 0, none⟩)]] wk (GivesI wk.heap.size wk (ints (walk B.D x)))) := fun wk p q hp hq h1 h2 HB2 =>
        collect_walk p q N B.D B.nv B.V B.ns n x wk (.bool true) (.bool true) _ _ _ _ (cell_blk h1 2 rfl) (cell_blk h2 0 rfl) (HBK.out.go HB2.out).nodes ((HX.out.go HNS.out HB2.out).mono (Below.refl _ _) (Nat.le_trans HNS.out HB2.out.size)) (Nat.le_trans HNS.out HB2.out.size) hp hq HG.out.D HGX.out hk1000
      clear hv hx
      go_enter Try.func18, Try.ntmps18
      go_wp2_with (first
        | (go_at_call 68; refine (checkFruit_any N _ _ B n x _ (HBK.out.go HB0.out) HX.out).mono ?_; rintro e w1 ⟨rfl, hb1⟩; rw [HA.out]; (try clear c0); have HB1 := Lib.hid (bel HB0.out hb1); have c1 := (old_of HB1.out).1; clear hb1)
        | (go_at_call 70; refine (kwalk_any _ _ _ _ _ _ _).mono ?_; rintro e w' ⟨rfl, hw2⟩; rw [hw2]; clear hw2 w'; obtain ⟨wk, hwk, HBk, hszk, hszk1, hblk1, hblk2⟩ := box2 w1 (.cells #[.slice a1 B.nv z1, .slice a2 B.ns z2, .slice a3 B.D.n z3] 26) (.cells #[.slice au n cu] 22); rw [hwk]; have HB2 := Lib.hid (bel HB1.out HBk.out))
        | (go_at_call 69; refine (HCC.out _ _ _ hszk hszk1 hblk1 hblk2 HB2).mono ?_; rintro e w3 ⟨v3, rfl, ho, hb3⟩; have HO := Lib.hid ho; clear ho; (try clear c2); have HB3 := Lib.hid (bel HB2.out hb3); have c3 := (old_of HB3.out).1; clear hb3))
      go_ret2
      exact ⟨v3, by rw [HE.out]; rfl, by rw [HE.out]; exact own_mono HO.out (Nat.le_trans HB.out.size HB2.out.size), fin HB.out HB3.out⟩

set_option maxHeartbeats 1600000 in
theorem kEnd_any (N : Nat) (v u : Value) (B : KB) (n : Nat) (x : Nat → Int) (w : World) (h : BookAt N w v B) (hu : IntsAt N w u n x) :
    Calls Try.prog 19 #[v, u] w fun e w' => e = .returned (.tuple #[.int .i64 (eEnd B n x).1, .int .i64 (eEnd B n x).2]) ∧ Below w.heap.size w w' := by
  obtain ⟨au, cu, rfl, _, _⟩ := id hu
  have hN := h.1
  have h' := h
  obtain ⟨_, a1, z1, a2, z2, a3, z3, rfl, _⟩ := h'
  obtain ⟨ws, hws, HB, hsz, hblk⟩ := box1 w (.cells #[.slice a1 B.nv z1, .slice a2 B.ns z2, .slice a3 B.D.n z3] 26)
  have q0 := cell_blk hblk 0 rfl
  have q1 := cell_blk hblk 1 rfl
  have q2 := cell_blk hblk 2 rfl
  have HBK := Lib.hid (h.go HB.out)
  have HB0 : Hid (Below ws.heap.size ws ws) := Below.refl _ _
  have HNS : Hid (N ≤ ws.heap.size) := HBK.out.1
  have hlens := h.lens
  obtain ⟨hlv, hls, hln⟩ := hlens
  clear hblk h
  have HX := Lib.hid (hu.go hN HB.out)
  clear hu
  cases hv : okKB B with
  | false =>
    have HA : Hid (chkX B n x = 20) := by unfold Hid chkX; rw [hv]; rfl
    have HE : Hid (eEnd B n x = (0, 20)) := by unfold Hid eEnd; rw [hv]; rfl
    clear hv
    go_enter Try.func19, Try.ntmps19
    go_wp2_with (go_at_call 68; refine (checkFruit_any N _ _ B n x _ (HBK.out.go HB0.out) HX.out).mono ?_; rintro e w1 ⟨rfl, hb1⟩; rw [HA.out]; (try clear c0); have HB1 := Lib.hid (bel HB0.out hb1); have c1 := (old_of HB1.out).1; clear hb1)
    go_ret2
    exact ⟨by rw [HE.out]; rfl, fin HB.out HB1.out⟩
  | true =>
    have HG := Lib.hid (goodB hv)
    cases hx : okX B.nv B.V n x with
    | false =>
      have HA : Hid (chkX B n x = 1) := by unfold Hid chkX; rw [hv, hx]; rfl
      have HE : Hid (eEnd B n x = (0, 1)) := by unfold Hid eEnd; rw [hv, hx]; rfl
      clear hv hx
      go_enter Try.func19, Try.ntmps19
      go_wp2_with (go_at_call 68; refine (checkFruit_any N _ _ B n x _ (HBK.out.go HB0.out) HX.out).mono ?_; rintro e w1 ⟨rfl, hb1⟩; rw [HA.out]; (try clear c0); have HB1 := Lib.hid (bel HB0.out hb1); have c1 := (old_of HB1.out).1; clear hb1)
      go_ret2
      exact ⟨by rw [HE.out]; rfl, fin HB.out HB1.out⟩
    | true =>
      have HA : Hid (chkX B n x = 0) := by unfold Hid chkX; rw [hv, hx]; rfl
      have HE : Hid (eEnd B n x = (endOf B.D x, 0)) := by unfold Hid eEnd; rw [hv, hx]; rfl
      have HGX := Lib.hid (goodX hx)
      clear hv hx
      go_enter Try.func19, Try.ntmps19
      go_wp2_with (first
        | (go_at_call 68; refine (checkFruit_any N _ _ B n x _ (HBK.out.go HB0.out) HX.out).mono ?_; rintro e w1 ⟨rfl, hb1⟩; rw [HA.out]; (try clear c0); have HB1 := Lib.hid (bel HB0.out hb1); have c1 := (old_of HB1.out).1; clear hb1)
        | (go_at_call 71; refine (kend_any N _ _ B n x _ (HBK.out.go HB1.out) ((HX.out.go HNS.out HB1.out).mono (Below.refl _ _) (Nat.le_trans HNS.out HB1.out.size)) HG.out HGX.out).mono ?_; rintro e w2 ⟨rfl, hb2⟩; (try clear c1); have HB2 := Lib.hid (bel HB1.out hb2); have c2 := (old_of HB2.out).1; clear hb2))
      go_ret2
      exact ⟨by rw [HE.out]; rfl, fin HB.out HB2.out⟩

end Go.Proofs.Ytbieglmpkljjjaa

namespace Go.Proofs.Ytbieglmpkljjjaa
open Go.RowKit

def rightP (B : KB) (i : Nat) : Bool := decide (endOf B.D (B.X i) = (i : Int))
def eRight (B : KB) : List Int × Int := if okKB B then (sel (rightP B) B.ns, 0) else ([], 20)

set_option maxHeartbeats 3200000 in
theorem kRight_any (N : Nat) (v : Value) (B : KB) (w : World) (h : BookAt N w v B) :
    Calls Try.prog 22 #[v] w (GivesIE w.heap.size w (eRight B).1 (eRight B).2) := by
  obtain ⟨i0, hi, hz0, hz1, hz2⟩ := info_parts Try.infoInt
  have h' := h
  obtain ⟨_, a1, z1, a2, z2, a3, z3, rfl, _⟩ := h'
  obtain ⟨ws, hws, HB, hsz, hblk⟩ := box1 w (.cells #[.slice a1 B.nv z1, .slice a2 B.ns z2, .slice a3 B.D.n z3] 26)
  have q0 := cell_blk hblk 0 rfl
  have q1 := cell_blk hblk 1 rfl
  have q2 := cell_blk hblk 2 rfl
  have HBK := Lib.hid (h.go HB.out)
  have HB0 : Hid (Below ws.heap.size ws ws) := Below.refl _ _
  have HNS : Hid (N ≤ ws.heap.size) := HBK.out.1
  have hlens := h.lens
  obtain ⟨hlv, hls, hln⟩ := hlens
  clear hblk h
  cases hv : okKB B with
  | false =>
    have HA : Hid (chk B = 20) := chk_no hv
    have HE : Hid (eRight B = ([], 20)) := by unfold Hid eRight; rw [hv]; rfl
    clear hv
    go_enter Try.func22, Try.ntmps22
    go_wp2_with (go_at_call 46; refine (kCheck_any N _ B _ (HBK.out.go HB0.out)).mono ?_; rintro e w1 ⟨rfl, hb1⟩; rw [HA.out]; (try clear c0); have HB1 := Lib.hid (bel HB0.out hb1); have c1 := (old_of HB1.out).1; clear hb1)
    go_ret2
    exact ⟨.slice none 0 0, by rw [HE.out]; rfl, by rw [HE.out]; exact own_nil _ _, fin HB.out HB1.out⟩
  | true =>
    have HA : Hid (chk B = 0) := chk_yes hv
    have HE : Hid (eRight B = (sel (rightP B) B.ns, 0)) := by unfold Hid eRight; rw [hv]; rfl
    have HG := Lib.hid (goodB hv)
    have hns8 := (goodB hv).ns
    clear hv
    go_enter Try.func22, Try.ntmps22
    go_wp2_with (go_at_call 46; refine (kCheck_any N _ B _ (HBK.out.go HB0.out)).mono ?_; rintro e w1 ⟨rfl, hb1⟩; rw [HA.out]; (try clear c0); have HB1 := Lib.hid (bel HB0.out hb1); have c1 := (old_of HB1.out).1; clear hb1)
    clear hws
    go_loopw [5, 16] (fun t i wr => ∃ k : Nat, k ≤ B.ns ∧ i = .int .i64 k ∧ Hid (OwnI ws.heap.size wr t (sel (rightP B) k)) ∧ Hid (Below ws.heap.size ws wr)) (fun _ i _ => B.ns - (intOf i).toNat)
    case atStart => exact ⟨0, Nat.zero_le _, rfl, own_nil _ _, HB1⟩
    case round =>
      clear c1
      obtain ⟨k, hk, rfl, ho, HB2⟩ := hrel
      have c2 := (old_of HB2.out).1
      have hsz2 := Nat.lt_of_lt_of_le hsz HB2.out.size
      by_cases hkn : k < B.ns
      · obtain ⟨b, off, rfl, hbN, hr⟩ := (HBK.out.go HB2.out).sorts.cells (by omega)
        obtain ⟨ai, ci, hcell, hints⟩ := hr k hkn
        have HI : Hid (IntsAt wr.heap.size wr (.slice ai (B.L k) ci) (B.L k) (B.X k)) := hints.mono (Below.refl _ _) (HBK.out.go HB2.out).1
        have HXK := Lib.hid (HG.out.X k hkn)
        have hsl := sel_len (rightP B) k
        clear hr hints
        cases hp : rightP B k with
        | true =>
          have HP : Hid (sel (rightP B) (k + 1) = sel (rightP B) k ++ [(k : Int)]) := sel_hit hp
          have hpe : (endOf B.D (B.X k) == (k : Int)) = true := hp
          clear hp
          generalize sel (rightP B) k = l at *
          go_wp2_with (first
            | (go_at_call 71; refine (kend_any N _ _ B _ _ _ (HBK.out.go HB2.out) HI.out HG.out HXK.out).mono ?_; rintro e w3 ⟨rfl, hb3⟩; have hown3 := own_below ho.out hb3; (try clear c2); have HB3 := Lib.hid (bel HB2.out hb3); have c3 := (old_of HB3.out).1; clear hb3; have hs3 := HB3.out.size)
            | (at_builtin; refine wpList_append_own _ rfl _ _ 22 rfl ws.heap.size 3 i0 (.int .i64 0) 1 8 Try.underlying22 hi hz0 hz1 hz2 rfl (by decide) _ _ _ rfl (hown3.alloc _) ⟨w3.heap.size, 0, none⟩ 1 1 [.int .i64 k] rfl rfl (cell_one_new _ _ _) (by simp [Value.oneCell']) (by unfold maxLen; omega) (by omega) (by simp; omega) ?_; intro v' w4 hown4 hgrow _))
          go_roundw
          case rel => exact ⟨k + 1, by omega, by go_num, by rw [HP.out]; unfold Hid OwnI; rw [List.length_append, List.map_append]; exact hown4, (HB3.out.alloc hs3 _).grown hgrow (by simp; omega) (fun j e => (hown3.lt j e).1)⟩
          case measure => simp [intOf]; omega
        | false =>
          have HP : Hid (sel (rightP B) (k + 1) = sel (rightP B) k) := sel_miss hp
          have hpe : (endOf B.D (B.X k) == (k : Int)) = false := hp
          clear hp
          generalize sel (rightP B) k = l at *
          go_wp2_with (go_at_call 71; refine (kend_any N _ _ B _ _ _ (HBK.out.go HB2.out) HI.out HG.out HXK.out).mono ?_; rintro e w3 ⟨rfl, hb3⟩; have HO3 := Lib.hid (own_below ho.out hb3); (try clear c2); have HB3 := Lib.hid (bel HB2.out hb3); have c3 := (old_of HB3.out).1; clear hb3)
          go_roundw
          case rel => exact ⟨k + 1, by omega, by go_num, by rw [HP.out]; exact HO3.out, HB3⟩
          case measure => simp [intOf]; omega
      · have Hk : Hid (sel (rightP B) k = sel (rightP B) B.ns) := by unfold Hid; rw [show k = B.ns by omega]
        go_wp2
        go_ret2
        refine ⟨_, ?_, (show OwnI _ _ _ (eRight B).1 by rw [HE.out, ← Hk.out]; exact own_mono ho.out HB.out.size), fin HB.out HB2.out⟩
        rw [HE.out]; rfl

set_option maxHeartbeats 3200000 in
theorem rRight_any (N : Nat) (v : Value) (B : KB) (w : World) (h : BookAt N w v B) :
    Calls Try.prog 52 #[v] w (GivesIE w.heap.size w (eRight B).1 (eRight B).2) := by
  obtain ⟨i0, hi, hz0, hz1, hz2⟩ := info_parts Try.infoInt
  have h' := h
  obtain ⟨_, a1, z1, a2, z2, a3, z3, rfl, _⟩ := h'
  obtain ⟨ws, hws, HB, hsz, hblk⟩ := box1 w (.cells #[.slice a1 B.nv z1, .slice a2 B.ns z2, .slice a3 B.D.n z3] 26)
  have q0 := cell_blk hblk 0 rfl
  have q1 := cell_blk hblk 1 rfl
  have q2 := cell_blk hblk 2 rfl
  have HBK := Lib.hid (h.go HB.out)
  have HB0 : Hid (Below ws.heap.size ws ws) := Below.refl _ _
  have HNS : Hid (N ≤ ws.heap.size) := HBK.out.1
  have hlens := h.lens
  obtain ⟨hlv, hls, hln⟩ := hlens
  clear hblk h
  cases hv : okKB B with
  | false =>
    have HA : Hid (chk B = 20) := chk_no hv
    have HE : Hid (eRight B = ([], 20)) := by unfold Hid eRight; rw [hv]; rfl
    clear hv
    go_enter Try.func52, Try.ntmps52
    go_wp2_with (go_at_call 47; refine (rCheck_any N _ B _ (HBK.out.go HB0.out)).mono ?_; rintro e w1 ⟨rfl, hb1⟩; rw [HA.out]; (try clear c0); have HB1 := Lib.hid (bel HB0.out hb1); have c1 := (old_of HB1.out).1; clear hb1)
    go_ret2
    exact ⟨.slice none 0 0, by rw [HE.out]; rfl, by rw [HE.out]; exact own_nil _ _, fin HB.out HB1.out⟩
  | true =>
    have HA : Hid (chk B = 0) := chk_yes hv
    have HE : Hid (eRight B = (sel (rightP B) B.ns, 0)) := by unfold Hid eRight; rw [hv]; rfl
    have HG := Lib.hid (goodB hv)
    have hns8 := (goodB hv).ns
    have HNN : Hid (B.D.n ≤ 1000) := by have := (goodB hv).nn; unfold Hid; omega
    have HND := Lib.hid HBK.out.nodes
    clear hv
    go_enter Try.func52, Try.ntmps52
    go_wp2_with (go_at_call 47; refine (rCheck_any N _ B _ (HBK.out.go HB0.out)).mono ?_; rintro e w1 ⟨rfl, hb1⟩; rw [HA.out]; (try clear c0); have HB1 := Lib.hid (bel HB0.out hb1); have c1 := (old_of HB1.out).1; clear hb1)
    clear hws
    go_loopw [5, 6] (fun t i wr => ∃ k : Nat, k ≤ B.ns ∧ i = .int .i64 k ∧ Hid (OwnI ws.heap.size wr t (sel (rightP B) k)) ∧ Hid (Below ws.heap.size ws wr)) (fun _ i _ => B.ns - (intOf i).toNat)
    case atStart => exact ⟨0, Nat.zero_le _, rfl, own_nil _ _, HB1⟩
    case round =>
      clear c1
      obtain ⟨k, hk, rfl, ho, HB2⟩ := hrel
      have c2 := (old_of HB2.out).1
      have hsz2 := Nat.lt_of_lt_of_le hsz HB2.out.size
      have HBr : Hid (Below wr.heap.size wr wr) := Below.refl _ _
      by_cases hkn : k < B.ns
      · obtain ⟨b, off, rfl, hbN, hr⟩ := (HBK.out.go HB2.out).sorts.cells (by omega)
        obtain ⟨ai, ci, hcell, hints⟩ := hr k hkn
        have HI := Lib.hid hints
        have HXK := Lib.hid (HG.out.X k hkn)
        have HN2 : Hid (N ≤ wr.heap.size) := (HBK.out.go HB2.out).1
        have HND2 := Lib.hid (HND.out.go HNS.out HB2.out)
        have hbw : b < wr.heap.size := Nat.lt_of_lt_of_le hbN HN2.out
        have hsl := sel_len (rightP B) k
        have Srd := old_of HBr.out.drew; have HBrd := Srd.2
        clear hr hints
        cases hp : rightP B k with
        | true =>
          have HP : Hid (sel (rightP B) (k + 1) = sel (rightP B) k ++ [(k : Int)]) := sel_hit hp
          have hpe : (endOf B.D (B.X k) == (k : Int)) = true := hp
          clear hp
          generalize sel (rightP B) k = l at *
          go_wp2
          go_region_held3 (fun w' => (∀ b o, b < wr.heap.size → w'.cell? ⟨b, o, none⟩ = wr.cell? ⟨b, o, none⟩) ∧ Hid (Below wr.heap.size wr w')) (assumption) (first
            | (go_at_call 25; refine (endOf_any N _ _ B.D B.nv B.V B.ns _ _ _ (HND2.out.go HN2.out HBrd.out) (HI.out.go HN2.out HBrd.out) (Nat.le_trans HN2.out HBrd.out.size) HG.out.D HXK.out HNN.out).mono ?_; rintro e w3 ⟨rfl, hb3⟩; have S3 := old_of (bel HBrd.out hb3); have HB3 := S3.2; clear hb3))
          have HB3 := S3.2
          have HB4 := Lib.hid (bel HB2.out HB3.out)
          have hown3 := own_below ho.out HB3.out
          have hs3 := HB4.out.size
          clear S3 Srd c2
          have c4 := (old_of HB4.out).1
          go_wp2_with (at_builtin; refine wpList_append_own _ rfl _ _ 22 rfl ws.heap.size 3 i0 (.int .i64 0) 1 8 Try.underlying22 hi hz0 hz1 hz2 rfl (by decide) _ _ _ rfl (hown3.alloc _) ⟨w3.heap.size, 0, none⟩ 1 1 [.int .i64 k] rfl rfl (cell_one_new _ _ _) (by simp [Value.oneCell']) (by unfold maxLen; omega) (by omega) (by simp; omega) ?_; intro v' w4 hown4 hgrow _)
          go_roundw
          case rel => exact ⟨k + 1, by omega, by go_num, by rw [HP.out]; unfold Hid OwnI; rw [List.length_append, List.map_append]; exact hown4, (HB4.out.alloc hs3 _).grown hgrow (by simp; omega) (fun j e => (hown3.lt j e).1)⟩
          case measure => simp [intOf]; omega
        | false =>
          have HP : Hid (sel (rightP B) (k + 1) = sel (rightP B) k) := sel_miss hp
          have hpe : (endOf B.D (B.X k) == (k : Int)) = false := hp
          clear hp
          generalize sel (rightP B) k = l at *
          go_wp2
          go_region_held3 (fun w' => (∀ b o, b < wr.heap.size → w'.cell? ⟨b, o, none⟩ = wr.cell? ⟨b, o, none⟩) ∧ Hid (Below wr.heap.size wr w')) (assumption) (first
            | (go_at_call 25; refine (endOf_any N _ _ B.D B.nv B.V B.ns _ _ _ (HND2.out.go HN2.out HBrd.out) (HI.out.go HN2.out HBrd.out) (Nat.le_trans HN2.out HBrd.out.size) HG.out.D HXK.out HNN.out).mono ?_; rintro e w3 ⟨rfl, hb3⟩; have S3 := old_of (bel HBrd.out hb3); have HB3 := S3.2; clear hb3))
          have HB3 := S3.2
          have HB4 := Lib.hid (bel HB2.out HB3.out)
          have HO3 := Lib.hid (own_below ho.out HB3.out)
          clear S3 Srd c2
          have c4 := (old_of HB4.out).1
          go_wp2
          go_roundw
          case rel => exact ⟨k + 1, by omega, by go_num, by rw [HP.out]; exact HO3.out, HB4⟩
          case measure => simp [intOf]; omega
      · have Hk : Hid (sel (rightP B) k = sel (rightP B) B.ns) := by unfold Hid; rw [show k = B.ns by omega]
        go_wp2
        go_ret2
        refine ⟨_, ?_, (show OwnI _ _ _ (eRight B).1 by rw [HE.out, ← Hk.out]; exact own_mono ho.out HB.out.size), fin HB.out HB2.out⟩
        rw [HE.out]; rfl

end Go.Proofs.Ytbieglmpkljjjaa
