/-
  JIter: a loop over a method of a value, whose body ends it at once.
  JKZ: open, isOpen of a jury.
  JIsO: isOpen of a jury.
-/
import Derived.Test.YtffnlimgjnhmpaaJKQ
import Derived.Test.YtffnlimgjnhmpaaJLink
import Derived.RangeFuncNested
import Derived.RangeFuncLeaves
import Derived.RangeFuncBound
import Derived.RangeFuncCalls
import Derived.Shelf.Abstract
import Derived.Shelf.RegionOpen
import Derived.OwnWalkIn
import Derived.TacticsInMore
import Derived.LoopNIn
import Derived.LoopIn
import Derived.Sort.QuietTacIn
import Derived.Sort.CutIn
namespace Go.Proofs.Ytffnlimgjnhmpaa
open Go.RowKit

/-- what an iterator does that is told to stop at once -/
def SeqS {α : Type} (F : Fence) (n : Nat) (P : Program) (g : Nat) (lb : Array Value) (encs : α → Array Value) (Ab : World → World → World → Prop) (G : α → World → Prop) (Sd Sp : Prop) (w : World) : Prop :=
  ∀ (l : Nat) (J Jx : List α → World → Prop) (W : World), Below w.heap.size w W → (∀ s A B, J s A → Ab W A B → J s B) → (∀ s A B, Jx s A → Ab W A B → Jx s B) →
    (∀ x W1, J [] W1 → G x W1 → YieldAt F (n - 1) P l (encs x) W1 fun e W' => e = .returned (.bool false) ∧ Jx [x] W') →
    J [] W →
    CallsIn F n P g (lb ++ #[.func (.yield l) #[] #[]]) W fun e W' => (∃ v, e = .returned v) ∧ ((Sd ∧ J [] W') ∨ (Sp ∧ ∃ x, Jx [x] W'))

/-- how a round's body may end -/
def endsL {α : Type} (B : Nat) (Kp : World → World → Prop) (I : List α → World → Prop) (Ix : Code → List α → World → Prop) (xs : List α) (W : World) : Exit → Act → World → Prop
  | .normal, _, W' => KeepsFrom B W W' ∧ Kp W W' ∧ I xs W'
  | .ret, _, W' => KeepsFrom B W W' ∧ Ix .ret xs W'
  | .exit id, _, W' => KeepsFrom B W W' ∧ Ix (.exit id) xs W'
  | .goto t, _, W' => KeepsFrom B W W' ∧ Ix (.goto t) xs W'
  | .panic _, _, _ => False
  | .outgrown, _, _ => False

/-- a fact that stands when a record at or beyond B turns -/
def Rec (B : Nat) (p : World → Prop) : Prop := ∀ (A : World) (l : Nat) (o o' : Obj), p A → B ≤ l → A.heap[l]? = some o → o.isCells = false → p (A.putObj l o')

section
variable {α : Type} {F : Fence} {n : Nat} {P : Program} {w : World}

/-- one round, seen from the iterator -/
theorem round_of {a : Act} {fn : Nat} {ps : Array Tmp} {assign body : Code} {dfr l : Nat} (hfn : F.fn fn) (hl0 : w.heap.size ≤ l)
    {encs : α → Array Value} {Kp : World → World → Prop} {G : α → World → Prop} {Np : List α → Prop} {m : Nat} (hKt : ∀ {A B C : World}, Kp A B → Kp B C → Kp A C)
    (hKb : ∀ (W : World) (l : Nat) (o o' : Obj), w.heap.size ≤ l → W.heap[l]? = some o → o.isCells = false → Kp W (W.putObj l o')) (hps : ∀ x, (encs x).size = ps.size)
    (Bk : World → Prop) (hBk : ∀ W W', Bk W → KeepsFrom w.heap.size W W' → Bk W') (hBp : ∀ W o', Bk W → Bk (W.putObj l o'))
    (I : List α → World → Prop) (Ix : Code → List α → World → Prop) (hI : ∀ s, Rec w.heap.size (I s)) (hIx : ∀ c s, Rec w.heap.size (Ix c s)) (hG : ∀ x, Rec w.heap.size (G x)) (Ax : α → Act → World → Prop) (hAx : ∀ x a', Rec w.heap.size (Ax x a'))
    (hassign : ∀ (pre : List α) (x : α) (W : World) (K : Act → World → Prop), I pre W → G x W → (∀ a' W', KeepsFrom w.heap.size W W' → Kp W W' → I pre W' → G x W' → Ax x a' W' → K a' W') →
      assign.wpIn (F.inRound l) m P (Exit.then K (fun _ _ _ => False)) { tmps := (ps.zip (encs x)).foldl (fun t (p, v) => t.setIfInBounds p v) a.tmps, defers := [] } W)
    (hbody : ∀ (pre : List α) (x : α) (a' : Act) (W : World), (∃ r, W.heap[l]? = some (.loop r)) → I pre W → G x W → Ax x a' W → Np pre → body.wpIn (F.inRound l) m P (endsL w.heap.size Kp I Ix (pre ++ [x]) W) a' W)
    (pre : List α) (x : α) (W1 : World) (hi : I pre W1) (hbk : Bk W1) (hrec : W1.heap[l]? = some (.loop { state := .ready, pending := none, fn := fn, tmps := a.tmps, params := ps, assign := assign, body := body, defers := dfr })) (hg : G x W1) (hlen : Np pre) :
    YieldAt F m P l (encs x) W1 fun e W' =>
      (e = .returned (.bool true) ∧ (I (pre ++ [x]) W' ∧ Bk W' ∧ W'.heap[l]? = some (.loop { state := .ready, pending := none, fn := fn, tmps := a.tmps, params := ps, assign := assign, body := body, defers := dfr })) ∧ Kp W1 W') ∨
      (e = .returned (.bool false) ∧ ∃ c, Ix c (pre ++ [x]) W' ∧ Bk W' ∧ W'.heap[l]? = some (.loop { state := .done, pending := some c, fn := fn, tmps := a.tmps, params := ps, assign := assign, body := body, defers := dfr })) := by
  obtain ⟨R, hR⟩ : ∃ R : LoopState → Option Code → Loop, R = fun st pe => { state := st, pending := pe, fn := fn, tmps := a.tmps, params := ps, assign := assign, body := body, defers := dfr } := ⟨_, rfl⟩
  have hl : W1.heap[l]? = some (.loop (R .ready none)) := by rw [hR]; exact hrec
  have goal1 : ∀ st pe, ({ state := st, pending := pe, fn := fn, tmps := a.tmps, params := ps, assign := assign, body := body, defers := dfr } : Loop) = R st pe := fun st pe => by rw [hR]
  simp only [goal1]
  have hy := run_yield (P := P) (args := encs x) hl (by rw [hR]; exact hps x)
  rw [hR] at hy
  refine ⟨fn, _, assign, body, hy, roundIn_of_wpIn hfn (hassign pre x W1 _ hi hg ?_)⟩
  intro a' Wa hka hkpa hia hga haxa
  replace hl := hka.same l _ hl0 hl rfl
  replace hbk := hBk _ _ hbk hka
  have hlt := (Array.getElem?_eq_some_iff.1 hl).1
  refine ⟨_, run_beginRound hl (by rw [hR]), ?_⟩
  have hbusy : (Wa.putObj l (.loop { R .ready none with state := .busy })).heap[l]? = some (.loop { R .ready none with state := .busy }) := World.putObj_heap_same hlt
  have hk0 : Kp W1 (Wa.putObj l (.loop { R .ready none with state := .busy })) := hKt hkpa (hKb _ _ _ _ hl0 hl rfl)
  refine wpIn_mono (hbody pre x a' _ ⟨_, hbusy⟩ (hI _ _ _ _ _ hia hl0 hl rfl) (hG _ _ _ _ _ hga hl0 hl rfl) (hAx _ _ _ _ _ _ haxa hl0 hl rfl) hlen) ?_
  have hbk1 := hBp Wa (.loop { R .ready none with state := .busy }) hbk
  generalize Wa.putObj l (.loop { R .ready none with state := .busy }) = Wb at hbusy hk0 hbk1 ⊢
  have last : ∀ (j : Option Code) (W3 : World), KeepsFrom w.heap.size Wb W3 →
      (Instr.endRound l j).run P W3 = .ok (.bool j.isNone) (W3.putObj l (.loop (R (if j.isNone then .ready else .done) j))) ∧ W3.heap[l]? = some (.loop { R .ready none with state := .busy }) ∧
      (W3.putObj l (.loop (R (if j.isNone then .ready else .done) j))).heap[l]? = some (.loop (R (if j.isNone then .ready else .done) j)) := fun j W3 hk => by
    have h3 := hk.same l _ hl0 hbusy rfl
    have he := run_endRound (P := P) j h3
    refine ⟨?_, h3, World.putObj_heap_same (Array.getElem?_eq_some_iff.1 h3).1⟩
    rw [hR] at he ⊢; exact he
  intro e a3 W3 hp
  cases e with
  | normal =>
    obtain ⟨hk, hkp, hi3⟩ := hp
    obtain ⟨h1, h2, h3⟩ := last none W3 hk
    exact ⟨_, _, h1, .inl ⟨rfl, ⟨hI _ _ _ _ _ hi3 hl0 h2 rfl, hBp _ _ (hBk _ _ hbk1 hk), h3⟩, hKt (hKt hk0 hkp) (hKb _ _ _ _ hl0 h2 rfl)⟩⟩
  | ret =>
    obtain ⟨hk, hi3⟩ := hp
    obtain ⟨h1, h2, h3⟩ := last (some .ret) W3 hk
    exact ⟨_, _, h1, .inr ⟨rfl, .ret, hIx _ _ _ _ _ _ hi3 hl0 h2 rfl, hBp _ _ (hBk _ _ hbk1 hk), h3⟩⟩
  | exit id =>
    obtain ⟨hk, hi3⟩ := hp
    obtain ⟨h1, h2, h3⟩ := last (some (.exit id)) W3 hk
    exact ⟨_, _, h1, .inr ⟨rfl, .exit id, hIx _ _ _ _ _ _ hi3 hl0 h2 rfl, hBp _ _ (hBk _ _ hbk1 hk), h3⟩⟩
  | goto t =>
    obtain ⟨hk, hi3⟩ := hp
    obtain ⟨h1, h2, h3⟩ := last (some (.goto t)) W3 hk
    exact ⟨_, _, h1, .inr ⟨rfl, .goto t, hIx _ _ _ _ _ _ hi3 hl0 h2 rfl, hBp _ _ (hBk _ _ hbk1 hk), h3⟩⟩
  | panic ch => exact hp.elim
  | outgrown => exact hp.elim

/-- the loop, where it stands in no other one -/
theorem rangeS {g : Operand} {ps : Array Tmp} {assign body : Code} {Q : Exit → Act → World → Prop} {a : Act}
    (hro : F.round = none) (h1 : 1 ≤ n) {gf : Nat} {lb : Array Value} (hg : a.eval g = .func (.func gf) lb #[]) (hFg : F.fn gf) (eg : ∀ args w, (callFunc gf args).run P w = .ok (.enter gf args) w)
    {encs : α → Array Value} {Kp : World → World → Prop} {Ab : World → World → World → Prop} {G : α → World → Prop} {Sd Sp : Prop} {w0 : World} (hseq : SeqS F (n - 1) P gf lb encs Ab G Sd Sp w0)
    (hKt : ∀ {A B C : World}, Kp A B → Kp B C → Kp A C) (hKb : ∀ (W : World) (l : Nat) (o o' : Obj), w.heap.size ≤ l → W.heap[l]? = some o → o.isCells = false → Kp W (W.putObj l o')) (hb0 : Below w0.heap.size w0 w) (hps : ∀ x, (encs x).size = ps.size)
    (hAb : ∀ W A B (k : Nat) (o : Obj), Ab W A B → k < W.heap.size → A.heap[k]? = some o → o.isCells = false → B.heap[k]? = some o)
    (I : List α → World → Prop) (Ix : Code → List α → World → Prop) (hI : ∀ s, Rec w.heap.size (I s)) (hIx : ∀ c s, Rec w.heap.size (Ix c s)) (hG : ∀ x, Rec w.heap.size (G x))
    (hIA : ∀ W s A B, w.heap.size ≤ W.heap.size → I s A → Ab W A B → I s B) (hIxA : ∀ W c s A B, w.heap.size ≤ W.heap.size → Ix c s A → Ab W A B → Ix c s B) (hIa : ∀ s A o, I s A → I s (A.alloc o)) (h0 : I [] w) (hI1 : ∀ s A, I s A → s = []) (Ax : α → Act → World → Prop) (hAx : ∀ x a', Rec w.heap.size (Ax x a'))
    (hassign : ∀ (l : Nat) (pre : List α) (x : α) (W : World) (K : Act → World → Prop), I pre W → G x W → (∀ a' W', KeepsFrom w.heap.size W W' → Kp W W' → I pre W' → G x W' → Ax x a' W' → K a' W') →
      assign.wpIn (F.inRound l) (n - 1 - 1) P (Exit.then K (fun _ _ _ => False)) { tmps := (ps.zip (encs x)).foldl (fun t (p, v) => t.setIfInBounds p v) a.tmps, defers := [] } W)
    (hbody : ∀ (l : Nat) (pre : List α) (x : α) (a' : Act) (W : World), w.heap.size ≤ l → (∃ r, W.heap[l]? = some (.loop r)) → I pre W → G x W → Ax x a' W → body.wpIn (F.inRound l) (n - 1 - 1) P (endsL w.heap.size Kp I Ix (pre ++ [x]) W) a' W)
    (hdone : ∀ (D : Nat) (W : World), w.heap.size ≤ D → Sd → I [] W → W.heap[D]? = some (.deferred (some [])) → Q .normal { a with defers := { target := .collected D, args := #[] } :: a.defers } W)
    (hstop : ∀ (D : Nat) (c : Code) (x : α) (W : World), w.heap.size ≤ D → Sp → Ix c [x] W → W.heap[D]? = some (.deferred (some [])) → c.wpIn F n P Q { a with defers := { target := .collected D, args := #[] } :: a.defers } W) :
    (Code.rangeFunc g ps assign body).wpIn F n P Q a w := by
  refine wpIn_rangeFunc fun fn hfn => ?_
  rw [hro]
  obtain ⟨R, hR⟩ : ∃ R : LoopState → Option Code → Loop, R = fun st pe => { state := st, pending := pe, fn := fn, tmps := a.tmps, params := ps, assign := assign, body := body, defers := w.heap.size } := ⟨_, rfl⟩
  obtain ⟨W1, hW1⟩ : ∃ W1, (w.alloc (.deferred (some []))).alloc (.loop (R .ready none)) = W1 := ⟨_, rfl⟩
  have hs1 : W1.heap.size = w.heap.size + 2 := by rw [← hW1]; simp
  have hl1 : W1.heap[w.heap.size + 1]? = some (.loop (R .ready none)) := by
    rw [← hW1]; have := World.alloc_heap_new (w.alloc (.deferred (some []))) (.loop (R .ready none)); rwa [World.size_alloc] at this
  have hd1 : W1.heap[w.heap.size]? = some (.deferred (some [])) := by
    rw [← hW1]; exact (Below.heap_alloc _ _ _ (by simp)).trans (World.alloc_heap_new w _)
  have hb1 : Below w0.heap.size w0 W1 := by rw [← hW1]; exact hb0.trans ((below2 (Nat.le_refl _) _ _).mono hb0.size)
  have hi1 : I [] W1 := by rw [← hW1]; exact hIa _ _ _ (hIa _ _ _ h0)
  refine ⟨w.heap.size + 1, [{ target := .collected w.heap.size, args := #[] }], W1, { target := .fn (.func gf) #[], args := lb ++ #[.func (.yield (w.heap.size + 1)) #[] #[]] }, W1, gf,
    lb ++ #[.func (.yield (w.heap.size + 1)) #[] #[]], W1, by rw [← hW1, hR]; exact run_enterLoop_outer _ _ _ _ _, by simp only [resolve, hg]; simp [go_sem], ?_, by simp [invoke, go_sem, eg], fun _ => h1, ?_⟩
  · intro f' hf'; simp [Target.leads] at hf'; subst hf'; exact hFg
  have hBk : ∀ W W', W.heap[w.heap.size]? = some (Obj.deferred (some [])) → KeepsFrom w.heap.size W W' → W'.heap[w.heap.size]? = some (Obj.deferred (some [])) := fun W W' h k => k.same _ _ (Nat.le_refl _) h rfl
  have hBp : ∀ (W : World) o', W.heap[w.heap.size]? = some (Obj.deferred (some [])) → (W.putObj (w.heap.size + 1) o').heap[w.heap.size]? = some (Obj.deferred (some [])) := fun W o' h => (World.putObj_heap_other (by omega)).trans h
  refine (hseq (w.heap.size + 1)
    (fun pre W => I pre W ∧ W.heap[w.heap.size]? = some (.deferred (some [])) ∧ W.heap[w.heap.size + 1]? = some (.loop (R .ready none)))
    (fun pre W => ∃ c, Ix c pre W ∧ W.heap[w.heap.size]? = some (.deferred (some [])) ∧ W.heap[w.heap.size + 1]? = some (.loop (R .done (some c)))) W1 hb1
    (fun s A B h k => ⟨hIA W1 s A B (by omega) h.1 k, hAb _ _ _ _ _ k (by omega) h.2.1 rfl, hAb _ _ _ _ _ k (by omega) h.2.2 rfl⟩)
    (fun s A B h k => by obtain ⟨c, h1, h2, h3⟩ := h; exact ⟨c, hIxA W1 c s A B (by omega) h1 k, hAb _ _ _ _ _ k (by omega) h2 rfl, hAb _ _ _ _ _ k (by omega) h3 rfl⟩)
    ?_ ⟨hi1, hd1, hl1⟩).mono ?_
  · intro x W hJ hgx
    rw [hR]
    refine YieldAt.mono (round_of (w := w) (Kp := Kp) (Np := fun _ => True) (a := a) (fn := fn) (dfr := w.heap.size) (l := w.heap.size + 1) hfn (by omega) (fun h k => hKt h k) hKb hps _ hBk hBp I Ix hI hIx hG Ax hAx (hassign _) (fun pre x a' W hr hi hg hx _ => hbody (w.heap.size + 1) pre x a' W (Nat.le_succ _) hr hi hg hx) [] x W hJ.1 hJ.2.1 (by have := hJ.2.2; rw [hR] at this; exact this) hgx trivial) fun e W' h => ?_
    rcases h with ⟨_, ⟨h, _⟩, _⟩ | h
    · exact absurd (hI1 _ _ h) (by simp)
    · exact h
  · rintro e W2 ⟨⟨v, rfl⟩, (⟨hS, hi, hk, hl⟩ | ⟨hSp, x, c, hi, hk, hl⟩)⟩
    · exact ⟨none, _, by have := run_endLoop (P := P) hl (by rw [hR]; simp); rw [hR] at this; exact this, hdone _ _ (Nat.le_refl _) hS (hI _ _ _ _ _ hi (by omega) hl rfl) ((World.putObj_heap_other (by omega)).trans hk)⟩
    · exact ⟨some c, _, by have := run_endLoop (P := P) hl (by rw [hR]; simp); rw [hR] at this; exact this, hstop _ c x _ (Nat.le_refl _) hSp (hIx c _ _ _ _ _ hi (by omega) hl rfl) ((World.putObj_heap_other (by omega)).trans hk)⟩

end
end Go.Proofs.Ytffnlimgjnhmpaa

namespace Go.Proofs.Ytffnlimgjnhmpaa
open Go.RowKit Go.Shelf

attribute [local go_sem] Oper.semAt_some

/-- nothing waits -/
def noneO (S : JB) : Prop := ∀ i, i < S.np → ∀ k : Nat, (k : Int) < S.J → opn S i k = false
/-- what may change between two rounds -/
def Chg (_W A B : World) : Prop := Below A.heap.size A B

set_option maxRecDepth 100000 in
set_option maxHeartbeats 4000000 in
theorem open_seq (n : Nat) (hn : 1 ≤ n) (N : Nat) (v : Value) (S : JB) (w : World) (h : ShowAt N w v S) (hG : GoodS S) :
    SeqS Fence.wide n Try.prog 91 #[v] (fun x : Nat × Nat => #[.agg #[.int .i64 x.1, .int .i64 x.2]]) Chg (fun _ _ => True) (noneO S) (¬ noneO S) w := by
  intro l J Jx W hW hJa hJxa hY h0
  obtain ⟨a1, c1, rfl⟩ := h.form
  obtain ⟨ws, hws, HBs, hsz, hblk⟩ := box1 W (.cells #[.int .i64 S.J, .int .i64 S.D, .int .i64 S.Z, .slice a1 S.np c1] 74)
  have q0 := cell_blk hblk 0 rfl
  have q1 := cell_blk hblk 1 rfl
  have q2 := cell_blk hblk 2 rfl
  have q3 := cell_blk hblk 3 rfl
  have HBK := Lib.hid ((h.go hW).go HBs.out)
  have HJ0 : Hid (J [] ws) := hJa _ _ _ h0 HBs.out
  have HJA := Lib.hid hJa
  have HJX := Lib.hid hJxa
  have HY := Lib.hid hY
  have HG := Lib.hid hG
  have hn6 : S.np ≤ 6 := hG.np
  have hj1 := hG.J1
  have hj5 := hG.J5
  obtain ⟨jn, hjn⟩ : ∃ jn : Nat, S.J = jn := ⟨S.J.toNat, by omega⟩
  have HJN := Lib.hid hjn
  have HSQ : Hid (∀ W', Below ws.heap.size ws W' → W'.cell? ⟨W.heap.size, 0, none⟩ = some (.int .i64 S.J) ∧ W'.cell? ⟨W.heap.size, 1, none⟩ = some (.int .i64 S.D) ∧ W'.cell? ⟨W.heap.size, 2, none⟩ = some (.int .i64 S.Z) ∧ W'.cell? ⟨W.heap.size, 3, none⟩ = some (.slice a1 S.np c1)) := fun W' hW' => ⟨(hW'.cell (p := ⟨W.heap.size, 0, none⟩) hsz).trans q0, (hW'.cell (p := ⟨W.heap.size, 1, none⟩) hsz).trans q1, (hW'.cell (p := ⟨W.heap.size, 2, none⟩) hsz).trans q2, (hW'.cell (p := ⟨W.heap.size, 3, none⟩) hsz).trans q3⟩
  clear h hW hJa hJxa hY hG hblk hjn h0
  refine callsIn_of_wp Try.func91 rfl trivial ?_ rfl
  simp only [Try.ntmps91, List.size_toArray, List.length_cons, List.length_nil, Nat.reduceAdd, Nat.reduceSub, Array.replicate_succ, Array.replicate_zero, List.push_toArray, List.append_toArray, List.nil_append, List.cons_append]
  gi_upto_region 1 with fail
  (try rw [hws])
  clear hws
  gi_wp2
  gi_loopw [11] (fun i wr => ∃ k : Nat, k ≤ S.np ∧ i = .int .i64 k ∧ Hid (∀ i', i' < k → ∀ j : Nat, (j : Int) < S.J → opn S i' j = false) ∧ Hid (J [] wr) ∧ Hid (Below ws.heap.size ws wr)) (fun i _ => S.np - (intOf i).toNat)
  case atStart => exact ⟨0, Nat.zero_le _, rfl, fun i' h => absurd h (Nat.not_lt_zero _), HJ0, Below.refl _ _⟩
  case round =>
    obtain ⟨k, hk, rfl, HN, HJr, HBr⟩ := hrel
    obtain ⟨r0, r1, r2, r3⟩ := HSQ.out wr HBr.out
    by_cases hkn : k < S.np
    · have hki : (k : Int) < (S.np : Int) := by omega
      gi_wp2
      have HKN := Lib.hid hkn
      have HWr : Hid (Below wr.heap.size wr wr) := Below.refl _ _
      clear r0 r1 r2 r3
      obtain ⟨wk, hwk⟩ : ∃ wk, wk = wr := ⟨_, rfl⟩
      subst hwk
      gi_loopw [17] (fun i wr => ∃ m : Nat, m ≤ jn ∧ i = .int .i64 m ∧ Hid (∀ j, j < m → opn S k j = false) ∧ Hid (J [] wr) ∧ Hid (Below ws.heap.size ws wr)) (fun i _ => jn - (intOf i).toNat)
      case atStart => exact ⟨0, Nat.zero_le _, rfl, fun j h => absurd h (Nat.not_lt_zero _), HJr, HBr⟩
      case round =>
        obtain ⟨m, hm, rfl, HM, HJm, HBm⟩ := hrel
        have hj5' : jn ≤ 5 := by have := HJN.out; omega
        by_cases hmn : m < jn
        · have hmi : (m : Int) < S.J := by have := HJN.out; omega
          obtain ⟨wa, hwa, HBa, hsza, hblka⟩ := box1 wr (.cells #[.int .i64 0, .int .i64 0] 46)
          have HZa := Lib.hid hblka
          have z0 := cell_blk hblka 0 rfl
          have z1 := cell_blk hblka 1 rfl
          have f0 := free_blk hblka 0
          have f1 := free_blk hblka 1
          have hml : m < (S.pts k).length := by have := HG.out.len k hkn; omega
          clear hblka
          gi_upto_region 8 with fail
          (try rw [hwa])
          obtain ⟨w2, hw2, hz2, ho2, hb2⟩ := put2o HZa.out (.int .i64 k) (.int .i64 m)
          rw [hw2]
          have HB2r : Hid (Below wr.heap.size wr w2) := HBa.out.trans hb2
          have HB2 : Hid (Below ws.heap.size ws w2) := bel HBm.out HB2r.out
          obtain ⟨r0, r1, r2, r3⟩ := HSQ.out w2 HB2.out
          have m0 := cell_blk hz2 0 rfl
          have m1 := cell_blk hz2 1 rfl
          have HJ2 : Hid (J [] w2) := HJA.out _ _ _ HJm.out HB2r.out
          have HZ2 := Lib.hid hz2
          have hw2lt := heap_lt hz2
          clear hw2 hz2 ho2 hb2 z0 z1 f0 f1 hwa HZa
          cases ho : opn S k m with
          | true =>
            have HO := Lib.hid ho
            clear ho
            gi_wp2_with (first | (intro f hf; cases hf; done) | (refine ⟨trivial, ?_⟩; gi_at_call 63; refine (callsIn_wide.2 (kwaits_any N _ S k m _ (HBK.out.go HB2.out) hkn hml)).mono ?_; rw [HO.out]; rintro e w3 ⟨rfl, hb3⟩; have HB3 := Lib.hid hb3; have HJ3 : Hid (J [] w3) := HJA.out _ _ _ HJ2.out hb3; have n0 := (hb3.cell (p := ⟨wr.heap.size, 0, none⟩) hw2lt).trans m0; have n1 := (hb3.cell (p := ⟨wr.heap.size, 1, none⟩) hw2lt).trans m1; clear hb3 m0 m1 r0 r1 r2 r3; obtain ⟨fn, tmps, assign, body, hy, hR⟩ := HY.out (k, m) w3 HJ3.out trivial))
            refine hR.mono ?_
            rintro e w4 ⟨rfl, hj4⟩
            have HNO : Hid (¬ noneO S) := fun hno => by have := hno k hkn m hmi; rw [HO.out] at this; cases this
            have HJ4 := Lib.hid hj4
            clear hj4 hR hy n0 n1
            gi_wp2
            refine bodyPost_ret (results_none rfl _ _ _) rfl ?_
            exact ⟨⟨_, rfl⟩, .inr ⟨HNO.out, _, HJ4.out⟩⟩
          | false =>
            have HO := Lib.hid ho
            have HE : Hid (∀ j, j < m + 1 → opn S k j = false) := fun j hj => by
              by_cases e : j = m
              · subst e; exact HO.out
              · exact HM.out j (by omega)
            clear ho
            gi_wp2_with (first | (intro f hf; cases hf; done) | (refine ⟨trivial, ?_⟩; gi_at_call 63; refine (callsIn_wide.2 (kwaits_any N _ S k m _ (HBK.out.go HB2.out) hkn hml)).mono ?_; rw [HO.out]; rintro e w3 ⟨rfl, hb3⟩; have HB3 := Lib.hid hb3; have HJ3 : Hid (J [] w3) := HJA.out _ _ _ HJ2.out hb3; clear hb3 m0 m1 r0 r1 r2 r3))
            refine ⟨(fun f hf => by cases hf), ?_⟩
            gi_wp2
            go_roundw
            case rel => exact ⟨m + 1, by omega, by go_num, HE.out, HJ3.out, bel HB2.out HB3.out⟩
            case measure => simp [intOf]; omega
        · have hmi : ¬ (m : Int) < S.J := by have := HJN.out; omega
          have HE : Hid (∀ i', i' < k + 1 → ∀ j : Nat, (j : Int) < S.J → opn S i' j = false) := fun i' hi j hj => by
            by_cases e : i' = k
            · subst e; exact HM.out j (by have := HJN.out; omega)
            · exact HN.out i' (by omega) j hj
          gi_wp2
          go_roundw
          case rel => exact ⟨k + 1, by omega, by go_num, HE.out, HJm, HBm⟩
          case measure => simp [intOf]; omega
    · have hki : ¬ (k : Int) < (S.np : Int) := by omega
      have HE : Hid (noneO S) := fun i hi j hj => HN.out i (by omega) j hj
      gi_wp2
      go_end0
      exact ⟨⟨_, rfl⟩, .inl ⟨HE.out, HJr.out⟩⟩

end Go.Proofs.Ytffnlimgjnhmpaa

namespace Go.Proofs.Ytffnlimgjnhmpaa
open Go.RowKit Go.Shelf

attribute [local go_sem] Oper.semAt_some

theorem noneO_iff {S : JB} (hG : GoodS S) : noneO S ↔ allIn S = true := by
  rw [allIn_iff]
  unfold noneO opn
  constructor
  · intro h i hi x hx e
    obtain ⟨k, hk, hkx⟩ := List.getElem_of_mem hx
    have := of_decide_eq_false (h i hi k (by have := hG.len i hi; omega))
    rw [getD_at hk, hkx] at this
    exact this e
  · intro h i hi k hk
    refine decide_eq_false fun e => ?_
    have hl : k < (S.pts i).length := by have := hG.len i hi; omega
    rw [getD_at hl] at e
    exact h i hi _ (List.getElem_mem hl) e

theorem below_putObj {n : Nat} {A : World} {l : Nat} {o : Obj} (o' : Obj) (hl : A.heap[l]? = some o) (hn : n ≤ l) : Below n A (A.putObj l o') :=
  (Below.refl n A).grown (grownBy_putObj' A l o') (by have := (Array.getElem?_eq_some_iff.1 hl).1; omega) (fun k e => by cases e; omega)

set_option maxRecDepth 100000 in
set_option maxHeartbeats 4000000 in
theorem isOpen_any (N : Nat) (v : Value) (S : JB) (w : World) (h : ShowAt N w v S) (hG : GoodS S) :
    Calls Try.prog 70 #[v] w fun e w' => e = .returned (.bool (!allIn S)) ∧ Below w.heap.size w w' := by
  obtain ⟨a1, c1, rfl⟩ := h.form
  obtain ⟨ws, hws, HB, hsz, hsz1, hblk, hblk1⟩ := box2 w (.cells #[.int .i64 S.J, .int .i64 S.D, .int .i64 S.Z, .slice a1 S.np c1] 74) (.cells #[.bool false] 4)
  have q0 := cell_blk hblk 0 rfl
  have q1 := cell_blk hblk 1 rfl
  have q2 := cell_blk hblk 2 rfl
  have q3 := cell_blk hblk 3 rfl
  have HSEQ := Lib.hid (open_seq 2 (by omega) N _ S ws (h.go HB.out) hG)
  have HZ := Lib.hid hblk1
  have HNO := Lib.hid (noneO_iff hG)
  have hwss : ws.heap.size = w.heap.size + 2 := by rw [← hws]; simp
  clear h hG hblk hblk1
  refine (callsIn_wide (n := 3)).1 ?_
  refine callsIn_of_wp_marks Try.func70 rfl trivial ?_ rfl
  simp only [Try.ntmps70, List.size_toArray, List.length_cons, List.length_nil, Nat.reduceAdd, Nat.reduceSub, Array.replicate_succ, Array.replicate_zero, List.push_toArray, List.append_toArray, List.nil_append, List.cons_append]
  gi_upto_region 1 with fail
  (try rw [hws])
  clear hws
  gi_wp2
  refine rangeS (w := ws) rfl (by omega) (gf := 91) (lb := #[.agg #[.int .i64 S.J, .int .i64 S.D, .int .i64 S.Z, .slice a1 S.np c1]]) rfl trivial (enters_of Try.func91 (by kernel_rfl) rfl) HSEQ.out
    (Kp := Below w.heap.size) (fun h k => Below.trans h k) (fun W l o o' hl hW _ => below_putObj o' hW (by omega)) (Below.refl _ _) (fun _ => rfl) (fun _ A B k o h hk ho _ => (h.block k (heap_lt ho)).trans ho)
    (fun pre W => pre = [] ∧ W.heap[w.heap.size + 1]? = some (.cells #[.bool false] 4) ∧ Below w.heap.size w W)
    (fun c pre W => c = .ret ∧ W.heap[w.heap.size + 1]? = some (.cells #[.bool true] 4) ∧ Below w.heap.size w W)
    (fun s A l o o' h hl hA ho => ⟨h.1, (World.putObj_heap_other (by omega)).trans h.2.1, h.2.2.trans (below_putObj o' hA (by omega))⟩)
    (fun c s A l o o' h hl hA ho => ⟨h.1, (World.putObj_heap_other (by omega)).trans h.2.1, h.2.2.trans (below_putObj o' hA (by omega))⟩)
    (fun _ _ _ _ _ h _ _ _ => h)
    (fun W s A C hW hs hk => ⟨hs.1, (hk.block _ (heap_lt hs.2.1)).trans hs.2.1, hs.2.2.trans (hk.mono hs.2.2.size)⟩)
    (fun W c s A C hW hs hk => ⟨hs.1, (hk.block _ (heap_lt hs.2.1)).trans hs.2.1, hs.2.2.trans (hk.mono hs.2.2.size)⟩)
    (fun s A o hs => ⟨hs.1, (Below.heap_alloc _ _ _ (heap_lt hs.2.1)).trans hs.2.1, hs.2.2.alloc hs.2.2.size _⟩)
    ⟨rfl, HZ.out, HB.out⟩ (fun s A h => h.1)
    (fun x a' _ => a' = { tmps := #[.agg #[.int .i64 S.J, .int .i64 S.D, .int .i64 S.Z, .slice a1 S.np c1], .pointer (some ⟨w.heap.size, 0, none⟩), .pointer (some ⟨w.heap.size + 1, 0, none⟩), .agg #[.int .i64 S.J, .int .i64 S.D, .int .i64 S.Z, .slice a1 S.np c1], .func (.func 91) #[.agg #[.int .i64 S.J, .int .i64 S.D, .int .i64 S.Z, .slice a1 S.np c1]] #[], .agg #[.int .i64 x.1, .int .i64 x.2]], defers := [] })
    (fun _ _ _ _ _ _ h _ _ _ => h) ?assign ?body ?done ?stop
  case assign =>
    intro l pre x W K hi hg hK
    gi_wp2
    exact hK _ _ (KeepsFrom.refl _ _) (Below.refl _ _) hi hg (by simp)
  case body =>
    rintro l pre x a' W hl hrec ⟨rfl, hz, hb⟩ hg rfl
    have c0 := cell_blk hz 0 rfl
    have f0 := free_blk hz 0
    have HZW := Lib.hid hz
    have HBW := Lib.hid hb
    clear hz hb
    gi_wp2
    exact ⟨(KeepsOthers.setCell _ _ _).from _, rfl, blk_set HZW.out 0 _, HBW.out.trans ((Below.refl _ _).setCell (p := ⟨w.heap.size + 1, 0, none⟩) (Nat.le_succ _) _)⟩
  case done =>
    rintro D W hD hno ⟨_, hz, hb⟩ hK
    have c0 := cell_blk hz 0 rfl
    have f0 := free_blk hz 0
    have HE : Hid (allIn S = true) := HNO.out.1 hno
    have HZW := Lib.hid hz
    clear hno
    gi_wp2
    obtain ⟨W2, hW2⟩ : ∃ W2, W.setCell ⟨w.heap.size + 1, 0, none⟩ (.bool false) = W2 := ⟨_, rfl⟩
    rw [hW2]
    have hz2 : W2.heap[w.heap.size + 1]? = some (.cells #[.bool false] 4) := by rw [← hW2]; exact blk_set HZW.out 0 _
    have hK2 : W2.heap[D]? = some (.deferred (some [])) := by rw [← hW2]; exact (Below.heap_setCell _ _ _ _ (show D ≠ w.heap.size + 1 by omega)).trans hK
    have hb2 : Below w.heap.size w W2 := by rw [← hW2]; exact hb.setCell (p := ⟨w.heap.size + 1, 0, none⟩) (Nat.le_succ _) _
    clear hW2
    refine ⟨by simp, .inl ⟨_, _, rfl, run_takeDeferred hK2, ?_⟩⟩
    have s0 : (W2.putObj D (.deferred none)).cell? ⟨w.heap.size + 1, 0, none⟩ = some (.bool false) := cell_blk ((World.putObj_heap_other (by omega)).trans hz2) 0 rfl
    refine ⟨.bool false, ?_, ?_⟩
    · simp [results, Try.results70, go_sem, s0]
    · exact ⟨by rw [HE.out]; rfl, hb2.trans (below_putObj _ hK2 (by omega))⟩
  case stop =>
    rintro D c x W hD hno ⟨rfl, hz, hb⟩ hK
    have HE : Hid (allIn S = false) := by
      unfold Hid
      cases e : allIn S with
      | false => rfl
      | true => exact absurd (HNO.out.2 e) hno
    clear hno
    gi_wp2
    refine ⟨by simp, .inl ⟨_, _, rfl, run_takeDeferred hK, ?_⟩⟩
    have s0 : (W.putObj D (.deferred none)).cell? ⟨w.heap.size + 1, 0, none⟩ = some (.bool true) := cell_blk ((World.putObj_heap_other (by omega)).trans hz) 0 rfl
    refine ⟨.bool true, ?_, ?_⟩
    · simp [results, Try.results70, go_sem, s0]
    · exact ⟨by rw [HE.out]; rfl, hb.trans (below_putObj _ hK (by omega))⟩

end Go.Proofs.Ytffnlimgjnhmpaa
