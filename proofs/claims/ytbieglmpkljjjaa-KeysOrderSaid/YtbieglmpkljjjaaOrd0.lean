/-
  Ord0: how the book that KeysOrder makes lies in memory while it is made.
-/
import Derived.Test.YtbieglmpkljjjaaTurnB
namespace Go.Proofs.Ytbieglmpkljjjaa
open Go.RowKit

def OCells (w : World) (g k : Nat) (f : Nat → Int × Int × Value) : Prop := ∀ i, i < k → w.cell? ⟨g, i * 3, none⟩ = some (.int .i64 (f i).1) ∧ w.cell? ⟨g, i * 3 + 1, none⟩ = some (.int .i64 (f i).2.1) ∧ w.cell? ⟨g, i * 3 + 2, none⟩ = some (f i).2.2
theorem oset_same {w : World} {g o : Nat} {u v : Value} (h : w.cell? ⟨g, o, none⟩ = some u) : (w.setCell ⟨g, o, none⟩ v).cell? ⟨g, o, none⟩ = some v := World.cell?_setCell_same _ _ _ h
theorem oset_off {w : World} {g o p : Nat} {v : Value} (h : o ≠ p) : (w.setCell ⟨g, o, none⟩ v).cell? ⟨g, p, none⟩ = w.cell? ⟨g, p, none⟩ := World.cell?_setCell_other _ _ _ _ (by intro e; injection e with _ e; exact h e)
theorem OCells.congr {w : World} {g k : Nat} {f f' : Nat → Int × Int × Value} (h : OCells w g k f) (e : ∀ i, i < k → f i = f' i) : OCells w g k f' := fun i hi => by rw [← e i hi]; exact h i hi
theorem near_ns9 {B : KB} (h : farB B = false) (hk : okKB B = true) : B.ns ≤ 7 := by
  unfold farB at h
  rw [hk] at h
  simp at h
  omega

/-- a row of numbers in a block from lo on and below hi -/
def RowB (W : World) (lo hi : Nat) (v : Value) (n : Nat) (x : Nat → Int) : Prop :=
  ∃ g cap, v = .slice (some ⟨g, 0, none⟩) n cap ∧ (0 < n → lo ≤ g ∧ g < hi ∧ ∀ i, i < n → W.cell? ⟨g, i, none⟩ = some (.int .i64 (x i)))
theorem RowB.keep {W W' : World} {lo hi hi' : Nat} {v : Value} {n : Nat} {x : Nat → Int} (h : RowB W lo hi v n x) (hh : hi ≤ hi') (hb : ∀ k, lo ≤ k → k < hi → W'.heap[k]? = W.heap[k]?) : RowB W' lo hi' v n x := by
  obtain ⟨g, cap, e, h⟩ := h
  refine ⟨g, cap, e, fun h0 => ?_⟩
  obtain ⟨h1, h2, h3⟩ := h h0
  exact ⟨h1, by omega, fun i hi => (World.cell?_of_block (a := ⟨g, i, none⟩) (hb g h1 h2)).trans (h3 i hi)⟩
theorem RowB.ints {W : World} {lo hi : Nat} {v : Value} {n : Nat} {x : Nat → Int} (h : RowB W lo hi v n x) (hn : n ≤ 140737488351232) : IntsAt hi W v n x := by
  obtain ⟨g, cap, e, h⟩ := h
  refine ⟨_, cap, e, hn, fun h0 => ?_⟩
  obtain ⟨_, h2, h3⟩ := h h0
  exact ⟨g, 0, rfl, h2, fun i hi => ⟨_, by rw [Nat.zero_add]; exact h3 i hi, rfl⟩⟩
theorem RowB.of {W : World} {lo g n : Nat} {x : Nat → Int} (h : RowAt W g n fun j => .int .i64 (x j)) (h1 : lo ≤ g) (h2 : g < W.heap.size) : RowB W lo W.heap.size (.slice (some ⟨g, 0, none⟩) n n) n x := ⟨g, n, rfl, fun _ => ⟨h1, h2, fun i hi => (h i hi).1⟩⟩

/-- the box at hb, its sorts at g2 (the first k of them turned), its nodes at g3 (the first kn of them turned), the lists of the nodes behind them, below m -/
structure OS (B : KB) (a c : Nat) (w0 : World) (lo g3 m g2 hb d2 d3 : Nat) (b2 : Option Addr) (k kn : Nat) (W : World) : Prop where
  below : Below lo w0 W
  ord : lo ≤ g3 ∧ g3 < m ∧ m ≤ hb ∧ (0 < B.ns → m ≤ g2 ∧ g2 < hb) ∧ hb < W.heap.size
  box : ∃ v1, RowB W (hb + 1) W.heap.size v1 B.nv (fun y => B.V (rotT B.nv a y)) ∧ W.heap[hb]? = some (.cells #[v1, .slice b2 B.ns d2, .slice (some ⟨g3, 0, none⟩) B.D.n d3] 26 (0, 0))
  sblk : 0 < B.ns → b2 = some ⟨g2, 0, none⟩
  sorts : 0 < B.ns → ∃ f, RowAt W g2 B.ns f ∧ ∀ j, j < k → RowB W (hb + 1) W.heap.size (f (rotS B.ns c j)) B.nv (fun y => B.X j (rotT B.nv a y))
  nodes : ∃ r : Nat → Value, OCells W g3 B.D.n (fun i => (if i < kn then nodeM B a i else B.D.M i, if i < kn then nodeS B c i else B.D.S i, r i)) ∧ ∀ i, i < B.D.n → RowB W (g3 + 1) m (r i) (B.D.q i) (B.D.T i)
  nfree : ∃ cs T, W.heap[g3]? = some (Obj.cells cs T (0, 0))

theorem OS.go {B : KB} {a c : Nat} {w0 : World} {lo g3 m g2 hb d2 d3 : Nat} {b2 : Option Addr} {k kn : Nat} {W W' : World} (h : OS B a c w0 lo g3 m g2 hb d2 d3 b2 k kn W) (hB : Below W.heap.size W W') : OS B a c w0 lo g3 m g2 hb d2 d3 b2 k kn W' := by
  obtain ⟨o1, o2, o3, o4, o5⟩ := h.ord
  have hs := hB.size
  refine { below := h.below.trans (hB.mono (by omega)), ord := by omega, box := ?_, sblk := h.sblk, sorts := fun h0 => ?_, nodes := ?_, nfree := ?_ }
  · obtain ⟨v1, h1, h2⟩ := h.box
    exact ⟨v1, h1.keep hs fun k _ hk => hB.block k hk, (hB.block hb o5).trans h2⟩
  · obtain ⟨f, h1, h2⟩ := h.sorts h0
    exact ⟨f, h1.kept (hB.block g2 (by omega)), fun j hj => (h2 j hj).keep hs fun k _ hk => hB.block k hk⟩
  · obtain ⟨r, h1, h2⟩ := h.nodes
    refine ⟨r, fun i hi => ?_, fun i hi => (h2 i hi).keep (Nat.le_refl _) fun k _ hk => hB.block k (by omega)⟩
    obtain ⟨q0, q1, q2⟩ := h1 i hi
    have e := hB.block g3 (by omega)
    exact ⟨(World.cell?_of_block (a := ⟨g3, i * 3, none⟩) e).trans q0, (World.cell?_of_block (a := ⟨g3, i * 3 + 1, none⟩) e).trans q1, (World.cell?_of_block (a := ⟨g3, i * 3 + 2, none⟩) e).trans q2⟩
  · obtain ⟨cs, T, e⟩ := h.nfree
    exact ⟨cs, T, (hB.block g3 (by omega)).trans e⟩
/-- one more sort is turned -/
theorem OS.put {B : KB} {a c : Nat} {w0 : World} {lo g3 m g2 hb d2 d3 : Nat} {b2 : Option Addr} {k kn : Nat} {W : World} (h : OS B a c w0 lo g3 m g2 hb d2 d3 b2 k kn W) (hk : k < B.ns) {row : Value} (hr : RowB W (hb + 1) W.heap.size row B.nv (fun y => B.X k (rotT B.nv a y))) :
    OS B a c w0 lo g3 m g2 hb d2 d3 b2 (k + 1) kn (W.setCell ⟨g2, rotS B.ns c k, none⟩ row) := by
  obtain ⟨o1, o2, o3, o4, o5⟩ := h.ord
  have hg := grown_setCell W g2 (rotS B.ns c k) row
  have hs := hg.size
  have hne : ∀ j, j < W.heap.size → j ≠ g2 → (W.setCell ⟨g2, rotS B.ns c k, none⟩ row).heap[j]? = W.heap[j]? := fun j hj hn => hg.block j hj (by intro e; injection e with e; exact hn e)
  refine { below := h.below.setCell (by show lo ≤ g2; omega) _, ord := by omega, box := ?_, sblk := h.sblk, sorts := fun h0 => ?_, nodes := ?_, nfree := ?_ }
  · obtain ⟨v1, h1, h2⟩ := h.box
    exact ⟨v1, h1.keep hs fun k h3 hk => hne k hk (by omega), (hne hb o5 (by omega)).trans h2⟩
  · obtain ⟨f, h1, h2⟩ := h.sorts h0
    refine ⟨_, h1.set (k := rotS B.ns c k) row, fun j hj => ?_⟩
    unfold updV
    by_cases e : j = k
    · subst e
      rw [if_pos rfl]
      exact hr.keep hs fun k h3 hk => hne k hk (by omega)
    · have hn : ¬ rotS B.ns c j = rotS B.ns c k := fun e2 => e (by
        have h1 := rot_st (a := c) (show j < B.ns by omega)
        rw [e2, rot_st hk] at h1; exact h1.symm)
      rw [if_neg hn]
      exact (h2 j (by omega)).keep hs fun k h3 hk => hne k hk (by omega)
  · obtain ⟨r, h1, h2⟩ := h.nodes
    refine ⟨r, fun i hi => ?_, fun i hi => (h2 i hi).keep (Nat.le_refl _) fun k _ hk => hne k (by omega) (by omega)⟩
    obtain ⟨q0, q1, q2⟩ := h1 i hi
    have e := hne g3 (by omega) (by omega)
    exact ⟨(World.cell?_of_block (a := ⟨g3, i * 3, none⟩) e).trans q0, (World.cell?_of_block (a := ⟨g3, i * 3 + 1, none⟩) e).trans q1, (World.cell?_of_block (a := ⟨g3, i * 3 + 2, none⟩) e).trans q2⟩
  · obtain ⟨cs, T, e⟩ := h.nfree
    exact ⟨cs, T, (hne g3 (by omega) (by omega)).trans e⟩
/-- a store into the nodes leaves the rest -/
theorem OS.node {B : KB} {a c : Nat} {w0 : World} {lo g3 m g2 hb d2 d3 : Nat} {b2 : Option Addr} {k kn : Nat} {W : World} (h : OS B a c w0 lo g3 m g2 hb d2 d3 b2 k kn W) (o : Nat) (u : Value) (kn' : Nat)
    (hn : ∀ r : Nat → Value, OCells W g3 B.D.n (fun i => (if i < kn then nodeM B a i else B.D.M i, if i < kn then nodeS B c i else B.D.S i, r i)) → OCells (W.setCell ⟨g3, o, none⟩ u) g3 B.D.n (fun i => (if i < kn' then nodeM B a i else B.D.M i, if i < kn' then nodeS B c i else B.D.S i, r i))) :
    OS B a c w0 lo g3 m g2 hb d2 d3 b2 k kn' (W.setCell ⟨g3, o, none⟩ u) := by
  obtain ⟨o1, o2, o3, o4, o5⟩ := h.ord
  have hg := grown_setCell W g3 o u
  have hs := hg.size
  have hne : ∀ j, j < W.heap.size → j ≠ g3 → (W.setCell ⟨g3, o, none⟩ u).heap[j]? = W.heap[j]? := fun j hj hn => hg.block j hj (by intro e; injection e with e; exact hn e)
  refine { below := h.below.setCell (by show lo ≤ g3; omega) _, ord := by omega, box := ?_, sblk := h.sblk, sorts := fun h0 => ?_, nodes := ?_, nfree := ?_ }
  · obtain ⟨v1, h1, h2⟩ := h.box
    exact ⟨v1, h1.keep hs fun k h3 hk => hne k hk (by omega), (hne hb o5 (by omega)).trans h2⟩
  · obtain ⟨f, h1, h2⟩ := h.sorts h0
    exact ⟨f, h1.kept (hne g2 (by omega) (by omega)), fun j hj => (h2 j hj).keep hs fun k h3 hk => hne k hk (by omega)⟩
  · obtain ⟨r, h1, h2⟩ := h.nodes
    exact ⟨r, hn r h1, fun i hi => (h2 i hi).keep (Nat.le_refl _) fun k h3 hk => hne k (by omega) (by omega)⟩
  · obtain ⟨cs, T, e⟩ := h.nfree
    exact ⟨_, _, setCell_heap_same e u⟩
theorem OS.putM {B : KB} {a c : Nat} {w0 : World} {lo g3 m g2 hb d2 d3 : Nat} {b2 : Option Addr} {k kn : Nat} {W : World} (h : OS B a c w0 lo g3 m g2 hb d2 d3 b2 k kn W) (hk : kn < B.D.n) (hM : B.D.M kn ≠ -1) :
    OS B a c w0 lo g3 m g2 hb d2 d3 b2 k (kn + 1) (W.setCell ⟨g3, kn * 3, none⟩ (.int .i64 (nodeM B a kn))) := h.node _ _ _ fun r hr i hi => by
  obtain ⟨h0, h1, h2⟩ := hr i hi
  dsimp only at h0 h1 h2 ⊢
  by_cases e : i = kn
  · subst e
    have eS : nodeS B c i = B.D.S i := by unfold nodeS; rw [if_neg (fun e => hM e.1)]
    refine ⟨(oset_same h0).trans ?_, (oset_off (by omega)).trans (h1.trans ?_), (oset_off (by omega)).trans h2⟩
    · rw [if_pos (by omega)]
    · rw [if_neg (by omega), if_pos (by omega), eS]
  · refine ⟨(oset_off (by omega)).trans (h0.trans ?_), (oset_off (by omega)).trans (h1.trans ?_), (oset_off (by omega)).trans h2⟩
    · by_cases e2 : i < kn
      · rw [if_pos e2, if_pos (by omega)]
      · rw [if_neg e2, if_neg (by omega)]
    · by_cases e2 : i < kn
      · rw [if_pos e2, if_pos (by omega)]
      · rw [if_neg e2, if_neg (by omega)]
theorem OS.putS {B : KB} {a c : Nat} {w0 : World} {lo g3 m g2 hb d2 d3 : Nat} {b2 : Option Addr} {k kn : Nat} {W : World} (h : OS B a c w0 lo g3 m g2 hb d2 d3 b2 k kn W) (hk : kn < B.D.n) (hM : B.D.M kn = -1) :
    OS B a c w0 lo g3 m g2 hb d2 d3 b2 k (kn + 1) (W.setCell ⟨g3, kn * 3 + 1, none⟩ (.int .i64 (nodeS B c kn))) := h.node _ _ _ fun r hr i hi => by
  obtain ⟨h0, h1, h2⟩ := hr i hi
  dsimp only at h0 h1 h2 ⊢
  by_cases e : i = kn
  · subst e
    have eM : nodeM B a i = B.D.M i := by unfold nodeM; rw [if_pos hM, hM]
    refine ⟨(oset_off (by omega)).trans (h0.trans ?_), (oset_same h1).trans ?_, (oset_off (by omega)).trans h2⟩
    · rw [if_neg (by omega), if_pos (by omega), eM]
    · rw [if_pos (by omega)]
  · refine ⟨(oset_off (by omega)).trans (h0.trans ?_), (oset_off (by omega)).trans (h1.trans ?_), (oset_off (by omega)).trans h2⟩
    · by_cases e2 : i < kn
      · rw [if_pos e2, if_pos (by omega)]
      · rw [if_neg e2, if_neg (by omega)]
    · by_cases e2 : i < kn
      · rw [if_pos e2, if_pos (by omega)]
      · rw [if_neg e2, if_neg (by omega)]
theorem OS.skip {B : KB} {a c : Nat} {w0 : World} {lo g3 m g2 hb d2 d3 : Nat} {b2 : Option Addr} {k kn : Nat} {W : World} (h : OS B a c w0 lo g3 m g2 hb d2 d3 b2 k kn W) (hM : B.D.M kn = -1) (hS : B.D.S kn = -1) :
    OS B a c w0 lo g3 m g2 hb d2 d3 b2 k (kn + 1) W := by
  have eM : nodeM B a kn = B.D.M kn := by unfold nodeM; rw [if_pos hM, hM]
  have eS : nodeS B c kn = B.D.S kn := by unfold nodeS; rw [if_neg (fun e => e.2 hS)]
  obtain ⟨r, h1, h2⟩ := h.nodes
  refine { h with nodes := ⟨r, h1.congr fun i hi => ?_, h2⟩ }
  by_cases e : i = kn
  · subst e
    rw [if_neg (by omega), if_neg (by omega), if_pos (by omega), if_pos (by omega), eM, eS]
  · by_cases e2 : i < kn
    · rw [if_pos e2, if_pos e2, if_pos (by omega), if_pos (by omega)]
    · rw [if_neg e2, if_neg e2, if_neg (by omega), if_neg (by omega)]
/-- behind the copy, its box, and the first row -/
theorem os_start {B : KB} (hG : GoodB B) {a c : Nat} {w1 w2 w3 w4 : World} {v1 v2 v3 : Value} {h : Nat} (ho : OwnBook w2 w1.heap.size w2.heap.size (.agg #[v1, v2, v3]) B) (hB : Below w1.heap.size w1 w2)
    (h3 : w2.alloc (.cells #[v1, v2, v3] 26) = w3) (h4 : Below w3.heap.size w3 w4) (hr : RowAt w4 h B.nv fun j => .int .i64 (B.V (rotT B.nv a j))) (hh : w3.heap.size ≤ h) (hh2 : h < w4.heap.size) :
    ∃ g3 m g2 d2 d3 b2, v2 = .slice b2 B.ns d2 ∧ v3 = .slice (some ⟨g3, 0, none⟩) B.D.n d3 ∧ OS B a c w1 w1.heap.size g3 m g2 w2.heap.size d2 d3 b2 0 0 (w4.setCell ⟨w2.heap.size, 0, none⟩ (.slice (some ⟨h, 0, none⟩) B.nv B.nv)) := by
  have hnv1 := hG.nv1
  have hn1 := hG.D.n1
  have hs3 : w3.heap.size = w2.heap.size + 1 := by rw [← h3]; simp
  have hs4 := h4.size
  have hs12 := hB.size
  obtain ⟨x1, x2, x3, m, e, hp, hrows⟩ := ho
  injection e with e
  injection e with e
  injection e with e1 e
  injection e with e2 e
  injection e with e3 _
  subst e1; subst e2; subst e3
  have hm : ∃ (lo' m' : Nat), w1.heap.size ≤ lo' ∧ m' ≤ m ∧ NodesIn w2 lo' m' v3 B.D B.D.n := by
    obtain ⟨mid, ⟨⟨_, _, _, q⟩, q2⟩ | ⟨q2, ⟨_, _, _, q⟩⟩⟩ := hp
    · obtain ⟨q1, q3, _⟩ := q (by omega); exact ⟨mid, m, by omega, Nat.le_refl _, q2⟩
    · obtain ⟨q1, q3, _⟩ := q (by omega); exact ⟨w1.heap.size, mid, Nat.le_refl _, by omega, q2⟩
  obtain ⟨lo', m', hlo, hmm, g3, d3, r, M, ev3, n1, n2, n3, n4, n5, n6⟩ := hm
  subst ev3
  have hM := mono_M n4
  have hM0 := hM 0 B.D.n (Nat.zero_le _) (Nat.le_refl _)
  obtain ⟨rows, M2, hown, hlt, hlen, r1, r2, r3, r4⟩ := hrows
  have hM2 := mono_M r3 0 B.ns (Nat.zero_le _) (Nat.le_refl _)
  -- what lies below the box lies there still
  have keep : ∀ j, j < w2.heap.size → (w4.setCell ⟨w2.heap.size, 0, none⟩ (.slice (some ⟨h, 0, none⟩) B.nv B.nv)).heap[j]? = w2.heap[j]? := fun j hj => by
    rw [Below.heap_setCell _ _ _ _ (by show j ≠ w2.heap.size; omega), h4.block j (by omega), ← h3, Below.heap_alloc _ _ _ hj]
  have hbox : w4.heap[w2.heap.size]? = some (.cells #[v1, v2, .slice (some ⟨g3, 0, none⟩) B.D.n d3] 26 (0, 0)) := by
    rw [h4.block _ (by omega), ← h3]; exact World.alloc_heap_new _ _
  have hsz : (w4.setCell ⟨w2.heap.size, 0, none⟩ (.slice (some ⟨h, 0, none⟩) B.nv B.nv)).heap.size = w4.heap.size := by simp [World.setCell]
  have hrow : RowB (w4.setCell ⟨w2.heap.size, 0, none⟩ (.slice (some ⟨h, 0, none⟩) B.nv B.nv)) (w2.heap.size + 1) w4.heap.size (.slice (some ⟨h, 0, none⟩) B.nv B.nv) B.nv (fun y => B.V (rotT B.nv a y)) :=
    (RowB.of hr (lo := w2.heap.size + 1) (by omega) hh2).keep (Nat.le_refl _) fun k hk _ => Below.heap_setCell _ _ _ _ (by show k ≠ w2.heap.size; omega)
  obtain ⟨cur3, c3, c4⟩ := n5 (by omega)
  have hg3 : g3 < w2.heap.size := heap_lt c3
  have hb4 : Below w1.heap.size w1 (w4.setCell ⟨w2.heap.size, 0, none⟩ (.slice (some ⟨h, 0, none⟩) B.nv B.nv)) := by
    have k1 : Below w1.heap.size w1 w3 := by rw [← h3]; exact hB.alloc (by omega) _
    exact (k1.trans (h4.mono (by omega))).setCell (by show w1.heap.size ≤ w2.heap.size; omega) _
  have fin' : ∀ (g2 d2 : Nat) (b2 : Option Addr), v2 = .slice b2 B.ns d2 → (0 < B.ns → b2 = some ⟨g2, 0, none⟩ ∧ m ≤ g2 ∧ g2 < w2.heap.size ∧ ∃ f, RowAt w2 g2 B.ns f) →
      OS B a c w1 w1.heap.size g3 m g2 w2.heap.size d2 d3 b2 0 0 (w4.setCell ⟨w2.heap.size, 0, none⟩ (.slice (some ⟨h, 0, none⟩) B.nv B.nv)) := fun g2 d2 b2 ev hg2 => by
    refine { below := hb4, ord := ⟨by omega, by omega, by omega, fun h0 => ⟨(hg2 h0).2.1, (hg2 h0).2.2.1⟩, by rw [hsz]; omega⟩, box := ⟨_, by rw [hsz]; exact hrow, ?_⟩, sblk := fun h0 => (hg2 h0).1, sorts := fun h0 => ?_, nodes := ⟨r, fun i hi => ?_, fun i hi => ?_⟩, nfree := ⟨_, _, (keep g3 hg3).trans c3⟩ }
    · have := setCell_heap_same hbox (j := 0) (.slice (some ⟨h, 0, none⟩) B.nv B.nv)
      rw [ev] at this
      exact this
    · obtain ⟨_, _, q3, f, hf⟩ := hg2 h0
      exact ⟨f, hf.kept (keep g2 q3), fun j hj => absurd hj (Nat.not_lt_zero j)⟩
    · have k0 := cell_blk c3 (i * 3) (by rw [c4 _ (by omega), ndCell0])
      have k1 := cell_blk c3 (i * 3 + 1) (by rw [c4 _ (by omega), ndCell1])
      have k2 := cell_blk c3 (i * 3 + 2) (by rw [c4 _ (by omega), ndCell2])
      have e := keep g3 hg3
      dsimp only
      rw [if_neg (Nat.not_lt_zero i), if_neg (Nat.not_lt_zero i)]
      exact ⟨(World.cell?_of_block (a := ⟨g3, i * 3, none⟩) e).trans k0, (World.cell?_of_block (a := ⟨g3, i * 3 + 1, none⟩) e).trans k1, (World.cell?_of_block (a := ⟨g3, i * 3 + 2, none⟩) e).trans k2⟩
    · obtain ⟨gr, cr, er, hr'⟩ := n6 i hi
      have e1 := hM 0 i (Nat.zero_le _) (by omega)
      have e2 := hM (i + 1) B.D.n (by omega) (Nat.le_refl _)
      refine ⟨gr, cr, er, fun h0 => ?_⟩
      obtain ⟨q1, q2, cur, q3, q4, q5, q6, q7⟩ := hr' h0
      exact ⟨by omega, by omega, fun y hy => (World.cell?_of_block (a := ⟨gr, y, none⟩) (keep gr (heap_lt q3))).trans (cell_blk q3 y (q7 y hy))⟩
  obtain ⟨_, ⟨ev, h0⟩ | ⟨g2, cap, cur, ev, q1, q2, q3⟩⟩ := id hown
  · subst ev
    exact ⟨g3, m, 0, 0, d3, none, by rw [h0], rfl, fin' 0 0 none (by rw [h0]) fun h1 => by omega⟩
  · have hg2 := hlt g2 (by rw [ev]; rfl)
    refine ⟨g3, m, g2, cap, d3, some ⟨g2, 0, none⟩, ev, rfl, fin' g2 cap _ ev fun h1 => ⟨rfl, q1, hg2, fun i => rows.getD i (.slice none 0 0), fun i hi => ?_⟩⟩
    subst ev
    have e9 : rows[i]? = some (rows.getD i (.slice none 0 0)) := by simp [List.getD, show i < rows.length by omega]
    exact ⟨own_cell hown i e9, frozen_blk q2 i⟩
/-- all is turned: the book -/
theorem OS.book {B : KB} (hG : GoodB B) {a c : Nat} {w0 : World} {lo g3 m g2 hb d2 d3 : Nat} {b2 : Option Addr} {W : World} (h : OS B a c w0 lo g3 m g2 hb d2 d3 b2 B.ns B.D.n W) :
    ∃ (b1 : Option Addr) (d1 : Nat), W.heap[hb]? = some (.cells #[.slice b1 B.nv d1, .slice b2 B.ns d2, .slice (some ⟨g3, 0, none⟩) B.D.n d3] 26 (0, 0)) ∧ BookAt W.heap.size W (.agg #[.slice b1 B.nv d1, .slice b2 B.ns d2, .slice (some ⟨g3, 0, none⟩) B.D.n d3]) (turnB B a c) := by
  obtain ⟨o1, o2, o3, o4, o5⟩ := h.ord
  have hnv5 := hG.nv
  have hns := hG.ns
  have hnn := hG.nn
  obtain ⟨v1, h1, h2⟩ := h.box
  obtain ⟨g, cap, e, h1'⟩ := id h1
  subst e
  refine ⟨_, _, h2, Nat.le_refl _, _, _, _, _, _, _, rfl, h1.ints (by omega), ⟨b2, d2, rfl, by show B.ns ≤ _; omega, fun h0 => ?_⟩, ⟨_, d3, rfl, by show B.D.n ≤ _; omega, fun _ => ⟨g3, 0, rfl, by omega, fun i hi => ?_⟩⟩⟩
  · have h0' : 0 < B.ns := h0
    obtain ⟨f, hf, hr⟩ := h.sorts h0
    refine ⟨g2, 0, h.sblk h0, by omega, fun i hi => ⟨f i, by rw [Nat.zero_add]; exact (hf i hi).1, ?_⟩⟩
    have hi : i < B.ns := hi
    have := hr (rotT B.ns c i) (rotT_lt hi)
    rw [rot_ts hi] at this
    have hL : (turnB B a c).L i = B.nv := (hG.X _ (rotT_lt hi)).n
    dsimp only
    rw [hL]
    exact this.ints (by omega)
  · have hi : i < B.D.n := hi
    obtain ⟨r, n1, n2⟩ := h.nodes
    obtain ⟨q0, q1, q2⟩ := n1 i hi
    dsimp only at q0 q1 q2
    rw [if_pos hi] at q0 q1
    rw [Nat.zero_add]
    have hq : B.D.q i ≤ 140737488351232 := by
      by_cases hm : B.D.M i = -1
      · have := (hG.D.stop i hi hm).1; omega
      · obtain ⟨x1, x2, _, x4, _⟩ := hG.D.ask i hi hm
        have := hG.V (B.D.M i).toNat (by omega)
        omega
    exact ⟨q0, q1, r i, q2, (((n2 i hi).keep (hi' := W.heap.size) (by omega) fun _ _ _ => rfl).ints hq)⟩

end Go.Proofs.Ytbieglmpkljjjaa
