/-
  Base: how lists of numbers, of rows and of pairs lie in a world; lists of scions; what was made.
-/
import Derived.Test.YtnnngbnimmcjiaaProg
import Derived.Test.YtnnngbnimmcjiaaPure
import Derived.WalkKit
import Derived.WalkSpells
import Derived.WalkLawsBesides
import Derived.Lib.Hide
import Derived.BigQuiet
import Derived.Deep.QuietTactic
import Derived.Deep.RegionHeld3
import Derived.IntWalk
import Derived.RangeFuncNested
import Derived.RegionTactic
import Derived.ChangeAlike
import Derived.Maps.AppendAt
namespace Go.Proofs.Ytnnngbnimmcjiaa
open Go.RowKit

/-- v is a list of n elements, whose cells lie below block N; the i-th one is r with E i r. -/
def ListAt (N : Nat) (w : World) (E : Nat → Value → Prop) (v : Value) (n : Nat) : Prop :=
  ∃ ao cap, v = .slice ao n cap ∧ n ≤ 140737488351232 ∧ (0 < n → ∃ b off, ao = some ⟨b, off, none⟩ ∧ b < N ∧ ∀ i, i < n → ∃ r, w.cell? ⟨b, off + i, none⟩ = some r ∧ E i r)

def IntsAt (N : Nat) (w : World) (v : Value) (n : Nat) (x : Nat → Int) : Prop := ListAt N w (fun i r => r = .int .i64 (x i)) v n

def RowsAt (N : Nat) (w : World) (v : Value) (n : Nat) (L : Nat → Nat) (x : Nat → Nat → Int) : Prop := ListAt N w (fun i r => IntsAt N w r (L i) (x i)) v n

def SortsAt (N : Nat) (w : World) (v : Value) (n : Nat) (L : Nat → Nat) (M : Nat → Nat → Nat) (x : Nat → Nat → Nat → Int) : Prop := ListAt N w (fun i r => RowsAt N w r (L i) (M i) (x i)) v n

theorem ListAt.mono {N N' : Nat} {w w' : World} {E E' : Nat → Value → Prop} {v : Value} {n : Nat} (h : ListAt N w E v n) (hB : Below N w w') (hN : N ≤ N') (hE : ∀ i r, i < n → E i r → E' i r) : ListAt N' w' E' v n := by
  obtain ⟨ao, cap, rfl, hn, hc⟩ := h
  refine ⟨ao, cap, rfl, hn, fun h0 => ?_⟩
  obtain ⟨b, off, rfl, hb, hr⟩ := hc h0
  refine ⟨b, off, rfl, by omega, fun i hi => ?_⟩
  obtain ⟨r, h1, h2⟩ := hr i hi
  exact ⟨r, (hB.cell (p := ⟨b, off + i, none⟩) hb).trans h1, hE i r hi h2⟩

theorem IntsAt.mono {N N' : Nat} {w w' : World} {v : Value} {n : Nat} {x : Nat → Int} (h : IntsAt N w v n x) (hB : Below N w w') (hN : N ≤ N') : IntsAt N' w' v n x :=
  ListAt.mono h hB hN (fun _ _ _ h => h)
theorem RowsAt.mono {N N' : Nat} {w w' : World} {v : Value} {n : Nat} {L : Nat → Nat} {x : Nat → Nat → Int} (h : RowsAt N w v n L x) (hB : Below N w w') (hN : N ≤ N') : RowsAt N' w' v n L x :=
  ListAt.mono h hB hN (fun _ _ _ h => IntsAt.mono h hB hN)
theorem SortsAt.mono {N N' : Nat} {w w' : World} {v : Value} {n : Nat} {L : Nat → Nat} {M : Nat → Nat → Nat} {x : Nat → Nat → Nat → Int} (h : SortsAt N w v n L M x) (hB : Below N w w') (hN : N ≤ N') : SortsAt N' w' v n L M x :=
  ListAt.mono h hB hN (fun _ _ _ h => RowsAt.mono h hB hN)

theorem ret_bool {a b : Bool} (h : a = b) : Ending.returned (.bool a) = .returned (.bool b) := by rw [h]
theorem ret_int {k : IntKind} {a b : Int} (h : a = b) : Ending.returned (.int k a) = .returned (.int k b) := by rw [h]


theorem ret2_int {a b : Int} {c d : Int} (h : a = b) (k : c = d) : Ending.returned (.tuple #[.int .i64 a, .int .i64 c]) = .returned (.tuple #[.int .i64 b, .int .i64 d]) := by rw [h, k]

/-- so many i below n with p i -/
def cnt : Nat → (Nat → Bool) → Nat
  | 0, _ => 0
  | n + 1, p => cnt n p + (if p n then 1 else 0)
theorem cnt_le (n : Nat) (p : Nat → Bool) : cnt n p ≤ n := by
  induction n with
  | zero => simp [cnt]
  | succ n ih => simp only [cnt]; split <;> omega
theorem cnt_hit {n : Nat} {p : Nat → Bool} (h : p n = true) : cnt (n + 1) p = cnt n p + 1 := by simp [cnt, h]
theorem cnt_miss {n : Nat} {p : Nat → Bool} (h : p n = false) : cnt (n + 1) p = cnt n p := by simp [cnt, h]

theorem below_drewN {B : Nat} {a w : World} (h : Below B a w) (n : Nat) : Below B a (w.drewN n) := h.trans ⟨rfl, rfl, rfl, Nat.le_refl _, fun _ _ => rfl⟩
theorem below_alloc {N : Nat} {w : World} (h : N ≤ w.heap.size) (o : Obj) : Below N w (w.alloc o) := (Below.refl N w).alloc h o
theorem below2 {N : Nat} {w : World} (hN : N ≤ w.heap.size) (o o' : Obj) : Below N w ((w.alloc o).alloc o') := (below_alloc hN o).alloc (by simp; omega) o'
theorem step {n : Nat} {a b c : World} (h : Below n a b) (hn : n ≤ a.heap.size) (k : Below b.heap.size b c) : Below n a c :=
  h.trans (k.mono (Nat.le_trans hn h.size))
theorem allB_succ_false {n k : Nat} {p : Nat → Bool} (hk : k < n) (h : p k = false) : allB n p = false := allB_false.2 ⟨k, hk, h⟩

theorem IntsAt.len {N : Nat} {w : World} {v : Value} {n : Nat} {x : Nat → Int} (h : IntsAt N w v n x) : n ≤ 140737488351232 := by
  obtain ⟨_, _, _, hn, _⟩ := h; exact hn
theorem RowsAt.len {N : Nat} {w : World} {v : Value} {n : Nat} {L : Nat → Nat} {x : Nat → Nat → Int} (h : RowsAt N w v n L x) : n ≤ 140737488351232 := by
  obtain ⟨_, _, _, hn, _⟩ := h; exact hn

theorem IntsAt.go {N : Nat} {ws wk : World} {v : Value} {n : Nat} {x : Nat → Int} (h : IntsAt N ws v n x) (hN : N ≤ ws.heap.size) (k : Below ws.heap.size ws wk) : IntsAt N wk v n x := h.mono (k.mono hN) (Nat.le_refl _)
theorem RowsAt.go {N : Nat} {ws wk : World} {v : Value} {n : Nat} {L : Nat → Nat} {x : Nat → Nat → Int} (h : RowsAt N ws v n L x) (hN : N ≤ ws.heap.size) (k : Below ws.heap.size ws wk) : RowsAt N wk v n L x := h.mono (k.mono hN) (Nat.le_refl _)
theorem IntsAt.cells {N : Nat} {w : World} {a : Option Addr} {c m n : Nat} {x : Nat → Int} (h : IntsAt N w (.slice a m c) n x) (h0 : 0 < n) : ∃ b off, a = some ⟨b, off, none⟩ ∧ b < N ∧ ∀ i, i < n → w.cell? ⟨b, off + i, none⟩ = some (.int .i64 (x i)) := by
  obtain ⟨_, _, e, _, hc⟩ := h
  cases e
  obtain ⟨b, off, rfl, hb, hr⟩ := hc h0
  exact ⟨b, off, rfl, hb, fun i hi => by obtain ⟨r, h1, rfl⟩ := hr i hi; exact h1⟩
theorem RowsAt.cells {N : Nat} {w : World} {a : Option Addr} {c m n : Nat} {L : Nat → Nat} {x : Nat → Nat → Int} (h : RowsAt N w (.slice a m c) n L x) (h0 : 0 < n) : ∃ b off, a = some ⟨b, off, none⟩ ∧ b < N ∧ ∀ i, i < n → ∃ ai ci, w.cell? ⟨b, off + i, none⟩ = some (.slice ai (L i) ci) ∧ IntsAt N w (.slice ai (L i) ci) (L i) (x i) := by
  obtain ⟨_, _, e, _, hc⟩ := h
  cases e
  obtain ⟨b, off, rfl, hb, hr⟩ := hc h0
  exact ⟨b, off, rfl, hb, fun i hi => by obtain ⟨r, h1, h2⟩ := hr i hi; obtain ⟨ai, ci, rfl, h3⟩ := id h2; exact ⟨ai, ci, h1, h2⟩⟩

/-- v is a list of pairs of numbers -/
def PairsAt (N : Nat) (w : World) (v : Value) (n : Nat) (x y : Nat → Int) : Prop :=
  ∃ ao cap, v = .slice ao n cap ∧ n ≤ 140737488351232 ∧ n ≤ cap ∧ (0 < n → ∃ b off, ao = some ⟨b, off, none⟩ ∧ b < N ∧ ∀ i, i < n →
    w.cell? ⟨b, off + i * 2, none⟩ = some (.int .i64 (x i)) ∧ w.cell? ⟨b, off + i * 2 + 1, none⟩ = some (.int .i64 (y i)))
theorem PairsAt.mono {N N' : Nat} {w w' : World} {v : Value} {n : Nat} {x y : Nat → Int} (h : PairsAt N w v n x y) (hB : Below N w w') (hN : N ≤ N') : PairsAt N' w' v n x y := by
  obtain ⟨ao, cap, rfl, hn, hca, hc⟩ := h
  refine ⟨ao, cap, rfl, hn, hca, fun h0 => ?_⟩
  obtain ⟨b, off, rfl, hb, hr⟩ := hc h0
  refine ⟨b, off, rfl, by omega, fun i hi => ?_⟩
  obtain ⟨h1, h2⟩ := hr i hi
  exact ⟨(hB.cell (p := ⟨b, off + i * 2, none⟩) hb).trans h1, (hB.cell (p := ⟨b, off + i * 2 + 1, none⟩) hb).trans h2⟩
theorem PairsAt.go {N : Nat} {ws wk : World} {v : Value} {n : Nat} {x y : Nat → Int} (h : PairsAt N ws v n x y) (hN : N ≤ ws.heap.size) (k : Below ws.heap.size ws wk) : PairsAt N wk v n x y := h.mono (k.mono hN) (Nat.le_refl _)
theorem PairsAt.cells {N : Nat} {w : World} {a : Option Addr} {c m n : Nat} {x y : Nat → Int} (h : PairsAt N w (.slice a m c) n x y) (h0 : 0 < n) : ∃ b off, a = some ⟨b, off, none⟩ ∧ b < N ∧ ∀ i, i < n →
    w.cell? ⟨b, off + i * 2, none⟩ = some (.int .i64 (x i)) ∧ w.cell? ⟨b, off + i * 2 + 1, none⟩ = some (.int .i64 (y i)) := by
  obtain ⟨_, _, e, _, _, hc⟩ := h
  cases e
  exact hc h0
theorem PairsAt.len {N : Nat} {w : World} {v : Value} {n : Nat} {x y : Nat → Int} (h : PairsAt N w v n x y) : n ≤ 140737488351232 := by
  obtain ⟨_, _, _, hn, _⟩ := h; exact hn
theorem PairsAt.cap {N : Nat} {w : World} {a : Option Addr} {m c n : Nat} {x y : Nat → Int} (h : PairsAt N w (.slice a m c) n x y) : n ≤ c := by
  obtain ⟨_, _, e, _, hc, _⟩ := h; cases e; exact hc
theorem PairsAt.take {N : Nat} {w : World} {a : Option Addr} {m c n : Nat} {x y : Nat → Int} (h : PairsAt N w (.slice a m c) n x y) {k : Nat} (hk : k ≤ n) : PairsAt N w (.slice a k c) k x y := by
  obtain ⟨_, _, e, h1, h2, h3⟩ := h
  cases e
  refine ⟨_, _, rfl, by omega, by omega, fun h0 => ?_⟩
  obtain ⟨b, off, e, hb, hr⟩ := h3 (by omega)
  exact ⟨b, off, e, hb, fun i hi => hr i (by omega)⟩

def BookAt (N : Nat) (w : World) (v : Value) (B : SB) : Prop :=
  N ≤ w.heap.size ∧ ∃ a1 c1 a2 c2 a3 c3, v = .agg #[.slice a1 B.ns c1, .slice a2 B.ng c2, .slice a3 B.nw c3] ∧
    IntsAt N w (.slice a1 B.ns c1) B.ns B.C ∧ PairsAt N w (.slice a2 B.ng c2) B.ng B.P B.F ∧ PairsAt N w (.slice a3 B.nw c3) B.nw B.G B.S

theorem BookAt.mono {N N' : Nat} {w w' : World} {v : Value} {B : SB} (h : BookAt N w v B) (hB : Below N w w') (hN : N ≤ N') (hs : N' ≤ w'.heap.size) : BookAt N' w' v B := by
  obtain ⟨_, a1, c1, a2, c2, a3, c3, rfl, h1, h2, h3⟩ := h
  exact ⟨hs, a1, c1, a2, c2, a3, c3, rfl, h1.mono hB hN, h2.mono hB hN, h3.mono hB hN⟩
theorem BookAt.go {n : Nat} {ws wk : World} {v : Value} {B : SB} (h : BookAt n ws v B) (k : Below ws.heap.size ws wk) : BookAt n wk v B :=
  h.mono (k.mono h.1) (Nat.le_refl _) (Nat.le_trans h.1 k.size)
theorem BookAt.raise {n n' : Nat} {w : World} {v : Value} {B : SB} (h : BookAt n w v B) (hn : n ≤ n') (hs : n' ≤ w.heap.size) : BookAt n' w v B :=
  h.mono (Below.refl _ _) hn hs
theorem BookAt.in_alloc {N : Nat} {w : World} {v : Value} {B : SB} (h : BookAt N w v B) (o : Obj) : BookAt N (w.alloc o) v B :=
  h.mono (below_alloc h.1 o) (Nat.le_refl _) (by have := h.1; simp; omega)
theorem BookAt.form {N : Nat} {w : World} {v : Value} {B : SB} (h : BookAt N w v B) : ∃ a1 c1 a2 c2 a3 c3, v = .agg #[.slice a1 B.ns c1, .slice a2 B.ng c2, .slice a3 B.nw c3] := by
  obtain ⟨_, a1, c1, a2, c2, a3, c3, rfl, _⟩ := h; exact ⟨_, _, _, _, _, _, rfl⟩
theorem BookAt.scions {N : Nat} {w : World} {a1 : Option Addr} {c1 : Nat} {v2 v3 : Value} {n : Nat} {B : SB} (h : BookAt N w (.agg #[.slice a1 n c1, v2, v3]) B) : IntsAt N w (.slice a1 n c1) B.ns B.C := by
  obtain ⟨_, _, _, _, _, _, _, e, h1, _⟩ := h; cases e; exact h1
theorem BookAt.gardens {N : Nat} {w : World} {v1 v2 v3 : Value} {B : SB} (h : BookAt N w (.agg #[v1, v2, v3]) B) : PairsAt N w v2 B.ng B.P B.F := by
  obtain ⟨_, _, _, _, _, _, _, e, _, h2, _⟩ := h; cases e; exact h2
theorem BookAt.wants {N : Nat} {w : World} {v1 v2 v3 : Value} {B : SB} (h : BookAt N w (.agg #[v1, v2, v3]) B) : PairsAt N w v3 B.nw B.G B.S := by
  obtain ⟨_, _, _, _, _, _, _, e, _, _, h3⟩ := h; cases e; exact h3
theorem BookAt.lens {N : Nat} {w : World} {v : Value} {B : SB} (h : BookAt N w v B) : B.ns ≤ 140737488351232 ∧ B.ng ≤ 140737488351232 ∧ B.nw ≤ 140737488351232 := by
  obtain ⟨_, _, _, _, _, _, _, rfl, h1, h2, h3⟩ := h; exact ⟨h1.len, h2.len, h3.len⟩

theorem box1 (w : World) (o : Obj) : ∃ ws : World, w.alloc o = ws ∧ Hid (Below w.heap.size w ws) ∧ w.heap.size < ws.heap.size ∧ ws.heap[w.heap.size]? = some o :=
  ⟨_, rfl, below_alloc (Nat.le_refl _) _, by simp, World.alloc_heap_new _ _⟩
theorem box2 (w : World) (o o' : Obj) : ∃ ws : World, (w.alloc o).alloc o' = ws ∧ Hid (Below w.heap.size w ws) ∧ w.heap.size < ws.heap.size ∧ w.heap.size + 1 < ws.heap.size ∧ ws.heap[w.heap.size]? = some o ∧ ws.heap[w.heap.size + 1]? = some o' := by
  refine ⟨_, rfl, below2 (Nat.le_refl _) _ _, by simp; omega, by simp, ?_, ?_⟩
  · rw [Below.heap_alloc _ _ _ (by simp)]; exact World.alloc_heap_new _ _
  · have := World.alloc_heap_new (w.alloc o) o'
    rwa [World.size_alloc] at this
theorem bel {ws wj wk : World} (h : Below ws.heap.size ws wj) (k : Below wj.heap.size wj wk) : Below ws.heap.size ws wk := step h (Nat.le_refl _) k
theorem fin {w ws wk : World} (h : Below w.heap.size w ws) (k : Below ws.heap.size ws wk) : Below w.heap.size w wk := h.trans (k.mono h.size)
theorem cell_blk {W : World} {b : Nat} {cs : Array Value} {t : TypeId} (h : W.heap[b]? = some (.cells cs t)) (i : Nat) {x : Value} (hx : cs[i]? = some x) : W.cell? ⟨b, i, none⟩ = some x := by
  simp [World.cell?, h, hx]
theorem free_blk {W : World} {b : Nat} {cs : Array Value} {t : TypeId} (h : W.heap[b]? = some (.cells cs t)) (i : Nat) : W.frozen? ⟨b, i, none⟩ = false := by
  simp [World.frozen?, h]
theorem blk_set {W : World} {b : Nat} {cs : Array Value} {t : TypeId} (h : W.heap[b]? = some (.cells cs t)) (i : Nat) (v : Value) : (W.setCell ⟨b, i, none⟩ v).heap[b]? = some (.cells (cs.setIfInBounds i v) t) := by
  show (W.heap.modify b _)[b]? = _
  rw [Array.getElem?_modify]
  simp [h]
/-- three cells, stored one after another -/
theorem put3 {W : World} {b n : Nat} {x0 x1 x2 : Value} {t : TypeId} (h : W.heap[b]? = some (.cells #[x0, x1, x2] t)) (v0 v1 v2 : Value) (hn : n ≤ b) :
    ∃ W', ((W.setCell ⟨b, 0, none⟩ v0).setCell ⟨b, 1, none⟩ v1).setCell ⟨b, 2, none⟩ v2 = W' ∧ W'.heap[b]? = some (.cells #[v0, v1, v2] t) ∧ Below n W W' :=
  ⟨_, rfl, blk_set (blk_set (blk_set h 0 v0) 1 v1) 2 v2, (((Below.refl n W).setCell (p := ⟨b, 0, none⟩) hn v0).setCell (p := ⟨b, 1, none⟩) hn v1).setCell (p := ⟨b, 2, none⟩) hn v2⟩
theorem box_cell {w wr : World} {cs : Array Value} {t : TypeId} (hB : Below (w.heap.size + 1) (w.alloc (.cells cs t)) wr) (i : Nat) {x : Value} (hx : cs[i]? = some x) : wr.cell? ⟨w.heap.size, i, none⟩ = some x :=
  (hB.cell (p := ⟨w.heap.size, i, none⟩) (Nat.lt_succ_self _)).trans (by rw [World.cell?_alloc_new]; exact hx)

/-- all that was there below n is there still -/
def Old (n : Nat) (wr w' : World) : Prop := (∀ b o, b < n → w'.cell? ⟨b, o, none⟩ = wr.cell? ⟨b, o, none⟩) ∧ Hid (Below n wr w')
theorem old_of {n : Nat} {wr w' : World} (h : Below n wr w') : Old n wr w' := ⟨fun b o hb => h.cell (p := ⟨b, o, none⟩) hb, h⟩

theorem own_below {base : Nat} {e : TypeId} {size : Nat} {v : Value} {n : Nat} {xs : List Value} {w w' : World} (h : w.ownsRow base e size v n xs) (hB : Below w.heap.size w w') : w'.ownsRow base e size v n xs := by
  obtain ⟨h1, h2 | ⟨g, cap, cur, rfl, h3, h4, h5⟩⟩ := h
  · exact ⟨h1, .inl h2⟩
  · exact ⟨h1, .inr ⟨g, cap, cur, rfl, h3, (hB.block g (Array.getElem?_eq_some_iff.1 h4).1).trans h4, h5⟩⟩
theorem own_mono {base base' : Nat} {e : TypeId} {size : Nat} {v : Value} {n : Nat} {xs : List Value} {w : World} (h : w.ownsRow base e size v n xs) (hb : base' ≤ base) : w.ownsRow base' e size v n xs := by
  obtain ⟨h1, h2 | ⟨g, cap, cur, rfl, h3, h4, h5⟩⟩ := h
  · exact ⟨h1, .inl h2⟩
  · exact ⟨h1, .inr ⟨g, cap, cur, rfl, Nat.le_trans hb h3, h4, h5⟩⟩

/-- v is a list of its own (or nil), of the numbers l -/
def OwnI (N : Nat) (w : World) (v : Value) (l : List Int) : Prop := w.ownsRow N 3 1 v l.length (l.map (Value.int .i64))
theorem OwnI.ints {N : Nat} {w : World} {v : Value} {l : List Int} (h : OwnI N w v l) (hl : l.length ≤ 140737488351232) : IntsAt w.heap.size w v l.length (fun i => l.getD i 0) := by
  obtain ⟨h1, ⟨rfl, h2⟩ | ⟨g, cap, cur, rfl, h3, h4, h5, h6, h7, h8⟩⟩ := h
  · exact ⟨none, 0, by rw [h2], hl, fun h0 => by omega⟩
  · refine ⟨_, cap, rfl, hl, fun _ => ⟨g, 0, rfl, (Array.getElem?_eq_some_iff.1 h4).1, fun i hi => ⟨_, ?_, rfl⟩⟩⟩
    have hh := World.ownsRow.cells (w := w) (base := N) (e := 3) (size := 1) (v := .slice (some ⟨g, 0, none⟩) l.length cap) (n := l.length) (xs := l.map (Value.int .i64)) ⟨h1, .inr ⟨g, cap, cur, rfl, h3, h4, h5, h6, h7, h8⟩⟩ rfl i (.int .i64 (l.getD i 0)) (by
      rw [List.getElem?_map, List.getElem?_eq_getElem hi]; simp [List.getD, List.getElem?_eq_getElem hi])
    rw [show (⟨g, 0 + i, none⟩ : Addr) = (⟨g, 0, none⟩ : Addr).add i by simp [Addr.add]]
    exact hh
/-- a call that makes a list -/
def GivesI (N : Nat) (w : World) (l : List Int) (e : Ending) (w' : World) : Prop := ∃ v, e = .returned v ∧ OwnI N w' v l ∧ Below N w w'
/-- .. and an error -/
def GivesIE (N : Nat) (w : World) (l : List Int) (er : Int) (e : Ending) (w' : World) : Prop := ∃ v, e = .returned (.tuple #[v, .int .i64 er]) ∧ OwnI N w' v l ∧ Below N w w'

/-- the numbers below n with p -/
def sel (p : Nat → Bool) : Nat → List Int
  | 0 => []
  | k + 1 => if p k then sel p k ++ [(k : Int)] else sel p k
theorem sel_len (p : Nat → Bool) (k : Nat) : (sel p k).length ≤ k := by
  induction k with
  | zero => simp [sel]
  | succ k ih =>
    unfold sel; split
    · simp; omega
    · omega
theorem sel_hit {p : Nat → Bool} {k : Nat} (h : p k = true) : sel p (k + 1) = sel p k ++ [(k : Int)] := by simp [sel, h]
theorem sel_miss {p : Nat → Bool} {k : Nat} (h : p k = false) : sel p (k + 1) = sel p k := by simp [sel, h]

theorem Try.infoInt : (Try.prog.info? 3).map (fun i => (i.zero, i.size, i.bytes)) = some (some (.int .i64 0), 1, 8) := by kernel_rfl
theorem Try.infoInts : (Try.prog.info? 22).map (fun i => (i.zero, i.size, i.bytes)) = some (some (.slice none 0 0), 1, 24) := by kernel_rfl

set_option maxHeartbeats 400000 in
theorem within_any (a b c : Int) (w : World) :
    Calls Try.prog 77 #[.int .i64 a, .int .i64 b, .int .i64 c] w fun e w' => e = .returned (.bool (decide (b ≤ a) && decide (a ≤ c))) ∧ w' = w := by
  by_cases h1 : b ≤ a
  all_goals
    go_enter Try.func77, Try.ntmps77
    go_wp2
    go_ret
    exact ⟨ret_bool (by first | (simp [h1]; done) | (simp; omega)), rfl⟩

set_option maxHeartbeats 400000 in
theorem in_any (N : Nat) (v : Value) (n : Nat) (x : Nat → Int) (y : Int) (w : World) (h : IntsAt N w v n x) :
    Calls Try.prog 29 #[v, .int .i64 y] w fun e w' => e = .returned (.bool (anyB n fun i => decide (x i = y))) ∧ w' = w := by
  obtain ⟨ao, cap, rfl, hn, hc⟩ := h
  go_enter Try.func29, Try.ntmps29
  go_wp2
  go_loop [5] (fun i => ∃ k : Nat, k ≤ n ∧ i = .int .i64 k ∧ Hid (∀ j, j < k → x j ≠ y)) (fun i => n - (intOf i).toNat)
  case atStart => exact ⟨0, Nat.zero_le _, rfl, fun j hj => absurd hj (Nat.not_lt_zero j)⟩
  case round =>
    obtain ⟨k, hk, rfl, hj⟩ := hrel
    by_cases hkn : k < n
    · obtain ⟨b, off, rfl, _, hr⟩ := hc (by omega)
      obtain ⟨r, hcell, rfl⟩ := hr k hkn
      clear hr hc
      by_cases hxy : x k = y
      · have hb : (x k == y) = true := by simp [hxy]
        have H : Hid (x k = y) := hxy
        clear hxy
        go_wp2
        go_ret
        exact ⟨ret_bool (Eq.symm (anyB_true.2 ⟨k, hkn, by simp [H.out]⟩)), rfl⟩
      · have hb : (x k == y) = false := by simp [hxy]
        have H : Hid (x k ≠ y) := hxy
        clear hxy
        go_wp2
        go_round
        case rel => exact ⟨k + 1, by omega, by go_num, fun j hjk => by
          rcases Nat.lt_succ_iff_lt_or_eq.1 hjk with h | h
          · exact hj.out j h
          · rw [h]; exact H.out⟩
        case measure => simp [intOf]; omega
    · go_wp2
      go_ret
      exact ⟨ret_bool (Eq.symm (anyB_false.2 fun i hi => by simp [hj.out i (by omega)])), rfl⟩

/-- the same lists of numbers? -/
def sameI (n : Nat) (x : Nat → Int) (m : Nat) (y : Nat → Int) : Bool := decide (n = m) && allB n fun i => decide (x i = y i)

set_option maxHeartbeats 400000 in
theorem sameInts_any (N : Nat) (v u : Value) (n m : Nat) (x y : Nat → Int) (w : World) (h1 : IntsAt N w v n x) (h2 : IntsAt N w u m y) :
    Calls Try.prog 32 #[v, u] w fun e w' => e = .returned (.bool (sameI n x m y)) ∧ ∃ q, w' = w.drewN q := by
  obtain ⟨ao1, cap1, rfl, hn1, hc1⟩ := h1
  obtain ⟨ao2, cap2, rfl, hn2, hc2⟩ := h2
  by_cases hnm : n = m
  · subst hnm
    go_enter Try.func32, Try.ntmps32
    go_wp2
    go_loopw [5] (fun i wr => ∃ k : Nat, k ≤ n ∧ i = .int .i64 k ∧ Hid (∀ j, j < k → x j = y j) ∧ ∃ q, wr = w.drewN q) (fun i _ => n - (intOf i).toNat)
    case atStart => exact ⟨0, Nat.zero_le _, rfl, fun j hj => absurd hj (Nat.not_lt_zero j), 0, rfl⟩
    case round =>
      obtain ⟨k, hk, rfl, hj, q, rfl⟩ := hrel
      by_cases hkn : k < n
      · obtain ⟨b1, off1, rfl, _, hr1⟩ := hc1 (by omega)
        obtain ⟨r1, hcell1, rfl⟩ := hr1 k hkn
        obtain ⟨b2, off2, rfl, _, hr2⟩ := hc2 (by omega)
        obtain ⟨r2, hcell2, rfl⟩ := hr2 k hkn
        clear hr1 hr2 hc1 hc2
        by_cases hxy : x k = y k
        · have hb : (x k != y k) = false := by simp [hxy]
          have H : Hid (x k = y k) := hxy
          clear hxy
          go_wp2
          go_quiet (fail)
          go_wp2
          go_roundw
          case rel => exact ⟨k + 1, by omega, by go_num, fun j hjk => by
            rcases Nat.lt_succ_iff_lt_or_eq.1 hjk with h | h
            · exact hj.out j h
            · rw [h]; exact H.out, _, rfl⟩
          case measure => simp [intOf]; omega
        · have hb : (x k != y k) = true := by simp [hxy]
          have H : Hid (x k ≠ y k) := hxy
          clear hxy
          go_wp2
          go_quiet (fail)
          go_wp2
          go_ret
          exact ⟨ret_bool (Eq.symm (by simp only [sameI, decide_true, Bool.true_and]; exact allB_false.2 ⟨k, hkn, by simp [H.out]⟩)), _, World.drewN_drewN _ _ _⟩
      · go_wp2
        go_ret
        exact ⟨ret_bool (Eq.symm (by simp only [sameI, decide_true, Bool.true_and]; exact allB_true.2 fun i hi => by simp [hj.out i (by omega)])), _, rfl⟩
  · have hne : ((n : Int) != (m : Int)) = true := by simp; omega
    have H : Hid (n ≠ m) := hnm
    clear hnm
    go_enter Try.func32, Try.ntmps32
    go_wp2
    go_ret
    exact ⟨ret_bool (by simp [sameI, H.out]), 0, rfl⟩

set_option maxHeartbeats 400000 in
theorem rwithin_any (a b c : Int) (w : World) :
    Calls Try.prog 60 #[.int .i64 a, .int .i64 b, .int .i64 c] w fun e w' => e = .returned (.bool (decide (b ≤ a) && decide (a ≤ c))) ∧ w' = w := by
  go_enter Try.func60, Try.ntmps60
  go_wp2_with (go_at_call 77; refine (within_any _ _ _ _).mono ?_; rintro e w' ⟨rfl, rfl⟩)
  go_ret
  exact ⟨rfl, rfl⟩
theorem rwithin_eq (a b c : Int) (r : Bool) (w : World) (h : (decide (b ≤ a) && decide (a ≤ c)) = r) :
    Calls Try.prog 60 #[.int .i64 a, .int .i64 b, .int .i64 c] w fun e w' => e = .returned (.bool r) ∧ w' = w := by
  subst h; exact rwithin_any a b c w

set_option maxHeartbeats 400000 in
theorem kwithin_any (a b : Int) (w : World) :
    Calls Try.prog 62 #[.int .i64 a, .int .i64 b] w fun e w' => e = .returned (.bool (decide (0 ≤ a) && decide (a < b))) ∧ w' = w := by
  by_cases h1 : 0 ≤ a
  all_goals
    go_enter Try.func62, Try.ntmps62
    go_wp2
    go_ret
    exact ⟨ret_bool (by first | (simp [h1]; done) | (simp; omega)), rfl⟩
theorem kwithin_eq (a b : Int) (r : Bool) (w : World) (h : (decide (0 ≤ a) && decide (a < b)) = r) :
    Calls Try.prog 62 #[.int .i64 a, .int .i64 b] w fun e w' => e = .returned (.bool r) ∧ w' = w := by
  subst h; exact kwithin_any a b w

set_option maxHeartbeats 400000 in
theorem kupTo_any (a b : Int) (w : World) :
    Calls Try.prog 81 #[.int .i64 a, .int .i64 b] w fun e w' => e = .returned (.bool (decide (0 ≤ a) && decide (a ≤ b))) ∧ w' = w := by
  by_cases h1 : 0 ≤ a
  all_goals
    go_enter Try.func81, Try.ntmps81
    go_wp2
    go_ret
    exact ⟨ret_bool (by first | (simp [h1]; done) | (simp; omega)), rfl⟩
theorem kupTo_eq (a b : Int) (r : Bool) (w : World) (h : (decide (0 ≤ a) && decide (a ≤ b)) = r) :
    Calls Try.prog 81 #[.int .i64 a, .int .i64 b] w fun e w' => e = .returned (.bool r) ∧ w' = w := by
  subst h; exact kupTo_any a b w

/-- only draws -/
def Drawn (w w' : World) : Prop := ∃ q, w' = w.drewN q
theorem Drawn.refl (w : World) : Drawn w w := ⟨0, rfl⟩
theorem Drawn.more {w w' : World} (h : Drawn w w') (n : Nat) : Drawn w (w'.drewN n) := by
  obtain ⟨q, rfl⟩ := h; exact ⟨_, World.drewN_drewN _ _ _⟩
theorem Drawn.cell {w w' : World} (h : Drawn w w') {a : Addr} {o : Option Value} (hc : w.cell? a = o) : w'.cell? a = o := by
  obtain ⟨q, rfl⟩ := h; exact hc
theorem Drawn.below {w w' : World} (h : Drawn w w') (N : Nat) : Below N w w' := by
  obtain ⟨q, rfl⟩ := h; exact below_drewN (Below.refl _ _) q

end Go.Proofs.Ytnnngbnimmcjiaa
