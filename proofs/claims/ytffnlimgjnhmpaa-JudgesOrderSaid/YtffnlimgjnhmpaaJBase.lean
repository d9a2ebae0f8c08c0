/-
  Base: how lists of numbers and plates lie in a world; shows; what was made.
-/
import Derived.Test.YtffnlimgjnhmpaaProg
import Derived.Test.YtffnlimgjnhmpaaJWord
import Derived.WalkKit
import Derived.WalkSpells
import Derived.WalkLawsBesides
import Derived.Lib.Hide
import Derived.BigQuiet
import Derived.Deep.QuietTactic
import Derived.Deep.RegionHeld3
import Derived.IntWalk
import Derived.RangeFuncNested
import Derived.RegionTactic
import Derived.ChangeAlike
import Derived.Maps.AppendAt
namespace Go.Proofs.Ytffnlimgjnhmpaa
open Go.RowKit

/-- v is a list of n elements, whose cells lie below block N; the i-th one is r with E i r. -/
def ListAt (N : Nat) (w : World) (E : Nat → Value → Prop) (v : Value) (n : Nat) : Prop :=
  ∃ ao cap, v = .slice ao n cap ∧ n ≤ 140737488351232 ∧ (0 < n → ∃ b off, ao = some ⟨b, off, none⟩ ∧ b < N ∧ ∀ i, i < n → ∃ r, w.cell? ⟨b, off + i, none⟩ = some r ∧ E i r)

def IntsAt (N : Nat) (w : World) (v : Value) (n : Nat) (x : Nat → Int) : Prop := ListAt N w (fun i r => r = .int .i64 (x i)) v n

def RowsAt (N : Nat) (w : World) (v : Value) (n : Nat) (L : Nat → Nat) (x : Nat → Nat → Int) : Prop := ListAt N w (fun i r => IntsAt N w r (L i) (x i)) v n

def SortsAt (N : Nat) (w : World) (v : Value) (n : Nat) (L : Nat → Nat) (M : Nat → Nat → Nat) (x : Nat → Nat → Nat → Int) : Prop := ListAt N w (fun i r => RowsAt N w r (L i) (M i) (x i)) v n

theorem ListAt.mono {N N' : Nat} {w w' : World} {E E' : Nat → Value → Prop} {v : Value} {n : Nat} (h : ListAt N w E v n) (hB : Below N w w') (hN : N ≤ N') (hE : ∀ i r, i < n → E i r → E' i r) : ListAt N' w' E' v n := by
  obtain ⟨ao, cap, rfl, hn, hc⟩ := h
  refine ⟨ao, cap, rfl, hn, fun h0 => ?_⟩
  obtain ⟨b, off, rfl, hb, hr⟩ := hc h0
  refine ⟨b, off, rfl, by omega, fun i hi => ?_⟩
  obtain ⟨r, h1, h2⟩ := hr i hi
  exact ⟨r, (hB.cell (p := ⟨b, off + i, none⟩) hb).trans h1, hE i r hi h2⟩

theorem IntsAt.mono {N N' : Nat} {w w' : World} {v : Value} {n : Nat} {x : Nat → Int} (h : IntsAt N w v n x) (hB : Below N w w') (hN : N ≤ N') : IntsAt N' w' v n x :=
  ListAt.mono h hB hN (fun _ _ _ h => h)
theorem RowsAt.mono {N N' : Nat} {w w' : World} {v : Value} {n : Nat} {L : Nat → Nat} {x : Nat → Nat → Int} (h : RowsAt N w v n L x) (hB : Below N w w') (hN : N ≤ N') : RowsAt N' w' v n L x :=
  ListAt.mono h hB hN (fun _ _ _ h => IntsAt.mono h hB hN)
theorem SortsAt.mono {N N' : Nat} {w w' : World} {v : Value} {n : Nat} {L : Nat → Nat} {M : Nat → Nat → Nat} {x : Nat → Nat → Nat → Int} (h : SortsAt N w v n L M x) (hB : Below N w w') (hN : N ≤ N') : SortsAt N' w' v n L M x :=
  ListAt.mono h hB hN (fun _ _ _ h => RowsAt.mono h hB hN)

theorem ret_bool {a b : Bool} (h : a = b) : Ending.returned (.bool a) = .returned (.bool b) := by rw [h]
theorem ret_int {k : IntKind} {a b : Int} (h : a = b) : Ending.returned (.int k a) = .returned (.int k b) := by rw [h]


theorem ret2_int {a b : Int} {c d : Int} (h : a = b) (k : c = d) : Ending.returned (.tuple #[.int .i64 a, .int .i64 c]) = .returned (.tuple #[.int .i64 b, .int .i64 d]) := by rw [h, k]

theorem below_drewN {B : Nat} {a w : World} (h : Below B a w) (n : Nat) : Below B a (w.drewN n) := h.trans ⟨rfl, rfl, rfl, Nat.le_refl _, fun _ _ => rfl⟩
theorem below_alloc {N : Nat} {w : World} (h : N ≤ w.heap.size) (o : Obj) : Below N w (w.alloc o) := (Below.refl N w).alloc h o
theorem below2 {N : Nat} {w : World} (hN : N ≤ w.heap.size) (o o' : Obj) : Below N w ((w.alloc o).alloc o') := (below_alloc hN o).alloc (by simp; omega) o'
theorem step {n : Nat} {a b c : World} (h : Below n a b) (hn : n ≤ a.heap.size) (k : Below b.heap.size b c) : Below n a c :=
  h.trans (k.mono (Nat.le_trans hn h.size))
theorem allB_succ_false {n k : Nat} {p : Nat → Bool} (hk : k < n) (h : p k = false) : allB n p = false := allB_false.2 ⟨k, hk, h⟩

theorem IntsAt.len {N : Nat} {w : World} {v : Value} {n : Nat} {x : Nat → Int} (h : IntsAt N w v n x) : n ≤ 140737488351232 := by
  obtain ⟨_, _, _, hn, _⟩ := h; exact hn
theorem RowsAt.len {N : Nat} {w : World} {v : Value} {n : Nat} {L : Nat → Nat} {x : Nat → Nat → Int} (h : RowsAt N w v n L x) : n ≤ 140737488351232 := by
  obtain ⟨_, _, _, hn, _⟩ := h; exact hn

theorem IntsAt.go {N : Nat} {ws wk : World} {v : Value} {n : Nat} {x : Nat → Int} (h : IntsAt N ws v n x) (hN : N ≤ ws.heap.size) (k : Below ws.heap.size ws wk) : IntsAt N wk v n x := h.mono (k.mono hN) (Nat.le_refl _)
theorem RowsAt.go {N : Nat} {ws wk : World} {v : Value} {n : Nat} {L : Nat → Nat} {x : Nat → Nat → Int} (h : RowsAt N ws v n L x) (hN : N ≤ ws.heap.size) (k : Below ws.heap.size ws wk) : RowsAt N wk v n L x := h.mono (k.mono hN) (Nat.le_refl _)
theorem IntsAt.cells {N : Nat} {w : World} {a : Option Addr} {c m n : Nat} {x : Nat → Int} (h : IntsAt N w (.slice a m c) n x) (h0 : 0 < n) : ∃ b off, a = some ⟨b, off, none⟩ ∧ b < N ∧ ∀ i, i < n → w.cell? ⟨b, off + i, none⟩ = some (.int .i64 (x i)) := by
  obtain ⟨_, _, e, _, hc⟩ := h
  cases e
  obtain ⟨b, off, rfl, hb, hr⟩ := hc h0
  exact ⟨b, off, rfl, hb, fun i hi => by obtain ⟨r, h1, rfl⟩ := hr i hi; exact h1⟩
theorem RowsAt.cells {N : Nat} {w : World} {a : Option Addr} {c m n : Nat} {L : Nat → Nat} {x : Nat → Nat → Int} (h : RowsAt N w (.slice a m c) n L x) (h0 : 0 < n) : ∃ b off, a = some ⟨b, off, none⟩ ∧ b < N ∧ ∀ i, i < n → ∃ ai ci, w.cell? ⟨b, off + i, none⟩ = some (.slice ai (L i) ci) ∧ IntsAt N w (.slice ai (L i) ci) (L i) (x i) := by
  obtain ⟨_, _, e, _, hc⟩ := h
  cases e
  obtain ⟨b, off, rfl, hb, hr⟩ := hc h0
  exact ⟨b, off, rfl, hb, fun i hi => by obtain ⟨r, h1, h2⟩ := hr i hi; obtain ⟨ai, ci, rfl, h3⟩ := id h2; exact ⟨ai, ci, h1, h2⟩⟩

/-- v are the plates of a show -/
def PlatesAt (N : Nat) (w : World) (v : Value) (S : JB) : Prop :=
  ∃ ao cap, v = .slice ao S.np cap ∧ S.np ≤ 140737488351232 ∧ S.np ≤ cap ∧ (0 < S.np → ∃ b off, ao = some ⟨b, off, none⟩ ∧ b < N ∧ ∀ i, i < S.np →
    w.cell? ⟨b, off + i * 2, none⟩ = some (.int .i64 (S.sz i)) ∧ ∃ a c, w.cell? ⟨b, off + i * 2 + 1, none⟩ = some (.slice a (S.pts i).length c) ∧ (S.pts i).length ≤ c ∧ IntsAt N w (.slice a (S.pts i).length c) (S.pts i).length (fun k => (S.pts i).getD k 0))
theorem PlatesAt.mono {N N' : Nat} {w w' : World} {v : Value} {S : JB} (h : PlatesAt N w v S) (hB : Below N w w') (hN : N ≤ N') : PlatesAt N' w' v S := by
  obtain ⟨ao, cap, rfl, hn, hca, hc⟩ := h
  refine ⟨ao, cap, rfl, hn, hca, fun h0 => ?_⟩
  obtain ⟨b, off, rfl, hb, hr⟩ := hc h0
  refine ⟨b, off, rfl, by omega, fun i hi => ?_⟩
  obtain ⟨h1, a, c, h2, h3, h4⟩ := hr i hi
  exact ⟨(hB.cell (p := ⟨b, off + i * 2, none⟩) hb).trans h1, a, c, (hB.cell (p := ⟨b, off + i * 2 + 1, none⟩) hb).trans h2, h3, h4.mono hB hN⟩
theorem PlatesAt.cells {N : Nat} {w : World} {a : Option Addr} {c m : Nat} {S : JB} (h : PlatesAt N w (.slice a m c) S) (h0 : 0 < S.np) : ∃ b off, a = some ⟨b, off, none⟩ ∧ b < N ∧ ∀ i, i < S.np →
    w.cell? ⟨b, off + i * 2, none⟩ = some (.int .i64 (S.sz i)) ∧ ∃ a c, w.cell? ⟨b, off + i * 2 + 1, none⟩ = some (.slice a (S.pts i).length c) ∧ (S.pts i).length ≤ c ∧ IntsAt N w (.slice a (S.pts i).length c) (S.pts i).length (fun k => (S.pts i).getD k 0) := by
  obtain ⟨_, _, e, _, _, hc⟩ := h
  cases e
  exact hc h0
def ShowAt (N : Nat) (w : World) (v : Value) (S : JB) : Prop :=
  N ≤ w.heap.size ∧ ∃ ap cp, v = .agg #[.int .i64 S.J, .int .i64 S.D, .int .i64 S.Z, .slice ap S.np cp] ∧ PlatesAt N w (.slice ap S.np cp) S
theorem ShowAt.mono {N N' : Nat} {w w' : World} {v : Value} {S : JB} (h : ShowAt N w v S) (hB : Below N w w') (hN : N ≤ N') (hs : N' ≤ w'.heap.size) : ShowAt N' w' v S := by
  obtain ⟨_, ap, cp, rfl, h1⟩ := h
  exact ⟨hs, ap, cp, rfl, h1.mono hB hN⟩
theorem ShowAt.go {n : Nat} {ws wk : World} {v : Value} {S : JB} (h : ShowAt n ws v S) (k : Below ws.heap.size ws wk) : ShowAt n wk v S :=
  h.mono (k.mono h.1) (Nat.le_refl _) (Nat.le_trans h.1 k.size)
theorem ShowAt.form {N : Nat} {w : World} {v : Value} {S : JB} (h : ShowAt N w v S) : ∃ ap cp, v = .agg #[.int .i64 S.J, .int .i64 S.D, .int .i64 S.Z, .slice ap S.np cp] := by
  obtain ⟨_, ap, cp, rfl, _⟩ := h; exact ⟨_, _, rfl⟩
theorem ShowAt.plates {N : Nat} {w : World} {v0 v1 v2 v3 : Value} {S : JB} (h : ShowAt N w (.agg #[v0, v1, v2, v3]) S) : PlatesAt N w v3 S := by
  obtain ⟨_, _, _, e, h3⟩ := h; cases e; exact h3
theorem ShowAt.len {N : Nat} {w : World} {v : Value} {S : JB} (h : ShowAt N w v S) : S.np ≤ 140737488351232 := by
  obtain ⟨_, _, _, rfl, _, _, _, hn, _⟩ := h; exact hn

theorem box1 (w : World) (o : Obj) : ∃ ws : World, w.alloc o = ws ∧ Hid (Below w.heap.size w ws) ∧ w.heap.size < ws.heap.size ∧ ws.heap[w.heap.size]? = some o :=
  ⟨_, rfl, below_alloc (Nat.le_refl _) _, by simp, World.alloc_heap_new _ _⟩
theorem box2 (w : World) (o o' : Obj) : ∃ ws : World, (w.alloc o).alloc o' = ws ∧ Hid (Below w.heap.size w ws) ∧ w.heap.size < ws.heap.size ∧ w.heap.size + 1 < ws.heap.size ∧ ws.heap[w.heap.size]? = some o ∧ ws.heap[w.heap.size + 1]? = some o' := by
  refine ⟨_, rfl, below2 (Nat.le_refl _) _ _, by simp; omega, by simp, ?_, ?_⟩
  · rw [Below.heap_alloc _ _ _ (by simp)]; exact World.alloc_heap_new _ _
  · have := World.alloc_heap_new (w.alloc o) o'
    rwa [World.size_alloc] at this
theorem bel {ws wj wk : World} (h : Below ws.heap.size ws wj) (k : Below wj.heap.size wj wk) : Below ws.heap.size ws wk := step h (Nat.le_refl _) k
theorem fin {w ws wk : World} (h : Below w.heap.size w ws) (k : Below ws.heap.size ws wk) : Below w.heap.size w wk := h.trans (k.mono h.size)
theorem cell_blk {W : World} {b : Nat} {cs : Array Value} {t : TypeId} (h : W.heap[b]? = some (.cells cs t)) (i : Nat) {x : Value} (hx : cs[i]? = some x) : W.cell? ⟨b, i, none⟩ = some x := by
  simp [World.cell?, h, hx]
theorem free_blk {W : World} {b : Nat} {cs : Array Value} {t : TypeId} (h : W.heap[b]? = some (.cells cs t)) (i : Nat) : W.frozen? ⟨b, i, none⟩ = false := by
  simp [World.frozen?, h]
theorem blk_set {W : World} {b : Nat} {cs : Array Value} {t : TypeId} (h : W.heap[b]? = some (.cells cs t)) (i : Nat) (v : Value) : (W.setCell ⟨b, i, none⟩ v).heap[b]? = some (.cells (cs.setIfInBounds i v) t) := by
  show (W.heap.modify b _)[b]? = _
  rw [Array.getElem?_modify]
  simp [h]
/-- three cells, stored one after another -/
theorem put3 {W : World} {b n : Nat} {x0 x1 x2 : Value} {t : TypeId} (h : W.heap[b]? = some (.cells #[x0, x1, x2] t)) (v0 v1 v2 : Value) (hn : n ≤ b) :
    ∃ W', ((W.setCell ⟨b, 0, none⟩ v0).setCell ⟨b, 1, none⟩ v1).setCell ⟨b, 2, none⟩ v2 = W' ∧ W'.heap[b]? = some (.cells #[v0, v1, v2] t) ∧ Below n W W' :=
  ⟨_, rfl, blk_set (blk_set (blk_set h 0 v0) 1 v1) 2 v2, (((Below.refl n W).setCell (p := ⟨b, 0, none⟩) hn v0).setCell (p := ⟨b, 1, none⟩) hn v1).setCell (p := ⟨b, 2, none⟩) hn v2⟩
theorem box_cell {w wr : World} {cs : Array Value} {t : TypeId} (hB : Below (w.heap.size + 1) (w.alloc (.cells cs t)) wr) (i : Nat) {x : Value} (hx : cs[i]? = some x) : wr.cell? ⟨w.heap.size, i, none⟩ = some x :=
  (hB.cell (p := ⟨w.heap.size, i, none⟩) (Nat.lt_succ_self _)).trans (by rw [World.cell?_alloc_new]; exact hx)

/-- all that was there below n is there still -/
def Old (n : Nat) (wr w' : World) : Prop := (∀ b o, b < n → w'.cell? ⟨b, o, none⟩ = wr.cell? ⟨b, o, none⟩) ∧ Hid (Below n wr w')
theorem old_of {n : Nat} {wr w' : World} (h : Below n wr w') : Old n wr w' := ⟨fun b o hb => h.cell (p := ⟨b, o, none⟩) hb, h⟩

theorem own_below {base : Nat} {e : TypeId} {size : Nat} {v : Value} {n : Nat} {xs : List Value} {w w' : World} (h : w.ownsRow base e size v n xs) (hB : Below w.heap.size w w') : w'.ownsRow base e size v n xs := by
  obtain ⟨h1, h2 | ⟨g, cap, cur, rfl, h3, h4, h5⟩⟩ := h
  · exact ⟨h1, .inl h2⟩
  · exact ⟨h1, .inr ⟨g, cap, cur, rfl, h3, (hB.block g (Array.getElem?_eq_some_iff.1 h4).1).trans h4, h5⟩⟩
theorem own_mono {base base' : Nat} {e : TypeId} {size : Nat} {v : Value} {n : Nat} {xs : List Value} {w : World} (h : w.ownsRow base e size v n xs) (hb : base' ≤ base) : w.ownsRow base' e size v n xs := by
  obtain ⟨h1, h2 | ⟨g, cap, cur, rfl, h3, h4, h5⟩⟩ := h
  · exact ⟨h1, .inl h2⟩
  · exact ⟨h1, .inr ⟨g, cap, cur, rfl, Nat.le_trans hb h3, h4, h5⟩⟩

/-- v is a list of its own (or nil), of the numbers l -/
def OwnI (N : Nat) (w : World) (v : Value) (l : List Int) : Prop := w.ownsRow N 3 1 v l.length (l.map (Value.int .i64))
theorem OwnI.ints {N : Nat} {w : World} {v : Value} {l : List Int} (h : OwnI N w v l) (hl : l.length ≤ 140737488351232) : IntsAt w.heap.size w v l.length (fun i => l.getD i 0) := by
  obtain ⟨h1, ⟨rfl, h2⟩ | ⟨g, cap, cur, rfl, h3, h4, h5, h6, h7, h8⟩⟩ := h
  · exact ⟨none, 0, by rw [h2], hl, fun h0 => by omega⟩
  · refine ⟨_, cap, rfl, hl, fun _ => ⟨g, 0, rfl, (Array.getElem?_eq_some_iff.1 h4).1, fun i hi => ⟨_, ?_, rfl⟩⟩⟩
    have hh := World.ownsRow.cells (w := w) (base := N) (e := 3) (size := 1) (v := .slice (some ⟨g, 0, none⟩) l.length cap) (n := l.length) (xs := l.map (Value.int .i64)) ⟨h1, .inr ⟨g, cap, cur, rfl, h3, h4, h5, h6, h7, h8⟩⟩ rfl i (.int .i64 (l.getD i 0)) (by
      rw [List.getElem?_map, List.getElem?_eq_getElem hi]; simp [List.getD, List.getElem?_eq_getElem hi])
    rw [show (⟨g, 0 + i, none⟩ : Addr) = (⟨g, 0, none⟩ : Addr).add i by simp [Addr.add]]
    exact hh
/-- a call that makes a list -/
def GivesI (N : Nat) (w : World) (l : List Int) (e : Ending) (w' : World) : Prop := ∃ v, e = .returned v ∧ OwnI N w' v l ∧ Below N w w'
/-- .. and an error -/
def GivesIE (N : Nat) (w : World) (l : List Int) (er : Int) (e : Ending) (w' : World) : Prop := ∃ v, e = .returned (.tuple #[v, .int .i64 er]) ∧ OwnI N w' v l ∧ Below N w w'

theorem Try.infoInt : (Try.prog.info? 3).map (fun i => (i.zero, i.size, i.bytes)) = some (some (.int .i64 0), 1, 8) := by kernel_rfl
theorem Try.infoInts : (Try.prog.info? 25).map (fun i => (i.zero, i.size, i.bytes)) = some (some (.slice none 0 0), 1, 24) := by kernel_rfl

/-- only draws -/
def Drawn (w w' : World) : Prop := ∃ q, w' = w.drewN q
theorem Drawn.refl (w : World) : Drawn w w := ⟨0, rfl⟩
theorem Drawn.more {w w' : World} (h : Drawn w w') (n : Nat) : Drawn w (w'.drewN n) := by
  obtain ⟨q, rfl⟩ := h; exact ⟨_, World.drewN_drewN _ _ _⟩
theorem Drawn.cell {w w' : World} (h : Drawn w w') {a : Addr} {o : Option Value} (hc : w.cell? a = o) : w'.cell? a = o := by
  obtain ⟨q, rfl⟩ := h; exact hc
theorem Drawn.below {w w' : World} (h : Drawn w w') (N : Nat) : Below N w w' := by
  obtain ⟨q, rfl⟩ := h; exact below_drewN (Below.refl _ _) q

end Go.Proofs.Ytffnlimgjnhmpaa
