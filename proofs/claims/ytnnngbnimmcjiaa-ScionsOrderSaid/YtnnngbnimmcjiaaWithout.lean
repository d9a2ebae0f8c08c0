/-
  Without: the nursery without the wants of a garden, and with one place more.
-/
import Derived.Test.YtnnngbnimmcjiaaDel2
namespace Go.Proofs.Ytnnngbnimmcjiaa
open Go.RowKit

/-- without the wants of a garden -/
def delB (B : SB) (d : Int) : SB := { B with nw := (keptL B.G d B.nw).length, G := fun i => B.G ((keptL B.G d B.nw).getD i 0), S := fun i => B.S ((keptL B.G d B.nw).getD i 0) }
/-- with one place more -/
def plusB (B : SB) (k : Nat) : SB := { B with P := fun i => if i = k then B.P i + 1 else B.P i }

theorem delB_good {B : SB} {p : Nat} (h : GoodL B p) (d : Int) : GoodL (delB B d) p := by
  have hl := keptL_len B.G d B.nw
  have hm : ∀ i, i < (keptL B.G d B.nw).length → (keptL B.G d B.nw).getD i 0 < B.nw := fun i hi => by
    have e : (keptL B.G d B.nw).getD i 0 = (keptL B.G d B.nw)[i] := by simp [List.getD, List.getElem?_eq_getElem hi]
    rw [e]
    exact (keptL_lt _ _ _ _ (List.getElem_mem hi)).1
  have hs : ∀ n, (keptL B.G d n).Pairwise (· < ·) := by
    intro n
    induction n with
    | zero => exact List.Pairwise.nil
    | succ n ih =>
      unfold keptL
      split
      · exact ih
      · exact List.pairwise_append.2 ⟨ih, List.pairwise_singleton _ _, fun a ha b hb => by rw [List.mem_singleton.1 hb]; exact (keptL_lt _ _ _ _ ha).1⟩
  refine ⟨h.ns, h.ng, by have := h.nw; show (keptL B.G d B.nw).length ≤ 12; omega, h.C, h.P, h.F, fun i hi => h.G _ (hm i hi), fun i hi => h.S _ (hm i hi), fun i k hi hk => ?_⟩
  refine h.once _ _ (hm i hi) ?_
  have hi' : i < (keptL B.G d B.nw).length := hi
  have e1 : (keptL B.G d B.nw).getD i 0 = (keptL B.G d B.nw)[i] := by simp [List.getD, List.getElem?_eq_getElem hi']
  have e2 : (keptL B.G d B.nw).getD k 0 = (keptL B.G d B.nw)[k]'(by omega) := by simp [List.getD, List.getElem?_eq_getElem (show k < (keptL B.G d B.nw).length by omega)]
  rw [e1, e2]
  exact List.pairwise_iff_getElem.1 (hs B.nw) k i (by omega) hi' hk
theorem plusB_good {B : SB} {p : Nat} (h : GoodL B p) (k : Nat) : GoodL (plusB B k) (p + 1) := by
  refine ⟨h.ns, h.ng, h.nw, h.C, fun i hi => ?_, h.F, h.G, h.S, h.once⟩
  have := h.P i hi
  show 0 ≤ (if i = k then B.P i + 1 else B.P i) ∧ (if i = k then B.P i + 1 else B.P i) ≤ ((p + 1 : Nat) : Int)
  split <;> omega

theorem put3o {W : World} {b : Nat} {x0 x1 x2 : Value} {t : TypeId} (h : W.heap[b]? = some (.cells #[x0, x1, x2] t)) (v0 v1 v2 : Value) :
    ∃ W', ((W.setCell ⟨b, 0, none⟩ v0).setCell ⟨b, 1, none⟩ v1).setCell ⟨b, 2, none⟩ v2 = W' ∧ W'.heap[b]? = some (.cells #[v0, v1, v2] t) ∧ (∀ k, k ≠ b → W'.heap[k]? = W.heap[k]?) ∧ Below b W W' := by
  have e : ∀ (A : World) (i : Nat) (v : Value) k, k ≠ b → (A.setCell ⟨b, i, none⟩ v).heap[k]? = A.heap[k]? := fun A i v k hk => by
    show (A.heap.modify b _)[k]? = _
    rw [Array.getElem?_modify, if_neg (fun e => hk e.symm)]
  obtain ⟨W', h1, h2, h3⟩ := put3 (n := b) h v0 v1 v2 (Nat.le_refl _)
  exact ⟨W', h1, h2, fun k hk => by rw [← h1, e _ _ _ k hk, e _ _ _ k hk, e _ _ _ k hk], h3⟩
theorem resN {fn : Func} {p : Tmp} (hf : fn.results = #[.cell p 62]) {tmps : Array Value} {W : World} {g : Nat} {t : TypeId} {y0 y1 y2 : Value} (hp : tmps.getD p undef = .pointer (some ⟨g, 0, none⟩))
    (h : W.heap[g]? = some (.cells #[y0, y1, y2] t)) : (results fn tmps).run Try.prog W = .ok (.agg #[y0, y1, y2]) W :=
  results_cell_row hf tmps W g t #[y0, y1, y2] (0, 0) _ hp h Try.underlying62 rfl (by kernel_rfl)

set_option maxRecDepth 100000 in
set_option maxHeartbeats 3200000 in
theorem without_any (N : Nat) (v : Value) (B : SB) (p : Nat) (d : Int) (w : World) (h : BookAt N w v B) (hG : GoodL B p) :
    Calls Try.prog 79 #[v, .int .i64 d] w fun e w' => (∃ v', e = .returned v' ∧ BookAt w'.heap.size w' v' (delB B d)) ∧ Below w.heap.size w w' := by
  obtain ⟨a1, z1, a2, z2, a3, z3, rfl⟩ := h.form
  obtain ⟨ws, hws, HB, hsz, k0, k1, k2⟩ := allocs3 w (.cells #[.slice a1 B.ns z1, .slice a2 B.ng z2, .slice a3 B.nw z3] 62) (.cells #[.int .i64 d] 3) (.cells #[.slice none 0 0, .slice none 0 0, .slice none 0 0] 62)
  have q0 := cell_blk k0 0 rfl
  have q1 := cell_blk k0 1 rfl
  have q2 := cell_blk k0 2 rfl
  have HBK := Lib.hid (h.go HB.out)
  have HBO := Lib.hid h
  have hnw := hG.nw
  have hNw := h.1
  have hN : N ≤ ws.heap.size := HBK.out.1
  have hsz0 : w.heap.size + 1 + 1 < ws.heap.size := by omega
  have K0 := Lib.hid k0
  have K1 := Lib.hid k1
  have K2 := Lib.hid k2
  have HC := Lib.hid (cloneW_any N _ B.nw B.G B.S ws HBK.out.wants hN (by omega))
  clear k0 k1 k2 hsz h hG
  go_enter Try.func79, Try.ntmps79
  go_wp2_with (first
    | (go_at_call 90; refine HC.out.mono ?_; clear HC; rintro e w1 ⟨⟨v1, rfl, hpb⟩, hb1⟩; have HPB := Lib.hid hpb; have HB1 := Lib.hid hb1; clear hpb hb1)
    | (go_at_call 89; refine (deleteFunc_any ws.heap.size (w.heap.size + 1) v1 B.nw B.G B.S d w1 HPB.out (by omega) (cell_blk ((HB1.out.block _ (by omega)).trans K1.out) 0 rfl) (by omega) HB1.out.size).mono ?_; rintro e w2 ⟨⟨v2, rfl, hpr⟩, hb2⟩; obtain ⟨av, cv, rfl, _, _⟩ := id hpr; have HPR := Lib.hid hpr; have HB2 := Lib.hid (HB1.out.trans hb2); have hz := (HB2.out.block w.heap.size (by omega)).trans K0.out; have r0 := cell_blk hz 0 rfl; have r1 := cell_blk hz 1 rfl; have r2 := cell_blk hz 2 rfl; have f2 := free_blk hz 2; have HZ := Lib.hid hz; have hy := (HB2.out.block (w.heap.size + 1 + 1) (by omega)).trans K2.out; have y0 := cell_blk hy 0 rfl; have y1 := cell_blk hy 1 rfl; have y2 := cell_blk hy 2 rfl; have g0 := free_blk hy 0; have g1 := free_blk hy 1; have g2 := free_blk hy 2; have HY := Lib.hid hy; clear hy hz hpr hb2))
  obtain ⟨w3, hw3, hg3, ho3, hb3⟩ := set_step (n := w.heap.size) (W0 := w2) HZ.out (fun _ _ => rfl) 2 (.slice av (keptL B.G d B.nw).length cv) (Nat.le_refl _)
  rw [hw3]
  obtain ⟨w4, hw4, hg4, ho4, hb4⟩ := put3o ((ho3 _ (by omega)).trans HY.out) (.slice a1 B.ns z1) (.slice a2 B.ng z2) (.slice av (keptL B.G d B.nw).length cv)
  rw [hw4]
  refine bodyPost_ret (v := .agg #[.slice a1 B.ns z1, .slice a2 B.ng z2, .slice av (keptL B.G d B.nw).length cv]) (resN rfl rfl hg4) rfl ?_
  have hB3 : Below w.heap.size w w3 := (fin HB.out HB2.out).trans hb3
  have hB4 : Below w.heap.size w w4 := hB3.trans (hb4.mono (by omega))
  refine ⟨⟨_, rfl, ?_⟩, hB4⟩
  have hB := HBO.out.mono (hB4.mono hNw) (Nat.le_refl _) (Nat.le_trans hNw hB4.size)
  have hs24 : w2.heap.size ≤ w4.heap.size := Nat.le_trans hb3.size hb4.size
  obtain ⟨_, _, e, _, hp⟩ := HPR.out.keep (W' := w4) (fun g hg hl => by rw [ho4 g (by omega), ho3 g (by omega)]) hs24
  cases e
  exact ⟨Nat.le_refl _, a1, z1, a2, z2, av, cv, rfl, hB.scions.mono (Below.refl _ _) hB.1, hB.gardens.mono (Below.refl _ _) hB.1, hp⟩

end Go.Proofs.Ytnnngbnimmcjiaa
