/-
  Give: what a gift gives, if it fits.
-/
import Derived.Test.YtnnngbnimmcjiaaAdd
import Derived.Deep.WholeRow
namespace Go.Proofs.Ytnnngbnimmcjiaa
open Go.RowKit

def natL (n : Nat) (x : Nat → Int) : List Nat := (List.range n).map fun i => (x i).toNat
theorem natL_succ (n : Nat) (x : Nat → Int) : natL (n + 1) x = natL n x ++ [(x n).toNat] := by simp [natL, List.range_succ]
theorem natL_len (n : Nat) (x : Nat → Int) : (natL n x).length = n := by simp [natL]
theorem fit_pre (B : SB) (x : Nat → Int) {k : Nat} : ∀ n, k ≤ n → fitL B (natL k x) = false → fitL B (natL n x) = false := by
  intro n
  induction n with
  | zero => intro hk h; rw [show k = 0 by omega] at h; exact h
  | succ n ih =>
    intro hk h
    by_cases e : k = n + 1
    · rw [← e]; exact h
    · rw [natL_succ, fitL_snoc, ih (by omega) h]; rfl

theorem alloc_row {W : World} {old cs : Array Value} {t : TypeId} : ∃ W', (W.alloc (.cells old t)).setRow W.heap.size cs = W' ∧ W'.heap[W.heap.size]? = some (.cells cs t) ∧ Below W.heap.size W W' :=
  ⟨_, rfl, by rw [World.setRow_alloc_new]; exact World.alloc_heap_new _ _, by rw [World.setRow_alloc_new]; exact below_alloc (Nat.le_refl _) _⟩

set_option maxRecDepth 100000 in
set_option maxHeartbeats 3200000 in
theorem give_any (N M : Nat) (v u : Value) (B : SB) (n p : Nat) (x : Nat → Int) (w : World) (h : BookAt N w v B) (hG : GoodL B p) (hu : IntsAt M w u n x) (hM : M ≤ w.heap.size) (hx : ∀ i, i < n → 0 ≤ x i ∧ x i < B.nw) (hn : n ≤ 1000) :
    Calls Try.prog 57 #[v, u] w fun e w' => (∃ cs, e = .returned (.tuple #[.agg cs, .bool (fitL B (natL n x))]) ∧ cs.size = 25 ∧ cs.all (·.oneCell') = true ∧ (fitL B (natL n x) = true → GV B cs (natL n x))) ∧ Below w.heap.size w w' := by
  have h' := h
  obtain ⟨_, a1, z1, a2, z2, a3, z3, rfl, _⟩ := h'
  obtain ⟨au, cu, rfl, _, _⟩ := id hu
  obtain ⟨ws, hws, HB, hsz, hblk, hblk1, hblk2⟩ := allocs3 w (.cells #[.slice a1 B.ns z1, .slice a2 B.ng z2, .slice a3 B.nw z3] 62) (.cells zeroG 78) (.cells zeroG 78)
  unfold zeroG at hws
  have HBK := Lib.hid (h.go HB.out)
  have hNw := h.1
  have HX := Lib.hid (hu.go hM HB.out)
  have HXX := Lib.hid hx
  have HG := Lib.hid hG
  have HN0 := Lib.hid (Below.mono (Below.refl ws.heap.size ws) (show w.heap.size + 1 + 1 ≤ ws.heap.size by omega))
  have hsz0 : w.heap.size < ws.heap.size := by omega
  have hsz1 : w.heap.size + 1 < w.heap.size + 1 + 1 := by omega
  have hszN : N ≤ w.heap.size + 1 + 1 := by omega
  have hszM : M ≤ w.heap.size + 1 + 1 := by omega
  have hsz2 : w.heap.size + 1 + 1 < ws.heap.size := by omega
  have hle : w.heap.size ≤ w.heap.size + 1 + 1 := by omega
  have HK0 := Lib.hid hblk
  have HK1 := Lib.hid hblk1
  have HK2 := Lib.hid hblk2
  clear hblk hblk1 hblk2 h hu hx hG hM hNw hsz
  go_enter Try.func57, Try.ntmps57
  go_wp2
  clear hws
  go_loopw [13] (fun i wr => ∃ k : Nat, k ≤ n ∧ i = .int .i64 k ∧ Hid (fitL B (natL k x) = true) ∧ Hid (Below (w.heap.size + 1 + 1) ws wr) ∧ ∃ cs, Hid (GV B cs (natL k x)) ∧ Hid (wr.heap[w.heap.size + 1 + 1]? = some (.cells cs 78))) (fun i _ => n - (intOf i).toNat)
  case atStart => exact ⟨0, Nat.zero_le _, rfl, rfl, HN0, zeroG, GV.zero B, HK2⟩
  case round =>
    obtain ⟨k, hk, rfl, HF, HBr, cs, HV, HC⟩ := hrel
    have q0 := cell_blk ((HBr.out.block _ (by omega)).trans HK0.out) 0 rfl
    have q1 := cell_blk ((HBr.out.block _ (by omega)).trans HK0.out) 1 rfl
    have q2 := cell_blk ((HBr.out.block _ (by omega)).trans HK0.out) 2 rfl
    have hs1 : w.heap.size + 1 + 1 < wr.heap.size := heap_lt' HC.out
    have HBz : Hid (Below w.heap.size w wr) := HB.out.trans (HBr.out.mono hle)
    by_cases hkn : k < n
    · obtain ⟨b, off, rfl, hbM, hr⟩ := HX.out.cells (by omega)
      obtain ⟨y, hy, hyn⟩ : ∃ y : Nat, x k = y ∧ y < B.nw := ⟨(x k).toNat, by have := HXX.out k hkn; omega, by have := HXX.out k hkn; omega⟩
      have hcell := (HBr.out.cell (p := ⟨b, off + k, none⟩) (show b < w.heap.size + 1 + 1 by omega)).trans (hr k hkn)
      rw [hy] at hcell
      have HL : Hid (natL (k + 1) x = natL k x ++ [y]) := by unfold Hid; rw [natL_succ, hy]; rfl
      have HA := Lib.hid (add_any N _ B cs (natL k x) y p wr (HBK.out.mono (HBr.out.mono hszN) (Nat.le_refl _) (by omega)) HG.out HV.out hyn (by rw [natL_len]; omega))
      have HS : Hid (fitL B (natL (k + 1) x) = addOK B (natL k x) y) := by unfold Hid; rw [HL.out, fitL_snoc, HF.out, Bool.true_and]
      clear hr hy hyn
      cases ha : addOK B (natL k x) y with
      | true =>
        rw [ha] at HA HS
        clear ha
        go_wp2_with (first
          | (refine wp_ldG rfl _ rfl (w.heap.size + 1 + 1) rfl (t := 78) (cs := cs) HC.out HV.out.size ?_)
          | (go_at_call 75; refine HA.out.mono ?_; clear HA; rintro e w1 ⟨⟨cs', rfl, hv', _⟩, hb1⟩; have HV' := Lib.hid (hv' rfl); have HB1 := Lib.hid hb1; clear hv' hb1)
          | (refine wp_stG rfl _ _ rfl w1.heap.size cs' rfl rfl (t := 78) (old := zeroG) (World.alloc_heap_new _ _) rfl HV'.out.size HV'.out.one ?_; obtain ⟨w2, hw2, hz2, hb2⟩ := alloc_row (W := w1) (old := zeroG) (cs := cs') (t := 78); unfold zeroG at hw2; rw [hw2]; have HC2 := Lib.hid hz2; have HB2 := Lib.hid (bel HB1.out hb2); clear hz2 hb2 hw2)
          | (refine wp_ldG rfl _ rfl w1.heap.size rfl (t := 78) (cs := cs') HC2.out HV'.out.size ?_)
          | (refine wp_stG rfl _ _ rfl (w.heap.size + 1 + 1) cs' rfl rfl (t := 78) (old := cs) ((HB2.out.block _ hs1).trans HC.out) HV.out.size HV'.out.size HV'.out.one ?_))
        go_roundw
        case rel => exact ⟨k + 1, by omega, by go_num, HS, (HBr.out.trans (HB2.out.mono (Nat.le_of_lt hs1))).trans (below_setRow (Below.refl _ _) (Nat.le_refl _) _), cs', by rw [HL.out]; exact HV', setRow_heap _ _ cs cs' _ _ ((HB2.out.block _ hs1).trans HC.out)⟩
        case measure => simp [intOf]; omega
      | false =>
        have HFF := Lib.hid (fit_pre B x n (by omega) (HS.out.trans ha))
        rw [ha] at HA
        clear ha HS
        go_wp2_with (first
          | (refine wp_ldG rfl _ rfl (w.heap.size + 1 + 1) rfl (t := 78) (cs := cs) HC.out HV.out.size ?_)
          | (go_at_call 75; refine HA.out.mono ?_; clear HA; rintro e w1 ⟨⟨cs', rfl, _, hv'⟩, hb1⟩; have HV' := Lib.hid (hv' rfl); have HB1 := Lib.hid hb1; clear hv' hb1)
          | (refine wp_stG rfl _ _ rfl w1.heap.size cs' rfl rfl (t := 78) (old := zeroG) (World.alloc_heap_new _ _) rfl (by rw [HV'.out]; rfl) (by rw [HV'.out]; exact (GV.zero B).one) ?_; obtain ⟨w2, hw2, hz2, hb2⟩ := alloc_row (W := w1) (old := zeroG) (cs := cs') (t := 78); unfold zeroG at hw2; rw [hw2]; have HB2 := Lib.hid (bel HB1.out hb2); have HZ2 := Lib.hid ((HB2.out.block (w.heap.size + 1) (by omega)).trans ((HBr.out.block _ hsz1).trans HK1.out)); clear hz2 hb2 hw2)
          | (refine wp_stG rfl _ _ rfl (w.heap.size + 1) zeroG rfl rfl (t := 78) (old := zeroG) HZ2.out rfl rfl (GV.zero B).one ?_))
        refine bodyPost_ret (v := .tuple #[.agg zeroG, .bool false]) (resGT rfl rfl rfl (setRow_heap _ _ zeroG zeroG _ _ HZ2.out) rfl) rfl ?_
        exact ⟨⟨zeroG, by rw [HFF.out], rfl, (GV.zero B).one, fun h => (by rw [HFF.out] at h; cases h)⟩, (fin HBz.out HB2.out).trans (below_setRow (Below.refl _ _) (by omega) _)⟩
    · have Hk : Hid (k = n) := by show k = n; omega
      have HZ2 := Lib.hid ((HBr.out.block _ hsz1).trans HK1.out)
      go_wp2_with (first
        | (refine wp_ldG rfl _ rfl (w.heap.size + 1 + 1) rfl (t := 78) (cs := cs) HC.out HV.out.size ?_)
        | (refine wp_stG rfl _ _ rfl (w.heap.size + 1) cs rfl rfl (t := 78) (old := zeroG) HZ2.out rfl HV.out.size HV.out.one ?_))
      refine bodyPost_ret (v := .tuple #[.agg cs, .bool true]) (resGT rfl rfl rfl (setRow_heap _ _ zeroG cs _ _ HZ2.out) HV.out.size) rfl ?_
      rw [← Hk.out]
      exact ⟨⟨cs, by rw [HF.out], HV.out.size, HV.out.one, fun _ => HV.out⟩, HBz.out.trans (below_setRow (Below.refl _ _) (by omega) _)⟩

end Go.Proofs.Ytnnngbnimmcjiaa
