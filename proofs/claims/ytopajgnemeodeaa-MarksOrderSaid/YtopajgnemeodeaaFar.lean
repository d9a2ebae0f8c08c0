/-
  Far: the chapter's own measure of a book and fruits too long to look at.
-/
import Derived.Test.YtopajgnemeodeaaBase
import Derived.Test.YtopajgnemeodeaaValid
import Derived.Test.YtopajgnemeodeaaRef1
import Derived.Test.YtopajgnemeodeaaMarks
namespace Go.Proofs.Ytopajgnemeodeaa
open Go.RowKit

def longB (n : Nat) (L : Nat → Nat) : Bool := decide (40 < n) || anyB n fun i => decide (40 < L i)

def far (B : Bk) (R : Fr) : Bool := decide (40 < B.nv) || decide (40 < B.nf) || decide (40 < B.ns) || longB R.n R.L || anyB B.ns fun s => longB (B.nc s) (B.ncc s)

set_option maxHeartbeats 800000 in
theorem far_any (N : Nat) (v u : Value) (B : Bk) (R : Fr) (w : World) (h : BookAt N w v B) (hf : FruitsAt N w u R) :
    Calls Try.prog 14 #[v, u] w fun e w' => e = .returned (.bool (far B R)) ∧ Below w.heap.size w w' := by
  obtain ⟨hN, a1, c1, a2, c2, a3, c3, rfl, h1, h2, h3⟩ := h
  have HB : Hid (Below w.heap.size w (w.alloc (.cells #[.slice a1 B.nv c1, .slice a2 B.nf c2, .slice a3 B.ns c3, .int .i64 B.wr] 25))) := below_alloc (Nat.le_refl _) _
  have HF : Hid (RowsAt N (w.alloc (.cells #[.slice a1 B.nv c1, .slice a2 B.nf c2, .slice a3 B.ns c3, .int .i64 B.wr] 25)) u R.n R.L R.X) := RowsAt.mono hf (below_alloc hN _) (Nat.le_refl _)
  have H3 : Hid _ := Lib.hid (SortsAt.mono h3 (below_alloc hN (.cells #[.slice a1 B.nv c1, .slice a2 B.nf c2, .slice a3 B.ns c3, .int .i64 B.wr] 25)) (Nat.le_refl _))
  clear h1 h2 h3 hf
  by_cases g1 : 40 < B.nv
  · have i1 : (40 : Int) < (B.nv : Int) := by omega
    have G1 : Hid _ := Lib.hid g1
    clear g1
    go_enter Try.func14, Try.ntmps14
    go_wp2
    go_ret
    exact ⟨ret_bool (by unfold far; simp [G1.out]), HB.out⟩
  have i1 : (B.nv : Int) ≤ 40 := by omega
  have G1 : Hid _ := Lib.hid g1
  clear g1
  by_cases g2 : 40 < B.nf
  · have i2 : (40 : Int) < (B.nf : Int) := by omega
    have G2 : Hid _ := Lib.hid g2
    clear g2
    go_enter Try.func14, Try.ntmps14
    go_wp2
    go_ret
    exact ⟨ret_bool (by unfold far; simp [G2.out]), HB.out⟩
  have i2 : (B.nf : Int) ≤ 40 := by omega
  have G2 : Hid _ := Lib.hid g2
  clear g2
  by_cases g3 : 40 < B.ns
  · have i3 : (40 : Int) < (B.ns : Int) := by omega
    have G3 : Hid _ := Lib.hid g3
    clear g3
    go_enter Try.func14, Try.ntmps14
    go_wp2
    go_ret
    exact ⟨ret_bool (by unfold far; simp [G3.out]), HB.out⟩
  have i3 : (B.ns : Int) ≤ 40 := by omega
  have G3 : Hid _ := Lib.hid g3
  clear g3
  cases g4 : longB R.n R.L with
  | true =>
    have G4 : Hid _ := Lib.hid g4
    clear g4
    go_enter Try.func14, Try.ntmps14
    go_wp2_with (go_at_call 45; refine (longLists_any N _ _ _ _ _ HF.out).mono ?_; rintro e w' ⟨rfl, rfl⟩; rw [show (decide (40 < R.n) || anyB R.n fun i => decide (40 < R.L i)) = true from G4.out])
    go_ret
    exact ⟨ret_bool (by unfold far; simp [G4.out]), HB.out⟩
  | false =>
    have G4 : Hid _ := Lib.hid g4
    clear g4
    go_enter Try.func14, Try.ntmps14
    go_wp2_with (go_at_call 45; refine (longLists_any N _ _ _ _ _ HF.out).mono ?_; rintro e w' ⟨rfl, rfl⟩; rw [show (decide (40 < R.n) || anyB R.n fun i => decide (40 < R.L i)) = false from G4.out])
    go_loop [5] (fun i => ∃ k : Nat, k ≤ B.ns ∧ i = .int .i64 k ∧ Hid (∀ j, j < k → longB (B.nc j) (B.ncc j) = false)) (fun i => B.ns - (intOf i).toNat)
    case atStart => exact ⟨0, Nat.zero_le _, rfl, fun j hj => absurd hj (Nat.not_lt_zero j)⟩
    case round =>
      obtain ⟨k, hk, rfl, hj⟩ := hrel
      by_cases hkn : k < B.ns
      · obtain ⟨_, _, e3, _, hc3⟩ := H3.out
        cases e3
        obtain ⟨b3, off3, rfl, hb3, hr3⟩ := hc3 (by omega)
        obtain ⟨r3, hcell3, hrows⟩ := hr3 k hkn
        have HR : Hid _ := Lib.hid hrows
        obtain ⟨ao, cap, rfl, _, _⟩ := hrows
        clear hc3 hr3
        cases hl : longB (B.nc k) (B.ncc k) with
        | true =>
          have HL : Hid _ := Lib.hid hl
          clear hl
          go_wp2_with (go_at_call 45; refine (longLists_any N _ _ _ _ _ HR.out).mono ?_; rintro e w' ⟨rfl, rfl⟩; rw [show (decide (40 < B.nc k) || anyB (B.nc k) fun i => decide (40 < B.ncc k i)) = true from HL.out])
          go_ret
          exact ⟨ret_bool (by unfold far; rw [anyB_true.2 ⟨k, hkn, HL.out⟩, Bool.or_true]), HB.out⟩
        | false =>
          have HL : Hid _ := Lib.hid hl
          clear hl
          go_wp2_with (go_at_call 45; refine (longLists_any N _ _ _ _ _ HR.out).mono ?_; rintro e w' ⟨rfl, rfl⟩; rw [show (decide (40 < B.nc k) || anyB (B.nc k) fun i => decide (40 < B.ncc k i)) = false from HL.out])
          go_round
          case rel => exact ⟨k + 1, by omega, by go_num, lt_succ hj.out HL.out⟩
          case measure => simp [intOf]; omega
      · go_wp2
        go_ret
        exact ⟨ret_bool (by unfold far; rw [anyB_false.2 fun i hi => hj.out i (by omega), G4.out]; simp [G1.out, G2.out, G3.out]), HB.out⟩

end Go.Proofs.Ytopajgnemeodeaa

namespace Go.Proofs.Ytopajgnemeodeaa
open Go.RowKit

def rdy (B : Bk) (R : Fr) : Bool := !far B R && decide (chk B R = 0)

set_option maxHeartbeats 800000 in
theorem ready_any (N : Nat) (v u : Value) (B : Bk) (R : Fr) (w : World) (h : BookAt N w v B) (hf : FruitsAt N w u R) :
    Calls Try.prog 44 #[v, u] w fun e w' => e = .returned (.bool (rdy B R)) ∧ Below w.heap.size w w' := by
  have H : Hid (BookAt N w v B) := h
  have HF : Hid (FruitsAt N w u R) := hf
  obtain ⟨hN, a1, c1, a2, c2, a3, c3, rfl, h1, h2, h3⟩ := h
  clear h1 h2 h3 hf
  cases g1 : far B R with
  | true =>
    have G1 : Hid _ := Lib.hid g1
    clear g1
    go_enter Try.func44, Try.ntmps44
    go_wp2_with (go_at_call 14; refine (far_any N _ _ B R _ (H.out.in_alloc _) (RowsAt.mono HF.out (below_alloc hN _) (Nat.le_refl _))).mono ?_; rintro e w1 ⟨rfl, hb1⟩; rw [G1.out]; have ch1 := chain (chain0 _ _) hb1; clear hb1)
    go_ret
    exact ⟨ret_bool (by unfold rdy; simp [G1.out]), below_of ch1⟩
  | false =>
    have G1 : Hid _ := Lib.hid g1
    clear g1
    by_cases g2 : chk B R = 0
    · have G2 : Hid _ := Lib.hid g2
      clear g2
      go_enter Try.func44, Try.ntmps44
      go_wp2_with (first
        | (go_at_call 14; refine (far_any N _ _ B R _ (H.out.in_alloc _) (RowsAt.mono HF.out (below_alloc hN _) (Nat.le_refl _))).mono ?_; rintro e w1 ⟨rfl, hb1⟩; rw [G1.out]; have ch1 := chain (chain0 _ _) hb1; have q0 := box_cell ch1 0 rfl; have q1 := box_cell ch1 1 rfl; have q2 := box_cell ch1 2 rfl; have q3 := box_cell ch1 3 rfl; clear hb1)
        | (go_at_call 19; refine (rCheck_any N _ _ B R _ (H.out.chain ch1) (RowsAt.chain HF.out hN ch1)).mono ?_; rintro e w2 ⟨rfl, hb2⟩; rw [G2.out]; have ch2 := chain ch1 hb2; clear hb2))
      go_ret
      exact ⟨ret_bool (by unfold rdy; simp [G1.out, G2.out]), below_of ch2⟩
    · have g3 : chk B R ≠ 0 := g2
      have G2 : Hid _ := Lib.hid g2
      clear g2
      go_enter Try.func44, Try.ntmps44
      go_wp2_with (first
        | (go_at_call 14; refine (far_any N _ _ B R _ (H.out.in_alloc _) (RowsAt.mono HF.out (below_alloc hN _) (Nat.le_refl _))).mono ?_; rintro e w1 ⟨rfl, hb1⟩; rw [G1.out]; have ch1 := chain (chain0 _ _) hb1; have q0 := box_cell ch1 0 rfl; have q1 := box_cell ch1 1 rfl; have q2 := box_cell ch1 2 rfl; have q3 := box_cell ch1 3 rfl; clear hb1)
        | (go_at_call 19; refine (rCheck_any N _ _ B R _ (H.out.chain ch1) (RowsAt.chain HF.out hN ch1)).mono ?_; rintro e w2 ⟨rfl, hb2⟩; have ch2 := chain ch1 hb2; clear hb2))
      go_ret
      exact ⟨ret_bool (by unfold rdy; simp [G1.out, G2.out]), below_of ch2⟩

end Go.Proofs.Ytopajgnemeodeaa
