/-
  ready: whether the chapter takes a book and fruits as valid.
-/
import Derived.Test.YtmmadlpkolcgkaaFar
import Derived.Test.YtmmadlpkolcgkaaRef3
import Derived.Test.YtmmadlpkolcgkaaMarks1
namespace Go.Proofs.Ytmmadlpkolcgkaa
open Go.RowKit

def rdy (B : Bk) (R : Fr) : Bool := !far B R && decide (chk B R = 0)

set_option maxHeartbeats 800000 in
theorem ready_any (N : Nat) (v u : Value) (B : Bk) (R : Fr) (w : World) (h : BookAt N w v B) (hf : FruitsAt N w u R) :
    Calls Try.prog 44 #[v, u] w fun e w' => e = .returned (.bool (rdy B R)) ∧ Below w.heap.size w w' := by
  have H : Hid (BookAt N w v B) := h
  have HF : Hid (FruitsAt N w u R) := hf
  obtain ⟨hN, a1, c1, a2, c2, a3, c3, rfl, h1, h2, h3⟩ := h
  clear h1 h2 h3 hf
  cases g1 : far B R with
  | true =>
    have G1 : Hid _ := Lib.hid g1
    clear g1
    go_enter Try.func44, Try.ntmps44
    go_wp2_with (go_at_call 14; refine (far_any N _ _ B R _ (H.out.in_alloc _) (RowsAt.mono HF.out (below_alloc hN _) (Nat.le_refl _))).mono ?_; rintro e w1 ⟨rfl, hb1⟩; rw [G1.out]; have ch1 := chain (chain0 _ _) hb1; clear hb1)
    go_ret
    exact ⟨ret_bool (by unfold rdy; simp [G1.out]), below_of ch1⟩
  | false =>
    have G1 : Hid _ := Lib.hid g1
    clear g1
    by_cases g2 : chk B R = 0
    · have G2 : Hid _ := Lib.hid g2
      clear g2
      go_enter Try.func44, Try.ntmps44
      go_wp2_with (first
        | (go_at_call 14; refine (far_any N _ _ B R _ (H.out.in_alloc _) (RowsAt.mono HF.out (below_alloc hN _) (Nat.le_refl _))).mono ?_; rintro e w1 ⟨rfl, hb1⟩; rw [G1.out]; have ch1 := chain (chain0 _ _) hb1; have q0 := box_cell ch1 0 rfl; have q1 := box_cell ch1 1 rfl; have q2 := box_cell ch1 2 rfl; have q3 := box_cell ch1 3 rfl; clear hb1)
        | (go_at_call 19; refine (rCheck_any N _ _ B R _ (H.out.chain ch1) (RowsAt.chain HF.out hN ch1)).mono ?_; rintro e w2 ⟨rfl, hb2⟩; rw [G2.out]; have ch2 := chain ch1 hb2; clear hb2))
      go_ret
      exact ⟨ret_bool (by unfold rdy; simp [G1.out, G2.out]), below_of ch2⟩
    · have g3 : chk B R ≠ 0 := g2
      have G2 : Hid _ := Lib.hid g2
      clear g2
      go_enter Try.func44, Try.ntmps44
      go_wp2_with (first
        | (go_at_call 14; refine (far_any N _ _ B R _ (H.out.in_alloc _) (RowsAt.mono HF.out (below_alloc hN _) (Nat.le_refl _))).mono ?_; rintro e w1 ⟨rfl, hb1⟩; rw [G1.out]; have ch1 := chain (chain0 _ _) hb1; have q0 := box_cell ch1 0 rfl; have q1 := box_cell ch1 1 rfl; have q2 := box_cell ch1 2 rfl; have q3 := box_cell ch1 3 rfl; clear hb1)
        | (go_at_call 19; refine (rCheck_any N _ _ B R _ (H.out.chain ch1) (RowsAt.chain HF.out hN ch1)).mono ?_; rintro e w2 ⟨rfl, hb2⟩; have ch2 := chain ch1 hb2; clear hb2))
      go_ret
      exact ⟨ret_bool (by unfold rdy; simp [G1.out, G2.out]), below_of ch2⟩

end Go.Proofs.Ytmmadlpkolcgkaa
