/-
  MarksTold where the book, the fruits or the sorts are not valid.
-/
import Derived.Test.YtopajgnemeodeaaTold1
import Derived.Test.YtopajgnemeodeaaWorks
import Derived.Test.YtopajgnemeodeaaFar
import Derived.Test.YtopajgnemeodeaaLaw1
namespace Go.Proofs.Ytopajgnemeodeaa
open Go.RowKit

set_option maxHeartbeats 4000000 in
set_option maxRecDepth 100000 in
theorem told_out (N : Nat) (v u : Value) (B : Bk) (R : Fr) (s pf pm t : Int) (w : World) (h : BookAt N w v B) (hf : FruitsAt N w u R)
    (hn : rdy B R = false ∨ (decide (0 ≤ s) && decide (s < (B.ns : Int))) = false ∨ (decide (0 ≤ t) && decide (t < (B.ns : Int))) = false) :
    Calls Try.prog 11 #[v, u, .agg #[.int .i64 s, .int .i64 pf, .int .i64 pm, .int .i64 t]] w fun e w' => e = .returned (.bool true) ∧ Below w.heap.size w w' := by
  have H : Hid (BookAt N w v B) := h
  have HF : Hid (FruitsAt N w u R) := hf
  obtain ⟨hN, a1, c1, a2, c2, a3, c3, rfl, h1, h2, h3⟩ := h
  clear h1 h2 h3 hf
  cases hr : rdy B R with
  | false =>
    have HR : Hid _ := Lib.hid hr
    clear hr hn
    go_enter Try.func11, Try.ntmps11
    go_wp2_with (first
      | (go_at_call 44; refine (ready_any N _ _ B R _ ((H.out.in_alloc _).in_alloc _) (RowsAt.mono HF.out (below2 hN _ _) (Nat.le_refl _))).mono ?_; rintro e w1 ⟨rfl, hb1⟩; rw [HR.out]; have ch1 := chain2 hb1; clear hb1)
      | (go_at_call 15; refine (works_any _).mono ?_; rintro e w2 ⟨rfl, hb2⟩; have ch2 := chain2s ch1 hb2; clear hb2))
    go_ret
    exact ⟨rfl, below_of (ch_book ch2)⟩
  | true =>
    have HR : Hid _ := Lib.hid hr
    cases hs : (decide (0 ≤ s) && decide (s < (B.ns : Int))) with
    | false =>
      have HS : Hid _ := Lib.hid hs
      clear hr hn hs
      go_enter Try.func11, Try.ntmps11
      go_wp2_with (first
        | (go_at_call 44; refine (ready_any N _ _ B R _ ((H.out.in_alloc _).in_alloc _) (RowsAt.mono HF.out (below2 hN _ _) (Nat.le_refl _))).mono ?_; rintro e w1 ⟨rfl, hb1⟩; rw [HR.out]; have ch1 := chain2 hb1; have q0 := box_cell (ch_book ch1) 0 rfl; have q1 := box_cell (ch_book ch1) 1 rfl; have q2 := box_cell (ch_book ch1) 2 rfl; have q3 := box_cell (ch_book ch1) 3 rfl; have p0 := place_cell ch1 0 rfl; have p3 := place_cell ch1 3 rfl; clear hb1)
        | (go_at_call 54; refine (isSort_any N _ B s _ (H.out.chain (ch_book ch1))).mono ?_; rintro e w2 ⟨rfl, hb2⟩; rw [HS.out]; have ch2 := chain2s ch1 hb2; clear hb2)
        | (go_at_call 15; refine (works_any _).mono ?_; rintro e w3 ⟨rfl, hb3⟩; have ch3 := chain2s ch2 hb3; clear hb3))
      go_ret
      exact ⟨rfl, below_of (ch_book ch3)⟩
    | true =>
      have HT : Hid ((decide (0 ≤ t) && decide (t < (B.ns : Int))) = false) := by
        rcases hn with hn | hn | hn
        · rw [hr] at hn; simp at hn
        · rw [hs] at hn; simp at hn
        · exact hn
      have HS : Hid _ := Lib.hid hs
      clear hr hn hs
      go_enter Try.func11, Try.ntmps11
      go_wp2_with (first
        | (go_at_call 44; refine (ready_any N _ _ B R _ ((H.out.in_alloc _).in_alloc _) (RowsAt.mono HF.out (below2 hN _ _) (Nat.le_refl _))).mono ?_; rintro e w1 ⟨rfl, hb1⟩; rw [HR.out]; have ch1 := chain2 hb1; have q0 := box_cell (ch_book ch1) 0 rfl; have q1 := box_cell (ch_book ch1) 1 rfl; have q2 := box_cell (ch_book ch1) 2 rfl; have q3 := box_cell (ch_book ch1) 3 rfl; have p0 := place_cell ch1 0 rfl; have p3 := place_cell ch1 3 rfl; clear hb1)
        | (go_at_call 54; refine (isSort_any N _ B t _ (H.out.chain (ch_book ch2))).mono ?_; rintro e w3 ⟨rfl, hb3⟩; rw [HT.out]; have ch3 := chain2s ch2 hb3; clear hb3)
        | (go_at_call 54; refine (isSort_any N _ B s _ (H.out.chain (ch_book ch1))).mono ?_; rintro e w2 ⟨rfl, hb2⟩; rw [HS.out]; have ch2 := chain2s ch1 hb2; have q0 := box_cell (ch_book ch2) 0 rfl; have q1 := box_cell (ch_book ch2) 1 rfl; have q2 := box_cell (ch_book ch2) 2 rfl; have q3 := box_cell (ch_book ch2) 3 rfl; have p0 := place_cell ch2 0 rfl; have p3 := place_cell ch2 3 rfl; clear hb2)
        | (go_at_call 15; refine (works_any _).mono ?_; rintro e w4 ⟨rfl, hb4⟩; have ch4 := chain2s ch3 hb4; clear hb4))
      go_ret
      exact ⟨rfl, below_of (ch_book ch4)⟩

end Go.Proofs.Ytopajgnemeodeaa
