/-
  MarksNothing: where the book or the sorts are not valid; lists that grow side by side.
-/
import Derived.Test.YtopajgnemeodeaaNothing1
import Derived.Test.YtopajgnemeodeaaAsk2
import Derived.Maps.AppendAt
namespace Go.Proofs.Ytopajgnemeodeaa
open Go.RowKit

set_option maxHeartbeats 4000000 in
set_option maxRecDepth 100000 in
theorem nothing_out (N : Nat) (v : Value) (B : Bk) (s pf pm t : Int) (w : World) (h : BookAt N w v B)
    (hn : rdy B R0 = false ∨ (decide (0 ≤ s) && decide (s < (B.ns : Int))) = false ∨ (decide (0 ≤ t) && decide (t < (B.ns : Int))) = false) :
    Calls Try.prog 13 #[v, .agg #[.int .i64 s, .int .i64 pf, .int .i64 pm, .int .i64 t]] w fun e w' => e = .returned (.bool true) ∧ Below w.heap.size w w' := by
  have hf := nil_fruits N w
  have h' := h
  obtain ⟨_, a1, c1, a2, c2, a3, c3, rfl, _⟩ := h'
  obtain ⟨ws, hws, HB, hsz, hsz1, hblk, hblk1⟩ := box2 w (.cells #[.slice a1 B.nv c1, .slice a2 B.nf c2, .slice a3 B.ns c3, .int .i64 B.wr] 25) (.cells #[.int .i64 s, .int .i64 pf, .int .i64 pm, .int .i64 t] 42)
  have q0 := cell_blk hblk 0 rfl
  have q1 := cell_blk hblk 1 rfl
  have q2 := cell_blk hblk 2 rfl
  have q3 := cell_blk hblk 3 rfl
  have p0 := cell_blk hblk1 0 rfl
  have p1 := cell_blk hblk1 1 rfl
  have p2 := cell_blk hblk1 2 rfl
  have p3 := cell_blk hblk1 3 rfl
  obtain ⟨HBF, HB0⟩ := entry HB.out h hf
  clear hblk hblk1 h hf
  cases hr : rdy B R0 with
  | false =>
    have HR := Lib.hid hr
    clear hr hn
    go_enter Try.func13, Try.ntmps13
    go_wp2_with (first
      | (go_at_call 44; refine (ready_any N _ _ B R0 _ (HBF.out.go HB0.out).1 (HBF.out.go HB0.out).2).mono ?_; rintro e w1 ⟨rfl, hb1⟩; rw [HR.out]; (try clear c0); have HB1 := Lib.hid (bel HB0.out hb1); have c1 := (old_of HB1.out).1; clear hb1)
      | (go_at_call 15; refine (works_any _).mono ?_; rintro e w2 ⟨rfl, hb2⟩; (try clear c1); have HB2 := Lib.hid (bel HB1.out hb2); have c2 := (old_of HB2.out).1; clear hb2))
    go_ret
    exact ⟨rfl, fin HB.out HB2.out⟩
  | true =>
    have HR := Lib.hid hr
    cases hs : (decide (0 ≤ s) && decide (s < (B.ns : Int))) with
    | false =>
      have HS := Lib.hid hs
      clear hr hn hs
      go_enter Try.func13, Try.ntmps13
      go_wp2_with (first
        | (go_at_call 44; refine (ready_any N _ _ B R0 _ (HBF.out.go HB0.out).1 (HBF.out.go HB0.out).2).mono ?_; rintro e w1 ⟨rfl, hb1⟩; rw [HR.out]; (try clear c0); have HB1 := Lib.hid (bel HB0.out hb1); have c1 := (old_of HB1.out).1; clear hb1)
        | (go_at_call 54; refine (isSort_any N _ B s _ (HBF.out.go HB1.out).1).mono ?_; rintro e w2 ⟨rfl, hb2⟩; rw [HS.out]; (try clear c1); have HB2 := Lib.hid (bel HB1.out hb2); have c2 := (old_of HB2.out).1; clear hb2)
        | (go_at_call 15; refine (works_any _).mono ?_; rintro e w3 ⟨rfl, hb3⟩; (try clear c2); have HB3 := Lib.hid (bel HB2.out hb3); have c3 := (old_of HB3.out).1; clear hb3))
      go_ret
      exact ⟨rfl, fin HB.out HB3.out⟩
    | true =>
      have HT : Hid ((decide (0 ≤ t) && decide (t < (B.ns : Int))) = false) := by
        rcases hn with hn | hn | hn
        · rw [hr] at hn; simp at hn
        · rw [hs] at hn; simp at hn
        · exact hn
      have HS := Lib.hid hs
      clear hr hn hs
      go_enter Try.func13, Try.ntmps13
      go_wp2_with (first
        | (go_at_call 44; refine (ready_any N _ _ B R0 _ (HBF.out.go HB0.out).1 (HBF.out.go HB0.out).2).mono ?_; rintro e w1 ⟨rfl, hb1⟩; rw [HR.out]; (try clear c0); have HB1 := Lib.hid (bel HB0.out hb1); have c1 := (old_of HB1.out).1; clear hb1)
        | (go_at_call 54; have _t := HB2; refine (isSort_any N _ B t _ (HBF.out.go HB2.out).1).mono ?_; rintro e w3 ⟨rfl, hb3⟩; rw [HT.out]; (try clear c2); have HB3 := Lib.hid (bel HB2.out hb3); have c3 := (old_of HB3.out).1; clear hb3)
        | (go_at_call 54; refine (isSort_any N _ B s _ (HBF.out.go HB1.out).1).mono ?_; rintro e w2 ⟨rfl, hb2⟩; rw [HS.out]; (try clear c1); have HB2 := Lib.hid (bel HB1.out hb2); have c2 := (old_of HB2.out).1; clear hb2)
        | (go_at_call 15; refine (works_any _).mono ?_; rintro e w4 ⟨rfl, hb4⟩; (try clear c3); have HB4 := Lib.hid (bel HB3.out hb4); have c4 := (old_of HB4.out).1; clear hb4))
      go_ret
      exact ⟨rfl, fin HB.out HB4.out⟩

theorem fromF_suc (n : Nat) (x : Nat → Int) : fromF (n + 1) x = fromF n x ++ [x n] := by simp [fromF, List.range_succ]
theorem fromF_get {n i : Nat} (x : Nat → Int) (h : i < n) : (fromF n x).getD i 0 = x i := by simp [fromF, List.getD_eq_getElem?_getD, h]

theorem IntsAt.congr {N : Nat} {w : World} {v : Value} {n : Nat} {x y : Nat → Int} (h : IntsAt N w v n x) (e : ∀ i, i < n → x i = y i) : IntsAt N w v n y :=
  ListAt.mono h (Below.refl _ _) (Nat.le_refl _) fun i r hi hr => by rw [hr, e i hi]

theorem OwnI.from {N : Nat} {w : World} {v : Value} {n : Nat} {x : Nat → Int} (h : OwnI N w v (fromF n x)) (hn : n ≤ 1000000) : (∃ ao cap, v = .slice ao n cap) ∧ IntsAt w.heap.size w v n x := by
  have hl := fromF_len n x
  obtain ⟨ao, cap, rfl⟩ := h.form
  have h2 := h.ints (by rw [hl]; omega)
  rw [hl] at h2 ⊢
  exact ⟨⟨ao, cap, rfl⟩, h2.congr fun i hi => fromF_get x hi⟩

/-- an own list, kept when another one grows -/
theorem OwnI.beside {N : Nat} {w w1 w2 : World} {v u : Value} {l : List Int} (h : OwnI N w v l) (hb : Below w.heap.size w w1) (hg : w1.grownBy w2 u.ownBlock) (hd : ∀ g, u.ownBlock = some g → v.ownBlock ≠ some g) : OwnI N w2 v l := by
  have h1 : OwnI N w1 v l := own_below h hb
  obtain ⟨k1, k2 | ⟨g, cap, cur, rfl, k3, k4, k5⟩⟩ := id h1
  · exact ⟨k1, .inl k2⟩
  · exact ⟨k1, .inr ⟨g, cap, cur, rfl, k3, (hg.block g (Array.getElem?_eq_some_iff.1 k4).1 (fun e => hd g e.symm rfl)).trans k4, k5⟩⟩

theorem one_row {w : World} {a : Option Addr} {n c : Nat} {x : Nat → Int} (h : IntsAt w.heap.size w (.slice a n c) n x) :
    FruitsAt (w.alloc (.cells #[.slice a n c] 22)).heap.size (w.alloc (.cells #[.slice a n c] 22)) (.slice (some ⟨w.heap.size, 0, none⟩) 1 1) (oneR n x) :=
  list_blk (n := 1) (c := 1) (World.alloc_heap_new _ _) (by simp) (by decide) fun i hi => by
    have : i = 0 := by have : i < 1 := hi; omega
    subst this
    exact ⟨_, rfl, h.mono (below_alloc (Nat.le_refl _) _) (by simp)⟩

theorem two_rows {w : World} {a b : Option Addr} {n c d : Nat} (h1 : IntsAt w.heap.size w (.slice a n c) n (fun _ => -1)) (h2 : IntsAt w.heap.size w (.slice b n d) n (fun _ => -1)) :
    FruitsAt (w.alloc (.cells #[.slice a n c, .slice b n d] 22)).heap.size (w.alloc (.cells #[.slice a n c, .slice b n d] 22)) (.slice (some ⟨w.heap.size, 0, none⟩) 2 2) (notR 2 n) :=
  list_blk (n := 2) (c := 2) (World.alloc_heap_new _ _) (by simp) (by decide) fun i hi => by
    have hi2 : i < 2 := hi
    rcases i with _ | _ | i
    · exact ⟨_, rfl, h1.mono (below_alloc (Nat.le_refl _) _) (by simp)⟩
    · exact ⟨_, rfl, h2.mono (below_alloc (Nat.le_refl _) _) (by simp)⟩
    · omega

end Go.Proofs.Ytopajgnemeodeaa
