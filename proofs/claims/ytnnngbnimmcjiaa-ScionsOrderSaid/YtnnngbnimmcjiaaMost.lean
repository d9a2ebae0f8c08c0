/-
  Most: the greatest number that is asked for, of all gifts that fit.
-/
import Derived.Test.YtnnngbnimmcjiaaBest
namespace Go.Proofs.Ytnnngbnimmcjiaa
open Go.RowKit

theorem bestL_mem (f : List Nat → Nat) (l : List (List Nat)) : bestL f l = [] ∨ bestL f l ∈ l := by
  have h : ∀ (l : List (List Nat)) (b : List Nat), l.foldl (bestStep f) b = b ∨ l.foldl (bestStep f) b ∈ l := by
    intro l
    induction l with
    | nil => intro b; exact .inl rfl
    | cons a l ih =>
      intro b
      rw [List.foldl_cons]
      rcases ih (bestStep f b a) with h | h
      · rw [h]
        unfold bestStep
        split
        · exact .inr (by simp)
        · exact .inl rfl
      · exact .inr (List.mem_cons_of_mem _ h)
  exact h l []
theorem bestL_ok {B : SB} (f : List Nat → Nat) : GOK B (bestL f (giftsL B)) := by
  rcases bestL_mem f (giftsL B) with h | h
  · rw [h]; exact GOK.nil B
  · exact giftsL_ok h

set_option maxRecDepth 100000 in
set_option maxHeartbeats 3200000 in
theorem most_sum (N : Nat) (v : Value) (B : SB) (p : Nat) (w : World) (h : BookAt N w v B) (hG : GoodL B p) :
    Calls Try.prog 50 #[v, .func (.func 51) #[] #[]] w fun e w' => e = .returned (.int .i64 ((fun g => sumC (cS B g) 4) (bestL (fun g => sumC (cS B g) 4) (giftsL B)) : Nat)) ∧ Below w.heap.size w w' := by
  have h' := h
  obtain ⟨_, a1, z1, a2, z2, a3, z3, rfl, _⟩ := h'
  obtain ⟨ws, hws, HB, hsz, hblk⟩ := box1 w (.cells #[.slice a1 B.ns z1, .slice a2 B.ng z2, .slice a3 B.nw z3] 62)
  have q0 := cell_blk hblk 0 rfl
  have q1 := cell_blk hblk 1 rfl
  have q2 := cell_blk hblk 2 rfl
  have HBK := Lib.hid (h.go HB.out)
  have HB0 : Hid (Below ws.heap.size ws ws) := Below.refl _ _
  have HNS : Hid (N ≤ ws.heap.size) := HBK.out.1
  have hlens := h.lens
  obtain ⟨hlv, hls, hln⟩ := hlens
  clear hblk h
  have HG := Lib.hid hG
  have HL := Lib.hid ((bestL_ok (B := B) (fun g => sumC (cS B g) 4)).le12 hG)
  obtain ⟨g, hg⟩ : ∃ g, bestL (fun g => sumC (cS B g) 4) (giftsL B) = g := ⟨_, rfl⟩
  have HBG := Lib.hid hg
  rw [hg] at HL ⊢
  clear hg hG
  go_enter Try.func50, Try.ntmps50
  go_wp2_with (first
    | (go_at_call 52; refine (best_sum N _ B p _ (HBK.out.go HB0.out) HG.out).mono ?_; rw [HBG.out]; rintro e w1 ⟨⟨u, rfl, _⟩, hb1⟩; unfold cntV; have HB1 := Lib.hid hb1; clear hb1; obtain ⟨wv, hwv, HBv, hszv, hblkv⟩ := box1 w1 (.cells #[.int .i64 (cS B g 0), .int .i64 (cS B g 1), .int .i64 (cS B g 2), .int .i64 (cS B g 3)] 69); have x0 := cell_blk hblkv 0 rfl; have x1 := cell_blk hblkv 1 rfl; have x2 := cell_blk hblkv 2 rfl; have x3 := cell_blk hblkv 3 rfl; have HB1v := Lib.hid (bel HB1.out HBv.out); clear hblkv)
    | (go_at_call 51; refine (sum_any (cS B g) _ (fun i _ => cS_le B g HL.out i)).mono ?_; rintro e w2 ⟨rfl, hb2⟩))
  go_ret
  exact ⟨rfl, fin HB.out (bel HB1v.out hb2)⟩

set_option maxRecDepth 100000 in
set_option maxHeartbeats 3200000 in
theorem most_rank (N : Nat) (v : Value) (B : SB) (p : Nat) (w : World) (h : BookAt N w v B) (hG : GoodL B p) :
    Calls Try.prog 50 #[v, .func (.func 53) #[] #[]] w fun e w' => e = .returned (.int .i64 ((fun g => rankC (cS B g) 4) (bestL (fun g => rankC (cS B g) 4) (giftsL B)) : Nat)) ∧ Below w.heap.size w w' := by
  have h' := h
  obtain ⟨_, a1, z1, a2, z2, a3, z3, rfl, _⟩ := h'
  obtain ⟨ws, hws, HB, hsz, hblk⟩ := box1 w (.cells #[.slice a1 B.ns z1, .slice a2 B.ng z2, .slice a3 B.nw z3] 62)
  have q0 := cell_blk hblk 0 rfl
  have q1 := cell_blk hblk 1 rfl
  have q2 := cell_blk hblk 2 rfl
  have HBK := Lib.hid (h.go HB.out)
  have HB0 : Hid (Below ws.heap.size ws ws) := Below.refl _ _
  have HNS : Hid (N ≤ ws.heap.size) := HBK.out.1
  have hlens := h.lens
  obtain ⟨hlv, hls, hln⟩ := hlens
  clear hblk h
  have HG := Lib.hid hG
  have HL := Lib.hid ((bestL_ok (B := B) (fun g => rankC (cS B g) 4)).le12 hG)
  obtain ⟨g, hg⟩ : ∃ g, bestL (fun g => rankC (cS B g) 4) (giftsL B) = g := ⟨_, rfl⟩
  have HBG := Lib.hid hg
  rw [hg] at HL ⊢
  clear hg hG
  go_enter Try.func50, Try.ntmps50
  go_wp2_with (first
    | (go_at_call 52; refine (best_rank N _ B p _ (HBK.out.go HB0.out) HG.out).mono ?_; rw [HBG.out]; rintro e w1 ⟨⟨u, rfl, _⟩, hb1⟩; unfold cntV; have HB1 := Lib.hid hb1; clear hb1; obtain ⟨wv, hwv, HBv, hszv, hblkv⟩ := box1 w1 (.cells #[.int .i64 (cS B g 0), .int .i64 (cS B g 1), .int .i64 (cS B g 2), .int .i64 (cS B g 3)] 69); have x0 := cell_blk hblkv 0 rfl; have x1 := cell_blk hblkv 1 rfl; have x2 := cell_blk hblkv 2 rfl; have x3 := cell_blk hblkv 3 rfl; have HB1v := Lib.hid (bel HB1.out HBv.out); clear hblkv)
    | (go_at_call 53; refine (rank_any (cS B g) _ (fun i _ => cS_le B g HL.out i)).mono ?_; rintro e w2 ⟨rfl, hb2⟩))
  go_ret
  exact ⟨rfl, fin HB.out (bel HB1v.out hb2)⟩

set_option maxRecDepth 100000 in
set_option maxHeartbeats 3200000 in
theorem most_safe (N : Nat) (v : Value) (B : SB) (p : Nat) (w : World) (h : BookAt N w v B) (hG : GoodL B p) :
    Calls Try.prog 50 #[v, .func (.func 55) #[] #[]] w fun e w' => e = .returned (.int .i64 ((fun g => safeC (cS B g) 4) (bestL (fun g => safeC (cS B g) 4) (giftsL B)) : Nat)) ∧ Below w.heap.size w w' := by
  have h' := h
  obtain ⟨_, a1, z1, a2, z2, a3, z3, rfl, _⟩ := h'
  obtain ⟨ws, hws, HB, hsz, hblk⟩ := box1 w (.cells #[.slice a1 B.ns z1, .slice a2 B.ng z2, .slice a3 B.nw z3] 62)
  have q0 := cell_blk hblk 0 rfl
  have q1 := cell_blk hblk 1 rfl
  have q2 := cell_blk hblk 2 rfl
  have HBK := Lib.hid (h.go HB.out)
  have HB0 : Hid (Below ws.heap.size ws ws) := Below.refl _ _
  have HNS : Hid (N ≤ ws.heap.size) := HBK.out.1
  have hlens := h.lens
  obtain ⟨hlv, hls, hln⟩ := hlens
  clear hblk h
  have HG := Lib.hid hG
  have HL := Lib.hid ((bestL_ok (B := B) (fun g => safeC (cS B g) 4)).le12 hG)
  obtain ⟨g, hg⟩ : ∃ g, bestL (fun g => safeC (cS B g) 4) (giftsL B) = g := ⟨_, rfl⟩
  have HBG := Lib.hid hg
  rw [hg] at HL ⊢
  clear hg hG
  go_enter Try.func50, Try.ntmps50
  go_wp2_with (first
    | (go_at_call 52; refine (best_safe N _ B p _ (HBK.out.go HB0.out) HG.out).mono ?_; rw [HBG.out]; rintro e w1 ⟨⟨u, rfl, _⟩, hb1⟩; unfold cntV; have HB1 := Lib.hid hb1; clear hb1; obtain ⟨wv, hwv, HBv, hszv, hblkv⟩ := box1 w1 (.cells #[.int .i64 (cS B g 0), .int .i64 (cS B g 1), .int .i64 (cS B g 2), .int .i64 (cS B g 3)] 69); have x0 := cell_blk hblkv 0 rfl; have x1 := cell_blk hblkv 1 rfl; have x2 := cell_blk hblkv 2 rfl; have x3 := cell_blk hblkv 3 rfl; have HB1v := Lib.hid (bel HB1.out HBv.out); clear hblkv)
    | (go_at_call 55; refine (safe_any (cS B g) _ (fun i _ => cS_le B g HL.out i)).mono ?_; rintro e w2 ⟨rfl, hb2⟩))
  go_ret
  exact ⟨rfl, fin HB.out (bel HB1v.out hb2)⟩

set_option maxRecDepth 100000 in
set_option maxHeartbeats 3200000 in
theorem most_often (N : Nat) (v : Value) (B : SB) (p : Nat) (bs s : Nat) (w : World) (h : BookAt N w v B) (hG : GoodL B p) (hs : s < 4) (hbs : w.cell? ⟨bs, 0, none⟩ = some (.int .i64 s)) (hbw : bs < w.heap.size) :
    Calls Try.prog 50 #[v, .func (.func 76) #[] #[.pointer (some ⟨bs, 0, none⟩)]] w fun e w' => e = .returned (.int .i64 ((fun g => cS B g s) (bestL (fun g => cS B g s) (giftsL B)) : Nat)) ∧ Below w.heap.size w w' := by
  have h' := h
  obtain ⟨_, a1, z1, a2, z2, a3, z3, rfl, _⟩ := h'
  obtain ⟨ws, hws, HB, hsz, hblk⟩ := box1 w (.cells #[.slice a1 B.ns z1, .slice a2 B.ng z2, .slice a3 B.nw z3] 62)
  have q0 := cell_blk hblk 0 rfl
  have q1 := cell_blk hblk 1 rfl
  have q2 := cell_blk hblk 2 rfl
  have HBK := Lib.hid (h.go HB.out)
  have HB0 : Hid (Below ws.heap.size ws ws) := Below.refl _ _
  have HNS : Hid (N ≤ ws.heap.size) := HBK.out.1
  have hlens := h.lens
  obtain ⟨hlv, hls, hln⟩ := hlens
  clear hblk h
  have HG := Lib.hid hG
  have HBS := Lib.hid ((HB.out.cell (p := ⟨bs, 0, none⟩) hbw).trans hbs)
  have HBW : Hid (bs < ws.heap.size) := Nat.lt_of_lt_of_le hbw HB.out.size
  clear hbs
  have HL := Lib.hid ((bestL_ok (B := B) (fun g => cS B g s)).le12 hG)
  obtain ⟨g, hg⟩ : ∃ g, bestL (fun g => cS B g s) (giftsL B) = g := ⟨_, rfl⟩
  have HBG := Lib.hid hg
  rw [hg] at HL ⊢
  clear hg hG
  go_enter Try.func50, Try.ntmps50
  go_wp2_with (first
    | (go_at_call 52; refine (best_often N _ B p bs s _ (HBK.out.go HB0.out) HG.out hs HBS.out HBW.out).mono ?_; rw [HBG.out]; rintro e w1 ⟨⟨u, rfl, _⟩, hb1⟩; unfold cntV; have HB1 := Lib.hid hb1; clear hb1; obtain ⟨wv, hwv, HBv, hszv, hblkv⟩ := box1 w1 (.cells #[.int .i64 (cS B g 0), .int .i64 (cS B g 1), .int .i64 (cS B g 2), .int .i64 (cS B g 3)] 69); have x0 := cell_blk hblkv 0 rfl; have x1 := cell_blk hblkv 1 rfl; have x2 := cell_blk hblkv 2 rfl; have x3 := cell_blk hblkv 3 rfl; have HB1v := Lib.hid (bel HB1.out HBv.out); clear hblkv)
    | (go_at_call 76; refine (often_any (cS B g) bs s _ hs ((HB1v.out.cell (p := ⟨bs, 0, none⟩) HBW.out).trans HBS.out) (Nat.lt_of_lt_of_le HBW.out HB1v.out.size)).mono ?_; rintro e w2 ⟨rfl, hb2⟩))
  go_ret
  exact ⟨rfl, fin HB.out (bel HB1v.out hb2)⟩

end Go.Proofs.Ytnnngbnimmcjiaa
