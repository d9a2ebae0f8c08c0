/-
  Exp: Check, Most, Safe, Weak, Give, Save, Best of package scions.
-/
import Derived.Test.YtnnngbnimmcjiaaWeak
namespace Go.Proofs.Ytnnngbnimmcjiaa
open Go.RowKit

def eNum (B : SB) (n : Nat) : Int × Int := if okL B then (((n : Nat) : Int), 0) else (0, 60)
def eList (B : SB) (l : List Int) : List Int × Int := if okL B then (l, 0) else ([], 60)

set_option maxHeartbeats 800000 in
theorem kCheck_any (N : Nat) (v : Value) (B : SB) (w : World) (h : BookAt N w v B) :
    Calls Try.prog 34 #[v] w fun e w' => e = .returned (.int .i64 (if okL B then 0 else 60)) ∧ Below w.heap.size w w' := by
  have h' := h
  obtain ⟨_, a1, z1, a2, z2, a3, z3, rfl, _⟩ := h'
  obtain ⟨ws, hws, HB, hsz, hblk⟩ := box1 w (.cells #[.slice a1 B.ns z1, .slice a2 B.ng z2, .slice a3 B.nw z3] 26)
  have q0 := cell_blk hblk 0 rfl
  have q1 := cell_blk hblk 1 rfl
  have q2 := cell_blk hblk 2 rfl
  have HBK := Lib.hid (h.go HB.out)
  have HB0 : Hid (Below ws.heap.size ws ws) := Below.refl _ _
  have HNS : Hid (N ≤ ws.heap.size) := HBK.out.1
  have hlens := h.lens
  obtain ⟨hlv, hls, hln⟩ := hlens
  clear hblk h
  cases hv : okL B with
  | true =>
    have HV := Lib.hid hv
    clear hv
    go_enter Try.func34, Try.ntmps34
    go_wp2_with (go_at_call 49; refine (enter_ok N _ B _ (HBK.out.go HB0.out) HV.out).mono ?_; rintro e w1 ⟨rfl, hb1⟩)
    go_ret
    exact ⟨rfl, fin HB.out (bel hb1 (below_alloc (Nat.le_refl _) _))⟩
  | false =>
    have HV := Lib.hid hv
    clear hv
    go_enter Try.func34, Try.ntmps34
    go_wp2_with (go_at_call 49; refine (enter_no N _ B _ (HBK.out.go HB0.out) HV.out).mono ?_; rintro e w1 ⟨rfl, hb1⟩)
    go_ret
    exact ⟨rfl, fin HB.out (bel hb1 (below_alloc (Nat.le_refl _) _))⟩

set_option maxRecDepth 100000 in
set_option maxHeartbeats 1600000 in
theorem kMost_any (N : Nat) (v : Value) (B : SB) (w : World) (h : BookAt N w v B) :
    Calls Try.prog 15 #[v] w fun e w' => e = .returned (.tuple #[.int .i64 (eNum B (sumN B)).1, .int .i64 (eNum B (sumN B)).2]) ∧ Below w.heap.size w w' := by
  have h' := h
  obtain ⟨_, a1, z1, a2, z2, a3, z3, rfl, _⟩ := h'
  obtain ⟨ws, hws, HB, hsz, hblk⟩ := box1 w (.cells #[.slice a1 B.ns z1, .slice a2 B.ng z2, .slice a3 B.nw z3] 26)
  have q0 := cell_blk hblk 0 rfl
  have q1 := cell_blk hblk 1 rfl
  have q2 := cell_blk hblk 2 rfl
  have HBK := Lib.hid (h.go HB.out)
  have HB0 : Hid (Below ws.heap.size ws ws) := Below.refl _ _
  have HNS : Hid (N ≤ ws.heap.size) := HBK.out.1
  have hlens := h.lens
  obtain ⟨hlv, hls, hln⟩ := hlens
  clear hblk h
  cases hv : okL B with
  | true =>
    have HV := Lib.hid hv
    have HE : Hid (∀ n, eNum B n = (((n : Nat) : Int), 0)) := fun n => by unfold eNum; rw [hv]; rfl
    have HG := Lib.hid (goodL hv)
    clear hv
    go_enter Try.func15, Try.ntmps15
    go_wp2_with (first
      | (go_at_call 49; refine (enter_ok N _ B _ (HBK.out.go HB0.out) HV.out).mono ?_; rintro e w1 ⟨rfl, hb1⟩; have HB1 := Lib.hid hb1; clear hb1; obtain ⟨wv, hwv, HBv, hszv, hblkv⟩ := box1 w1 (.cells #[.slice a1 B.ns z1, .slice a2 B.ng z2, .slice a3 B.nw z3] 62); have x0 := cell_blk hblkv 0 rfl; have x1 := cell_blk hblkv 1 rfl; have x2 := cell_blk hblkv 2 rfl; have HBq := Lib.hid (bel HB1.out HBv.out); clear hblkv)
      | (go_at_call 50; refine (mostSum_any N _ B 4 _ (HBK.out.go HBq.out) HG.out).mono ?_; rintro e w2 ⟨rfl, hb2⟩))
    go_ret2
    exact ⟨by rw [HE.out]; rfl, fin HB.out (bel HBq.out hb2)⟩
  | false =>
    have HV := Lib.hid hv
    have HE : Hid (∀ n, eNum B n = (0, 60)) := fun n => by unfold eNum; rw [hv]; rfl
    clear hv
    go_enter Try.func15, Try.ntmps15
    go_wp2_with (go_at_call 49; refine (enter_no N _ B _ (HBK.out.go HB0.out) HV.out).mono ?_; rintro e w1 ⟨rfl, hb1⟩; have HB1 := Lib.hid hb1; clear hb1; obtain ⟨wv, hwv, HBv, hszv, hblkv⟩ := box1 w1 (.cells #[.slice none 0 0, .slice none 0 0, .slice none 0 0] 62); have x0 := cell_blk hblkv 0 rfl; have x1 := cell_blk hblkv 1 rfl; have x2 := cell_blk hblkv 2 rfl; have y0 := free_blk hblkv 0; have y1 := free_blk hblkv 1; have y2 := free_blk hblkv 2; have HBq := Lib.hid (bel HB1.out HBv.out); have HZv := Lib.hid hblkv; clear hblkv)
    obtain ⟨w3, hw3, hz3, hb3⟩ := put3 (n := w1.heap.size) HZv.out (.slice none 0 0) (.slice none 0 0) (.slice none 0 0) (Nat.le_refl _)
    (try rw [hw3])
    go_ret2
    exact ⟨by rw [HE.out]; rfl, (fin HB.out HBq.out).trans (hb3.mono (Nat.le_trans HB.out.size HB1.out.size))⟩

set_option maxRecDepth 100000 in
set_option maxHeartbeats 1600000 in
theorem kSafe_any (N : Nat) (v : Value) (B : SB) (w : World) (h : BookAt N w v B) :
    Calls Try.prog 17 #[v] w fun e w' => e = .returned (.tuple #[.int .i64 (eNum B (safeN B)).1, .int .i64 (eNum B (safeN B)).2]) ∧ Below w.heap.size w w' := by
  have h' := h
  obtain ⟨_, a1, z1, a2, z2, a3, z3, rfl, _⟩ := h'
  obtain ⟨ws, hws, HB, hsz, hblk⟩ := box1 w (.cells #[.slice a1 B.ns z1, .slice a2 B.ng z2, .slice a3 B.nw z3] 26)
  have q0 := cell_blk hblk 0 rfl
  have q1 := cell_blk hblk 1 rfl
  have q2 := cell_blk hblk 2 rfl
  have HBK := Lib.hid (h.go HB.out)
  have HB0 : Hid (Below ws.heap.size ws ws) := Below.refl _ _
  have HNS : Hid (N ≤ ws.heap.size) := HBK.out.1
  have hlens := h.lens
  obtain ⟨hlv, hls, hln⟩ := hlens
  clear hblk h
  cases hv : okL B with
  | true =>
    have HV := Lib.hid hv
    have HE : Hid (∀ n, eNum B n = (((n : Nat) : Int), 0)) := fun n => by unfold eNum; rw [hv]; rfl
    have HG := Lib.hid (goodL hv)
    clear hv
    go_enter Try.func17, Try.ntmps17
    go_wp2_with (first
      | (go_at_call 49; refine (enter_ok N _ B _ (HBK.out.go HB0.out) HV.out).mono ?_; rintro e w1 ⟨rfl, hb1⟩; have HB1 := Lib.hid hb1; clear hb1; obtain ⟨wv, hwv, HBv, hszv, hblkv⟩ := box1 w1 (.cells #[.slice a1 B.ns z1, .slice a2 B.ng z2, .slice a3 B.nw z3] 62); have x0 := cell_blk hblkv 0 rfl; have x1 := cell_blk hblkv 1 rfl; have x2 := cell_blk hblkv 2 rfl; have HBq := Lib.hid (bel HB1.out HBv.out); clear hblkv)
      | (go_at_call 50; refine (mostSafe_any N _ B 4 _ (HBK.out.go HBq.out) HG.out).mono ?_; rintro e w2 ⟨rfl, hb2⟩))
    go_ret2
    exact ⟨by rw [HE.out]; rfl, fin HB.out (bel HBq.out hb2)⟩
  | false =>
    have HV := Lib.hid hv
    have HE : Hid (∀ n, eNum B n = (0, 60)) := fun n => by unfold eNum; rw [hv]; rfl
    clear hv
    go_enter Try.func17, Try.ntmps17
    go_wp2_with (go_at_call 49; refine (enter_no N _ B _ (HBK.out.go HB0.out) HV.out).mono ?_; rintro e w1 ⟨rfl, hb1⟩; have HB1 := Lib.hid hb1; clear hb1; obtain ⟨wv, hwv, HBv, hszv, hblkv⟩ := box1 w1 (.cells #[.slice none 0 0, .slice none 0 0, .slice none 0 0] 62); have x0 := cell_blk hblkv 0 rfl; have x1 := cell_blk hblkv 1 rfl; have x2 := cell_blk hblkv 2 rfl; have y0 := free_blk hblkv 0; have y1 := free_blk hblkv 1; have y2 := free_blk hblkv 2; have HBq := Lib.hid (bel HB1.out HBv.out); have HZv := Lib.hid hblkv; clear hblkv)
    obtain ⟨w3, hw3, hz3, hb3⟩ := put3 (n := w1.heap.size) HZv.out (.slice none 0 0) (.slice none 0 0) (.slice none 0 0) (Nat.le_refl _)
    (try rw [hw3])
    go_ret2
    exact ⟨by rw [HE.out]; rfl, (fin HB.out HBq.out).trans (hb3.mono (Nat.le_trans HB.out.size HB1.out.size))⟩

set_option maxRecDepth 100000 in
set_option maxHeartbeats 1600000 in
theorem kWeak_any (N : Nat) (v : Value) (B : SB) (w : World) (h : BookAt N w v B) :
    Calls Try.prog 31 #[v] w (GivesIE w.heap.size w (eList B (sel (weakP B) B.ng)).1 (eList B (sel (weakP B) B.ng)).2) := by
  have h' := h
  obtain ⟨_, a1, z1, a2, z2, a3, z3, rfl, _⟩ := h'
  obtain ⟨ws, hws, HB, hsz, hblk⟩ := box1 w (.cells #[.slice a1 B.ns z1, .slice a2 B.ng z2, .slice a3 B.nw z3] 26)
  have q0 := cell_blk hblk 0 rfl
  have q1 := cell_blk hblk 1 rfl
  have q2 := cell_blk hblk 2 rfl
  have HBK := Lib.hid (h.go HB.out)
  have HB0 : Hid (Below ws.heap.size ws ws) := Below.refl _ _
  have HNS : Hid (N ≤ ws.heap.size) := HBK.out.1
  have hlens := h.lens
  obtain ⟨hlv, hls, hln⟩ := hlens
  clear hblk h
  cases hv : okL B with
  | true =>
    have HV := Lib.hid hv
    have HE : Hid (∀ n, eList B n = (n, 0)) := fun n => by unfold eList; rw [hv]; rfl
    have HG := Lib.hid (goodL hv)
    clear hv
    go_enter Try.func31, Try.ntmps31
    go_wp2_with (first
      | (go_at_call 49; refine (enter_ok N _ B _ (HBK.out.go HB0.out) HV.out).mono ?_; rintro e w1 ⟨rfl, hb1⟩; have HB1 := Lib.hid hb1; clear hb1; obtain ⟨wv, hwv, HBv, hszv, hblkv⟩ := box1 w1 (.cells #[.slice a1 B.ns z1, .slice a2 B.ng z2, .slice a3 B.nw z3] 62); have x0 := cell_blk hblkv 0 rfl; have x1 := cell_blk hblkv 1 rfl; have x2 := cell_blk hblkv 2 rfl; have HBq := Lib.hid (bel HB1.out HBv.out); clear hblkv)
      | (go_at_call 65; refine (weak_any N _ B 4 _ (HBK.out.go HBq.out) HG.out).mono ?_; rintro e w2 ⟨u, rfl, ho, hb2⟩))
    go_ret2
    have hb := fin HB.out (bel HBq.out hb2)
    refine ⟨u, by rw [HE.out]; rfl, ?_, hb⟩
    rw [HE.out]
    exact own_mono ho (Nat.le_trans HB.out.size HBq.out.size)
  | false =>
    have HV := Lib.hid hv
    have HE : Hid (∀ n, eList B n = ([], 60)) := fun n => by unfold eList; rw [hv]; rfl
    clear hv
    go_enter Try.func31, Try.ntmps31
    go_wp2_with (go_at_call 49; refine (enter_no N _ B _ (HBK.out.go HB0.out) HV.out).mono ?_; rintro e w1 ⟨rfl, hb1⟩; have HB1 := Lib.hid hb1; clear hb1; obtain ⟨wv, hwv, HBv, hszv, hblkv⟩ := box1 w1 (.cells #[.slice none 0 0, .slice none 0 0, .slice none 0 0] 62); have x0 := cell_blk hblkv 0 rfl; have x1 := cell_blk hblkv 1 rfl; have x2 := cell_blk hblkv 2 rfl; have y0 := free_blk hblkv 0; have y1 := free_blk hblkv 1; have y2 := free_blk hblkv 2; have HBq := Lib.hid (bel HB1.out HBv.out); have HZv := Lib.hid hblkv; clear hblkv)
    obtain ⟨w3, hw3, hz3, hb3⟩ := put3 (n := w1.heap.size) HZv.out (.slice none 0 0) (.slice none 0 0) (.slice none 0 0) (Nat.le_refl _)
    (try rw [hw3])
    go_ret2
    exact ⟨.slice none 0 0, by rw [HE.out]; rfl, by rw [HE.out]; exact World.ownsRow_nil _ _ _ _, (fin HB.out HBq.out).trans (hb3.mono (Nat.le_trans HB.out.size HB1.out.size))⟩

/-- a gift, and an error -/
def eGift (B : SB) (f : List Nat → Nat) : List Nat × Int := if okL B then (bestL f (giftsL B), 0) else ([], 60)

set_option maxRecDepth 100000 in
set_option maxHeartbeats 1600000 in
theorem bestGiftRank_any (N : Nat) (v : Value) (B : SB) (w : World) (h : BookAt N w v B) :
    Calls Try.prog 64 #[v, .func (.func 53) #[] #[]] w fun e w' => (∃ u, e = .returned (.tuple #[u, .int .i64 (eGift B (rankG B)).2]) ∧ GU w.heap.size w' u (eGift B (rankG B)).1) ∧ Below w.heap.size w w' := by
  have h' := h
  obtain ⟨_, a1, z1, a2, z2, a3, z3, rfl, _⟩ := h'
  obtain ⟨ws, hws, HB, hsz, hblk⟩ := box1 w (.cells #[.slice a1 B.ns z1, .slice a2 B.ng z2, .slice a3 B.nw z3] 26)
  have q0 := cell_blk hblk 0 rfl
  have q1 := cell_blk hblk 1 rfl
  have q2 := cell_blk hblk 2 rfl
  have HBK := Lib.hid (h.go HB.out)
  have HB0 : Hid (Below ws.heap.size ws ws) := Below.refl _ _
  have HNS : Hid (N ≤ ws.heap.size) := HBK.out.1
  have hlens := h.lens
  obtain ⟨hlv, hls, hln⟩ := hlens
  clear hblk h
  cases hv : okL B with
  | true =>
    have HV := Lib.hid hv
    have HE : Hid (eGift B (rankG B) = (bestL (rankG B) (giftsL B), 0)) := by unfold Hid eGift; rw [hv]; rfl
    have HG := Lib.hid (goodL hv)
    obtain ⟨g, hg⟩ : ∃ g, bestL (rankG B) (giftsL B) = g := ⟨_, rfl⟩
    have HBG := Lib.hid hg
    rw [hg] at HE
    clear hv hg
    go_enter Try.func64, Try.ntmps64
    go_wp2_with (first
      | (go_at_call 49; refine (enter_ok N _ B _ (HBK.out.go HB0.out) HV.out).mono ?_; rintro e w1 ⟨rfl, hb1⟩; have HB1 := Lib.hid hb1; clear hb1; obtain ⟨wv, hwv, HBv, hszv, hblkv⟩ := box1 w1 (.cells #[.slice a1 B.ns z1, .slice a2 B.ng z2, .slice a3 B.nw z3] 62); have x0 := cell_blk hblkv 0 rfl; have x1 := cell_blk hblkv 1 rfl; have x2 := cell_blk hblkv 2 rfl; have HBq := Lib.hid (bel HB1.out HBv.out); clear hblkv)
      | (go_at_call 52; refine (best_rank N _ B 4 _ (HBK.out.go HBq.out) HG.out).mono ?_; rw [show bestL (fun g => rankC (cS B g) 4) (giftsL B) = g from HBG.out]; rintro e w2 ⟨⟨u, rfl, hu⟩, hb2⟩; unfold cntV; have HU := Lib.hid hu; have HB2 := Lib.hid (bel HBq.out hb2); clear hu hb2; obtain ⟨wu, hwu, HBu, hszu, hblku⟩ := box1 w2 (.cells #[.int .i64 (cS B g 0), .int .i64 (cS B g 1), .int .i64 (cS B g 2), .int .i64 (cS B g 3)] 69); clear hblku))
    go_ret2
    exact ⟨⟨u, by rw [HE.out]; rfl, by rw [HE.out]; exact (HU.out.below HBu.out).lower (Nat.le_trans HB.out.size HBq.out.size)⟩, fin HB.out (bel HB2.out HBu.out)⟩
  | false =>
    have HV := Lib.hid hv
    have HE : Hid (eGift B (rankG B) = ([], 60)) := by unfold Hid eGift; rw [hv]; rfl
    clear hv
    go_enter Try.func64, Try.ntmps64
    go_wp2_with (go_at_call 49; refine (enter_no N _ B _ (HBK.out.go HB0.out) HV.out).mono ?_; rintro e w1 ⟨rfl, hb1⟩; have HB1 := Lib.hid hb1; clear hb1; obtain ⟨wv, hwv, HBv, hszv, hblkv⟩ := box1 w1 (.cells #[.slice none 0 0, .slice none 0 0, .slice none 0 0] 62); have x0 := cell_blk hblkv 0 rfl; have x1 := cell_blk hblkv 1 rfl; have x2 := cell_blk hblkv 2 rfl; have y0 := free_blk hblkv 0; have y1 := free_blk hblkv 1; have y2 := free_blk hblkv 2; have HBq := Lib.hid (bel HB1.out HBv.out); have HZv := Lib.hid hblkv; clear hblkv)
    obtain ⟨w3, hw3, hz3, hb3⟩ := put3 (n := w1.heap.size) HZv.out (.slice none 0 0) (.slice none 0 0) (.slice none 0 0) (Nat.le_refl _)
    (try rw [hw3])
    go_ret2
    exact ⟨⟨.slice none 0 0, by rw [HE.out]; rfl, by rw [HE.out]; exact .inl ⟨rfl, rfl⟩⟩, (fin HB.out HBq.out).trans (hb3.mono (Nat.le_trans HB.out.size HB1.out.size))⟩

set_option maxRecDepth 100000 in
set_option maxHeartbeats 1600000 in
theorem bestGiftSafe_any (N : Nat) (v : Value) (B : SB) (w : World) (h : BookAt N w v B) :
    Calls Try.prog 64 #[v, .func (.func 55) #[] #[]] w fun e w' => (∃ u, e = .returned (.tuple #[u, .int .i64 (eGift B (safeG B)).2]) ∧ GU w.heap.size w' u (eGift B (safeG B)).1) ∧ Below w.heap.size w w' := by
  have h' := h
  obtain ⟨_, a1, z1, a2, z2, a3, z3, rfl, _⟩ := h'
  obtain ⟨ws, hws, HB, hsz, hblk⟩ := box1 w (.cells #[.slice a1 B.ns z1, .slice a2 B.ng z2, .slice a3 B.nw z3] 26)
  have q0 := cell_blk hblk 0 rfl
  have q1 := cell_blk hblk 1 rfl
  have q2 := cell_blk hblk 2 rfl
  have HBK := Lib.hid (h.go HB.out)
  have HB0 : Hid (Below ws.heap.size ws ws) := Below.refl _ _
  have HNS : Hid (N ≤ ws.heap.size) := HBK.out.1
  have hlens := h.lens
  obtain ⟨hlv, hls, hln⟩ := hlens
  clear hblk h
  cases hv : okL B with
  | true =>
    have HV := Lib.hid hv
    have HE : Hid (eGift B (safeG B) = (bestL (safeG B) (giftsL B), 0)) := by unfold Hid eGift; rw [hv]; rfl
    have HG := Lib.hid (goodL hv)
    obtain ⟨g, hg⟩ : ∃ g, bestL (safeG B) (giftsL B) = g := ⟨_, rfl⟩
    have HBG := Lib.hid hg
    rw [hg] at HE
    clear hv hg
    go_enter Try.func64, Try.ntmps64
    go_wp2_with (first
      | (go_at_call 49; refine (enter_ok N _ B _ (HBK.out.go HB0.out) HV.out).mono ?_; rintro e w1 ⟨rfl, hb1⟩; have HB1 := Lib.hid hb1; clear hb1; obtain ⟨wv, hwv, HBv, hszv, hblkv⟩ := box1 w1 (.cells #[.slice a1 B.ns z1, .slice a2 B.ng z2, .slice a3 B.nw z3] 62); have x0 := cell_blk hblkv 0 rfl; have x1 := cell_blk hblkv 1 rfl; have x2 := cell_blk hblkv 2 rfl; have HBq := Lib.hid (bel HB1.out HBv.out); clear hblkv)
      | (go_at_call 52; refine (best_safe N _ B 4 _ (HBK.out.go HBq.out) HG.out).mono ?_; rw [show bestL (fun g => safeC (cS B g) 4) (giftsL B) = g from HBG.out]; rintro e w2 ⟨⟨u, rfl, hu⟩, hb2⟩; unfold cntV; have HU := Lib.hid hu; have HB2 := Lib.hid (bel HBq.out hb2); clear hu hb2; obtain ⟨wu, hwu, HBu, hszu, hblku⟩ := box1 w2 (.cells #[.int .i64 (cS B g 0), .int .i64 (cS B g 1), .int .i64 (cS B g 2), .int .i64 (cS B g 3)] 69); clear hblku))
    go_ret2
    exact ⟨⟨u, by rw [HE.out]; rfl, by rw [HE.out]; exact (HU.out.below HBu.out).lower (Nat.le_trans HB.out.size HBq.out.size)⟩, fin HB.out (bel HB2.out HBu.out)⟩
  | false =>
    have HV := Lib.hid hv
    have HE : Hid (eGift B (safeG B) = ([], 60)) := by unfold Hid eGift; rw [hv]; rfl
    clear hv
    go_enter Try.func64, Try.ntmps64
    go_wp2_with (go_at_call 49; refine (enter_no N _ B _ (HBK.out.go HB0.out) HV.out).mono ?_; rintro e w1 ⟨rfl, hb1⟩; have HB1 := Lib.hid hb1; clear hb1; obtain ⟨wv, hwv, HBv, hszv, hblkv⟩ := box1 w1 (.cells #[.slice none 0 0, .slice none 0 0, .slice none 0 0] 62); have x0 := cell_blk hblkv 0 rfl; have x1 := cell_blk hblkv 1 rfl; have x2 := cell_blk hblkv 2 rfl; have y0 := free_blk hblkv 0; have y1 := free_blk hblkv 1; have y2 := free_blk hblkv 2; have HBq := Lib.hid (bel HB1.out HBv.out); have HZv := Lib.hid hblkv; clear hblkv)
    obtain ⟨w3, hw3, hz3, hb3⟩ := put3 (n := w1.heap.size) HZv.out (.slice none 0 0) (.slice none 0 0) (.slice none 0 0) (Nat.le_refl _)
    (try rw [hw3])
    go_ret2
    exact ⟨⟨.slice none 0 0, by rw [HE.out]; rfl, by rw [HE.out]; exact .inl ⟨rfl, rfl⟩⟩, (fin HB.out HBq.out).trans (hb3.mono (Nat.le_trans HB.out.size HB1.out.size))⟩

set_option maxHeartbeats 800000 in
theorem kGive_any (N : Nat) (v : Value) (B : SB) (w : World) (h : BookAt N w v B) :
    Calls Try.prog 43 #[v] w fun e w' => (∃ u, e = .returned (.tuple #[u, .int .i64 (eGift B (rankG B)).2]) ∧ GU w.heap.size w' u (eGift B (rankG B)).1) ∧ Below w.heap.size w w' := by
  have h' := h
  obtain ⟨_, a1, z1, a2, z2, a3, z3, rfl, _⟩ := h'
  obtain ⟨ws, hws, HB, hsz, hblk⟩ := box1 w (.cells #[.slice a1 B.ns z1, .slice a2 B.ng z2, .slice a3 B.nw z3] 26)
  have q0 := cell_blk hblk 0 rfl
  have q1 := cell_blk hblk 1 rfl
  have q2 := cell_blk hblk 2 rfl
  have HBK := Lib.hid (h.go HB.out)
  have HB0 : Hid (Below ws.heap.size ws ws) := Below.refl _ _
  have HNS : Hid (N ≤ ws.heap.size) := HBK.out.1
  have hlens := h.lens
  obtain ⟨hlv, hls, hln⟩ := hlens
  clear hblk h
  go_enter Try.func43, Try.ntmps43
  go_wp2_with (go_at_call 64; refine (bestGiftRank_any N _ B _ (HBK.out.go HB0.out)).mono ?_; rintro e w1 ⟨⟨u, rfl, hu⟩, hb1⟩; have HU := Lib.hid hu; clear hu)
  go_ret2
  exact ⟨⟨u, rfl, HU.out.lower HB.out.size⟩, fin HB.out hb1⟩

set_option maxHeartbeats 800000 in
theorem kSave_any (N : Nat) (v : Value) (B : SB) (w : World) (h : BookAt N w v B) :
    Calls Try.prog 30 #[v] w fun e w' => (∃ u, e = .returned (.tuple #[u, .int .i64 (eGift B (safeG B)).2]) ∧ GU w.heap.size w' u (eGift B (safeG B)).1) ∧ Below w.heap.size w w' := by
  have h' := h
  obtain ⟨_, a1, z1, a2, z2, a3, z3, rfl, _⟩ := h'
  obtain ⟨ws, hws, HB, hsz, hblk⟩ := box1 w (.cells #[.slice a1 B.ns z1, .slice a2 B.ng z2, .slice a3 B.nw z3] 26)
  have q0 := cell_blk hblk 0 rfl
  have q1 := cell_blk hblk 1 rfl
  have q2 := cell_blk hblk 2 rfl
  have HBK := Lib.hid (h.go HB.out)
  have HB0 : Hid (Below ws.heap.size ws ws) := Below.refl _ _
  have HNS : Hid (N ≤ ws.heap.size) := HBK.out.1
  have hlens := h.lens
  obtain ⟨hlv, hls, hln⟩ := hlens
  clear hblk h
  go_enter Try.func30, Try.ntmps30
  go_wp2_with (go_at_call 64; refine (bestGiftSafe_any N _ B _ (HBK.out.go HB0.out)).mono ?_; rintro e w1 ⟨⟨u, rfl, hu⟩, hb1⟩; have HU := Lib.hid hu; clear hu)
  go_ret2
  exact ⟨⟨u, rfl, HU.out.lower HB.out.size⟩, fin HB.out hb1⟩

end Go.Proofs.Ytnnngbnimmcjiaa
