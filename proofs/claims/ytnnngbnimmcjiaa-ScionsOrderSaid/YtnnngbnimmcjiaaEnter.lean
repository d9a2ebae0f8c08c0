/-
  Enter: what enters, asked for a sort, a garden, or with a gift.
-/
import Derived.Test.YtnnngbnimmcjiaaValid3
namespace Go.Proofs.Ytnnngbnimmcjiaa
open Go.RowKit

theorem enter_ok (N : Nat) (v : Value) (B : SB) (w : World) (h : BookAt N w v B) (hv : okL B = true) :
    Calls Try.prog 49 #[v] w fun e w' => e = .returned (.tuple #[v, .int .i64 0]) ∧ Below w.heap.size w w' :=
  (enter_any N v B w h).mono fun e w' ⟨⟨u, he, h1, _⟩, hb⟩ => ⟨by rw [he, h1 hv, hv]; rfl, hb⟩
theorem enter_no (N : Nat) (v : Value) (B : SB) (w : World) (h : BookAt N w v B) (hv : okL B = false) :
    Calls Try.prog 49 #[v] w fun e w' => e = .returned (.tuple #[.agg #[.slice none 0 0, .slice none 0 0, .slice none 0 0], .int .i64 60]) ∧ Below w.heap.size w w' :=
  (enter_any N v B w h).mono fun e w' ⟨⟨u, he, _, h1⟩, hb⟩ => ⟨by rw [he, h1 hv, hv]; rfl, hb⟩

/-- the error of a list that is asked for something -/
def errA (ok is : Bool) : Int := if ok then (if is then 0 else 1) else 60

set_option maxRecDepth 100000 in
set_option maxHeartbeats 3200000 in
theorem enterAsked_any (N : Nat) (v : Value) (B : SB) (a m : Int) (w : World) (h : BookAt N w v B) :
    Calls Try.prog 58 #[v, .int .i64 a, .int .i64 m] w fun e w' => (∃ u, e = .returned (.tuple #[u, .int .i64 (errA (okL B) (decide (0 ≤ a) && decide (a < m)))]) ∧ (okL B = true → (decide (0 ≤ a) && decide (a < m)) = true → u = v) ∧ ((okL B && (decide (0 ≤ a) && decide (a < m))) = false → u = .agg #[.slice none 0 0, .slice none 0 0, .slice none 0 0])) ∧ Below w.heap.size w w' := by
  have h' := h
  obtain ⟨_, a1, z1, a2, z2, a3, z3, rfl, _⟩ := h'
  obtain ⟨ws, hws, HB, hsz, hsz1, hblk, hblk1⟩ := box2 w (.cells #[.slice a1 B.ns z1, .slice a2 B.ng z2, .slice a3 B.nw z3] 26) (.cells #[.slice none 0 0, .slice none 0 0, .slice none 0 0] 62)
  have q0 := cell_blk hblk 0 rfl
  have q1 := cell_blk hblk 1 rfl
  have q2 := cell_blk hblk 2 rfl
  have p0 := cell_blk hblk1 0 rfl
  have p1 := cell_blk hblk1 1 rfl
  have p2 := cell_blk hblk1 2 rfl
  have HBK := Lib.hid (h.go HB.out)
  have HB0 : Hid (Below ws.heap.size ws ws) := Below.refl _ _
  have HNS : Hid (N ≤ ws.heap.size) := HBK.out.1
  have hlens := h.lens
  obtain ⟨hlv, hls, hln⟩ := hlens
  have HZ1 := Lib.hid hblk1
  clear hblk hblk1 h
  have hle : w.heap.size ≤ w.heap.size + 1 := Nat.le_succ _
  cases hv : okL B with
  | false =>
    have HV := Lib.hid hv
    have HE : Hid (∀ i, errA false i = 60) := fun i => rfl
    clear hv
    go_enter Try.func58, Try.ntmps58
    go_wp2_with (go_at_call 49; refine (enter_no N _ B _ (HBK.out.go HB0.out) HV.out).mono ?_; rintro e w1 ⟨rfl, hb1⟩; have HZ := Lib.hid ((hb1.block _ hsz1).trans HZ1.out); have hs1 := Nat.lt_of_lt_of_le hsz1 hb1.size; (try clear c0); have HB1 := Lib.hid (bel HB0.out hb1); have c1 := (old_of HB1.out).1; clear hb1; obtain ⟨wv, hwv, HBv, hszv, hblkv⟩ := box1 w1 (.cells #[.slice none 0 0, .slice none 0 0, .slice none 0 0] 62); have x0 := cell_blk hblkv 0 rfl; have x1 := cell_blk hblkv 1 rfl; have x2 := cell_blk hblkv 2 rfl; have hz := (HBv.out.block _ hs1).trans HZ.out; have y0 := cell_blk hz 0 rfl; have y1 := cell_blk hz 1 rfl; have y2 := cell_blk hz 2 rfl; have f0 := free_blk hz 0; have f1 := free_blk hz 1; have f2 := free_blk hz 2; have g0 := free_blk hblkv 0; have g1 := free_blk hblkv 1; have g2 := free_blk hblkv 2; have HZv := Lib.hid hz; have HZw := Lib.hid hblkv; have hww : w1.heap.size ≠ w.heap.size + 1 := (by omega); clear hz hblkv; have HBq := Lib.hid (bel HB1.out HBv.out))
    obtain ⟨w2, hw2, _, hb2⟩ := put3 (n := w1.heap.size) HZw.out (.slice none 0 0) (.slice none 0 0) (.slice none 0 0) (Nat.le_refl _)
    rw [hw2]
    obtain ⟨w3, hw3, hz3, hb3⟩ := put3 (n := w.heap.size) ((hb2.block _ hs1).trans HZv.out) (.slice none 0 0) (.slice none 0 0) (.slice none 0 0) hle
    rw [hw3]
    have r0 := cell_blk hz3 0 rfl
    have r1 := cell_blk hz3 1 rfl
    have r2 := cell_blk hz3 2 rfl
    refine bodyPost_ret (v := .tuple #[.agg #[.slice none 0 0, .slice none 0 0, .slice none 0 0], .int .i64 60]) (by simp [results, Try.results58, go_sem, r0, r1, r2]) rfl ?_
    refine ⟨⟨_, by rw [HE.out], fun h => (by cases h), fun _ => rfl⟩, (fin HB.out HBq.out).trans ((hb2.mono ?_).trans hb3)⟩
    exact Nat.le_trans HB.out.size HB1.out.size
  | true =>
    cases hi : (decide (0 ≤ a) && decide (a < m)) with
    | true =>
      have HV := Lib.hid hv
      have HI := Lib.hid hi
      clear hv hi
      go_enter Try.func58, Try.ntmps58
      go_wp2_with (first
        | (go_at_call 49; refine (enter_ok N _ B _ (HBK.out.go HB0.out) HV.out).mono ?_; rintro e w1 ⟨rfl, hb1⟩; have HZ := Lib.hid ((hb1.block _ hsz1).trans HZ1.out); have hs1 := Nat.lt_of_lt_of_le hsz1 hb1.size; (try clear c0); have HB1 := Lib.hid (bel HB0.out hb1); have c1 := (old_of HB1.out).1; clear hb1; obtain ⟨wv, hwv, HBv, hszv, hblkv⟩ := box1 w1 (.cells #[.slice a1 B.ns z1, .slice a2 B.ng z2, .slice a3 B.nw z3] 62); have x0 := cell_blk hblkv 0 rfl; have x1 := cell_blk hblkv 1 rfl; have x2 := cell_blk hblkv 2 rfl; have hz := (HBv.out.block _ hs1).trans HZ.out; have y0 := cell_blk hz 0 rfl; have y1 := cell_blk hz 1 rfl; have y2 := cell_blk hz 2 rfl; have f0 := free_blk hz 0; have f1 := free_blk hz 1; have f2 := free_blk hz 2; have HZv := Lib.hid hz; clear hz hblkv; have HBq := Lib.hid (bel HB1.out HBv.out))
        | (go_at_call 62; refine (kwithin_eq _ _ _ _ HI.out).mono ?_; rintro e w2 ⟨rfl, rfl⟩))
      obtain ⟨w3, hw3, hz3, hb3⟩ := put3 (n := w.heap.size) HZv.out (.slice a1 B.ns z1) (.slice a2 B.ng z2) (.slice a3 B.nw z3) hle
      rw [hw3]
      have r0 := cell_blk hz3 0 rfl
      have r1 := cell_blk hz3 1 rfl
      have r2 := cell_blk hz3 2 rfl
      refine bodyPost_ret (v := .tuple #[.agg #[.slice a1 B.ns z1, .slice a2 B.ng z2, .slice a3 B.nw z3], .int .i64 0]) (by simp [results, Try.results58, go_sem, r0, r1, r2]) rfl ?_
      exact ⟨⟨_, rfl, fun _ _ => rfl, fun h => (by simp at h)⟩, (fin HB.out HBq.out).trans hb3⟩
    | false =>
      have HV := Lib.hid hv
      have HI := Lib.hid hi
      clear hv hi
      go_enter Try.func58, Try.ntmps58
      go_wp2_with (first
        | (go_at_call 49; refine (enter_ok N _ B _ (HBK.out.go HB0.out) HV.out).mono ?_; rintro e w1 ⟨rfl, hb1⟩; have HZ := Lib.hid ((hb1.block _ hsz1).trans HZ1.out); have hs1 := Nat.lt_of_lt_of_le hsz1 hb1.size; (try clear c0); have HB1 := Lib.hid (bel HB0.out hb1); have c1 := (old_of HB1.out).1; clear hb1; obtain ⟨wv, hwv, HBv, hszv, hblkv⟩ := box1 w1 (.cells #[.slice a1 B.ns z1, .slice a2 B.ng z2, .slice a3 B.nw z3] 62); have x0 := cell_blk hblkv 0 rfl; have x1 := cell_blk hblkv 1 rfl; have x2 := cell_blk hblkv 2 rfl; have hz := (HBv.out.block _ hs1).trans HZ.out; have y0 := cell_blk hz 0 rfl; have y1 := cell_blk hz 1 rfl; have y2 := cell_blk hz 2 rfl; have f0 := free_blk hz 0; have f1 := free_blk hz 1; have f2 := free_blk hz 2; have HZv := Lib.hid hz; clear hz hblkv; have HBq := Lib.hid (bel HB1.out HBv.out))
        | (go_at_call 62; refine (kwithin_eq _ _ _ _ HI.out).mono ?_; rintro e w2 ⟨rfl, rfl⟩))
      obtain ⟨w3, hw3, hz3, hb3⟩ := put3 (n := w.heap.size) HZv.out (.slice none 0 0) (.slice none 0 0) (.slice none 0 0) hle
      rw [hw3]
      have r0 := cell_blk hz3 0 rfl
      have r1 := cell_blk hz3 1 rfl
      have r2 := cell_blk hz3 2 rfl
      refine bodyPost_ret (v := .tuple #[.agg #[.slice none 0 0, .slice none 0 0, .slice none 0 0], .int .i64 1]) (by simp [results, Try.results58, go_sem, r0, r1, r2]) rfl ?_
      exact ⟨⟨_, rfl, fun _ h => (by cases h), fun _ => rfl⟩, (fin HB.out HBq.out).trans hb3⟩

end Go.Proofs.Ytnnngbnimmcjiaa
