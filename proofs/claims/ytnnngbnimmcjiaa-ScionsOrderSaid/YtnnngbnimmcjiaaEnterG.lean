/-
  EnterG: what enters with a gift.
-/
import Derived.Test.YtnnngbnimmcjiaaEnter
namespace Go.Proofs.Ytnnngbnimmcjiaa
open Go.RowKit

theorem heap_lt' {W : World} {b : Nat} {o : Obj} (h : W.heap[b]? = some o) : b < W.heap.size := (Array.getElem?_eq_some_iff.1 h).1

set_option maxRecDepth 100000 in
set_option maxHeartbeats 3200000 in
theorem enterGift_any (N M : Nat) (v u : Value) (B : SB) (n : Nat) (x : Nat → Int) (w : World) (h : BookAt N w v B) (hu : IntsAt M w u n x) (hM : M ≤ w.heap.size) :
    Calls Try.prog 56 #[v, u] w fun e w' => (∃ u', e = .returned (.tuple #[u', .int .i64 (errA (okL B) (okGift B.nw n x))]) ∧ (okL B = true → (okGift B.nw n x) = true → u' = v) ∧ ((okL B && (okGift B.nw n x)) = false → u' = .agg #[.slice none 0 0, .slice none 0 0, .slice none 0 0])) ∧ Below w.heap.size w w' := by
  have hn := hu.len
  obtain ⟨au, cu, rfl, _, _⟩ := id hu
  have h' := h
  obtain ⟨_, a1, z1, a2, z2, a3, z3, rfl, _⟩ := h'
  obtain ⟨ws, hws, HB, hsz, hsz1, hblk, hblk1⟩ := box2 w (.cells #[.slice a1 B.ns z1, .slice a2 B.ng z2, .slice a3 B.nw z3] 26) (.cells #[.slice none 0 0, .slice none 0 0, .slice none 0 0] 62)
  have q0 := cell_blk hblk 0 rfl
  have q1 := cell_blk hblk 1 rfl
  have q2 := cell_blk hblk 2 rfl
  have p0 := cell_blk hblk1 0 rfl
  have p1 := cell_blk hblk1 1 rfl
  have p2 := cell_blk hblk1 2 rfl
  have HBK := Lib.hid (h.go HB.out)
  have HB0 : Hid (Below ws.heap.size ws ws) := Below.refl _ _
  have HNS : Hid (N ≤ ws.heap.size) := HBK.out.1
  have hlens := h.lens
  obtain ⟨hlv, hls, hln⟩ := hlens
  have HZ1 := Lib.hid hblk1
  clear hblk hblk1 h
  have HX := Lib.hid (hu.go hM HB.out)
  have HM : Hid (M ≤ ws.heap.size) := Nat.le_trans hM HB.out.size
  clear hu hM
  have hle : w.heap.size ≤ w.heap.size + 1 := Nat.le_succ _
  cases hv : okL B with
  | false =>
    have HV := Lib.hid hv
    have HE : Hid (∀ i, errA false i = 60) := fun i => rfl
    clear hv
    go_enter Try.func56, Try.ntmps56
    go_wp2_with (go_at_call 49; refine (enter_no N _ B _ (HBK.out.go HB0.out) HV.out).mono ?_; rintro e w1 ⟨rfl, hb1⟩; have HZ := Lib.hid ((hb1.block _ hsz1).trans HZ1.out); have hs1 := Nat.lt_of_lt_of_le hsz1 hb1.size; (try clear c0); have HB1 := Lib.hid (bel HB0.out hb1); have c1 := (old_of HB1.out).1; clear hb1; obtain ⟨wv, hwv, HBv, hszv, hblkv⟩ := box1 w1 (.cells #[.slice none 0 0, .slice none 0 0, .slice none 0 0] 62); have x0 := cell_blk hblkv 0 rfl; have x1 := cell_blk hblkv 1 rfl; have x2 := cell_blk hblkv 2 rfl; have hz := (HBv.out.block _ hs1).trans HZ.out; have y0 := cell_blk hz 0 rfl; have y1 := cell_blk hz 1 rfl; have y2 := cell_blk hz 2 rfl; have f0 := free_blk hz 0; have f1 := free_blk hz 1; have f2 := free_blk hz 2; have g0 := free_blk hblkv 0; have g1 := free_blk hblkv 1; have g2 := free_blk hblkv 2; have HZv := Lib.hid hz; have HZw := Lib.hid hblkv; have hww : w1.heap.size ≠ w.heap.size + 1 := (by omega); clear hz hblkv; have HBq := Lib.hid (bel HB1.out HBv.out))
    obtain ⟨w2, hw2, _, hb2⟩ := put3 (n := w1.heap.size) HZw.out (.slice none 0 0) (.slice none 0 0) (.slice none 0 0) (Nat.le_refl _)
    rw [hw2]
    obtain ⟨w3, hw3, hz3, hb3⟩ := put3 (n := w.heap.size) ((hb2.block _ hs1).trans HZv.out) (.slice none 0 0) (.slice none 0 0) (.slice none 0 0) hle
    rw [hw3]
    have r0 := cell_blk hz3 0 rfl
    have r1 := cell_blk hz3 1 rfl
    have r2 := cell_blk hz3 2 rfl
    refine bodyPost_ret (v := .tuple #[.agg #[.slice none 0 0, .slice none 0 0, .slice none 0 0], .int .i64 60]) (by simp [results, Try.results56, go_sem, r0, r1, r2]) rfl ?_
    refine ⟨⟨_, by rw [HE.out], fun h => (by cases h), fun _ => rfl⟩, (fin HB.out HBq.out).trans ((hb2.mono ?_).trans hb3)⟩
    exact Nat.le_trans HB.out.size HB1.out.size
  | true =>
    cases hi : (okGift B.nw n x) with
    | true =>
      have HV := Lib.hid hv
      have HI := Lib.hid hi
      clear hv hi
      go_enter Try.func56, Try.ntmps56
      go_wp2_with (first
        | (go_at_call 49; refine (enter_ok N _ B _ (HBK.out.go HB0.out) HV.out).mono ?_; rintro e w1 ⟨rfl, hb1⟩; have HZ := Lib.hid ((hb1.block _ hsz1).trans HZ1.out); have hs1 := Nat.lt_of_lt_of_le hsz1 hb1.size; (try clear c0); have HB1 := Lib.hid (bel HB0.out hb1); have c1 := (old_of HB1.out).1; clear hb1; obtain ⟨wv, hwv, HBv, hszv, hblkv⟩ := box1 w1 (.cells #[.slice a1 B.ns z1, .slice a2 B.ng z2, .slice a3 B.nw z3] 62); have x0 := cell_blk hblkv 0 rfl; have x1 := cell_blk hblkv 1 rfl; have x2 := cell_blk hblkv 2 rfl; have hz := (HBv.out.block _ hs1).trans HZ.out; have HZv := Lib.hid hz; clear hz hblkv; have HBq := Lib.hid (bel HB1.out HBv.out); have cq := (old_of HBq.out).1; clear c1)
        | (go_at_call 74; refine (validGift_any N M _ _ B n x _ (HBK.out.go HBq.out) (HX.out.go HM.out HBq.out) (Nat.le_trans HM.out HBq.out.size)).mono ?_; rintro e w2 ⟨rfl, hb2⟩; rw [HI.out]; have hz := (hb2.block _ (heap_lt' HZv.out)).trans HZv.out; have y0 := cell_blk hz 0 rfl; have y1 := cell_blk hz 1 rfl; have y2 := cell_blk hz 2 rfl; have f0 := free_blk hz 0; have f1 := free_blk hz 1; have f2 := free_blk hz 2; have HZu := Lib.hid hz; clear hz; have x0' := (hb2.cell (p := ⟨w1.heap.size, 0, none⟩) hszv).trans x0; have x1' := (hb2.cell (p := ⟨w1.heap.size, 1, none⟩) hszv).trans x1; have x2' := (hb2.cell (p := ⟨w1.heap.size, 2, none⟩) hszv).trans x2; have HBu := Lib.hid (bel HBq.out hb2); clear hb2))
      obtain ⟨w3, hw3, hz3, hb3⟩ := put3 (n := w.heap.size) HZu.out (.slice a1 B.ns z1) (.slice a2 B.ng z2) (.slice a3 B.nw z3) hle
      rw [hw3]
      have r0 := cell_blk hz3 0 rfl
      have r1 := cell_blk hz3 1 rfl
      have r2 := cell_blk hz3 2 rfl
      refine bodyPost_ret (v := .tuple #[.agg #[.slice a1 B.ns z1, .slice a2 B.ng z2, .slice a3 B.nw z3], .int .i64 0]) (by simp [results, Try.results56, go_sem, r0, r1, r2]) rfl ?_
      exact ⟨⟨_, rfl, fun _ _ => rfl, fun h => (by simp at h)⟩, (fin HB.out HBu.out).trans hb3⟩
    | false =>
      have HV := Lib.hid hv
      have HI := Lib.hid hi
      clear hv hi
      go_enter Try.func56, Try.ntmps56
      go_wp2_with (first
        | (go_at_call 49; refine (enter_ok N _ B _ (HBK.out.go HB0.out) HV.out).mono ?_; rintro e w1 ⟨rfl, hb1⟩; have HZ := Lib.hid ((hb1.block _ hsz1).trans HZ1.out); have hs1 := Nat.lt_of_lt_of_le hsz1 hb1.size; (try clear c0); have HB1 := Lib.hid (bel HB0.out hb1); have c1 := (old_of HB1.out).1; clear hb1; obtain ⟨wv, hwv, HBv, hszv, hblkv⟩ := box1 w1 (.cells #[.slice a1 B.ns z1, .slice a2 B.ng z2, .slice a3 B.nw z3] 62); have x0 := cell_blk hblkv 0 rfl; have x1 := cell_blk hblkv 1 rfl; have x2 := cell_blk hblkv 2 rfl; have hz := (HBv.out.block _ hs1).trans HZ.out; have HZv := Lib.hid hz; clear hz hblkv; have HBq := Lib.hid (bel HB1.out HBv.out); have cq := (old_of HBq.out).1; clear c1)
        | (go_at_call 74; refine (validGift_any N M _ _ B n x _ (HBK.out.go HBq.out) (HX.out.go HM.out HBq.out) (Nat.le_trans HM.out HBq.out.size)).mono ?_; rintro e w2 ⟨rfl, hb2⟩; rw [HI.out]; have hz := (hb2.block _ (heap_lt' HZv.out)).trans HZv.out; have y0 := cell_blk hz 0 rfl; have y1 := cell_blk hz 1 rfl; have y2 := cell_blk hz 2 rfl; have f0 := free_blk hz 0; have f1 := free_blk hz 1; have f2 := free_blk hz 2; have HZu := Lib.hid hz; clear hz; have x0' := (hb2.cell (p := ⟨w1.heap.size, 0, none⟩) hszv).trans x0; have x1' := (hb2.cell (p := ⟨w1.heap.size, 1, none⟩) hszv).trans x1; have x2' := (hb2.cell (p := ⟨w1.heap.size, 2, none⟩) hszv).trans x2; have HBu := Lib.hid (bel HBq.out hb2); clear hb2))
      obtain ⟨w3, hw3, hz3, hb3⟩ := put3 (n := w.heap.size) HZu.out (.slice none 0 0) (.slice none 0 0) (.slice none 0 0) hle
      rw [hw3]
      have r0 := cell_blk hz3 0 rfl
      have r1 := cell_blk hz3 1 rfl
      have r2 := cell_blk hz3 2 rfl
      refine bodyPost_ret (v := .tuple #[.agg #[.slice none 0 0, .slice none 0 0, .slice none 0 0], .int .i64 1]) (by simp [results, Try.results56, go_sem, r0, r1, r2]) rfl ?_
      exact ⟨⟨_, rfl, fun _ h => (by cases h), fun _ => rfl⟩, (fin HB.out HBu.out).trans hb3⟩

end Go.Proofs.Ytnnngbnimmcjiaa
