/-
  Exp3: Fits, Lost of package scions.
-/
import Derived.Test.YtnnngbnimmcjiaaExp2
namespace Go.Proofs.Ytnnngbnimmcjiaa
open Go.RowKit

theorem okGift_nat {nw n : Nat} {x : Nat → Int} (h : okGift nw n x = true) : ∀ i, i < n → 0 ≤ x i ∧ x i < nw := fun i hi => by
  unfold okGift at h
  have := allB_true.1 h i hi
  simp only [Bool.and_eq_true, decide_eq_true_eq] at this
  exact this.1
theorem okGift_len {nw n : Nat} {x : Nat → Int} (h : okGift nw n x = true) : n ≤ nw := by
  have hh : ∀ i, i < n → (i : Int) ≤ x i := by
    intro i
    induction i with
    | zero => intro hi; exact (okGift_nat h 0 hi).1
    | succ i ih =>
      intro hi
      have h1 := ih (by omega)
      have h2 := allB_true.1 (by unfold okGift at h; exact h) (i + 1) hi
      simp only [Bool.and_eq_true, Bool.or_eq_true, decide_eq_true_eq, Nat.add_sub_cancel] at h2
      rcases h2.2 with h3 | h3 <;> omega
  rcases Nat.eq_zero_or_pos n with h0 | h0
  · omega
  · have h1 := hh (n - 1) (by omega)
    have h2 := okGift_nat h (n - 1) (by omega)
    omega
theorem errA_no {ok is : Bool} (h : (ok && is) = false) : errA ok is ≠ 0 := by
  cases ok <;> cases is <;> simp_all [errA]

def eFits (B : SB) (n : Nat) (x : Nat → Int) : Bool × Int := if okL B && okGift B.nw n x then (fitL B (natL n x), 0) else (false, errA (okL B) (okGift B.nw n x))
def eLost (B : SB) (n : Nat) (x : Nat → Int) (f : Int) : List Int × Int := if okL B && okGift B.nw n x then (if fitL B (natL n x) && (decide (0 ≤ f) && decide (f < 4)) then (sel (lostP B (natL n x) f.toNat) 4, 0) else ([], 1)) else ([], errA (okL B) (okGift B.nw n x))

set_option maxRecDepth 100000 in
set_option maxHeartbeats 1600000 in
theorem kFits_any (N M : Nat) (v u : Value) (B : SB) (n : Nat) (x : Nat → Int) (w : World) (h : BookAt N w v B) (hu : IntsAt M w u n x) (hM : M ≤ w.heap.size) :
    Calls Try.prog 18 #[v, u] w fun e w' => e = .returned (.tuple #[.bool (eFits B n x).1, .int .i64 (eFits B n x).2]) ∧ Below w.heap.size w w' := by
  have hn := hu.len
  obtain ⟨au, cu, rfl, _, _⟩ := id hu
  have h' := h
  obtain ⟨_, a1, z1, a2, z2, a3, z3, rfl, _⟩ := h'
  obtain ⟨ws, hws, HB, hsz, hblk⟩ := box1 w (.cells #[.slice a1 B.ns z1, .slice a2 B.ng z2, .slice a3 B.nw z3] 26)
  have q0 := cell_blk hblk 0 rfl
  have q1 := cell_blk hblk 1 rfl
  have q2 := cell_blk hblk 2 rfl
  have HBK := Lib.hid (h.go HB.out)
  have HB0 : Hid (Below ws.heap.size ws ws) := Below.refl _ _
  have HNS : Hid (N ≤ ws.heap.size) := HBK.out.1
  have hlens := h.lens
  obtain ⟨hlv, hls, hln⟩ := hlens
  clear hblk h
  have HX := Lib.hid (hu.go hM HB.out)
  have HM : Hid (M ≤ ws.heap.size) := Nat.le_trans hM HB.out.size
  clear hu hM
  cases hvi : (okL B && okGift B.nw n x) with
  | false =>
    have HVI := Lib.hid hvi
    have HE : Hid (eFits B n x = (false, errA (okL B) (okGift B.nw n x))) := by unfold Hid eFits; rw [hvi]; rfl
    obtain ⟨er, her⟩ : ∃ er, errA (okL B) (okGift B.nw n x) = er := ⟨_, rfl⟩
    have HER := Lib.hid her
    have hne : (er != 0) = true := by rw [← her]; simpa using errA_no hvi
    rw [her] at HE
    clear hvi her
    go_enter Try.func18, Try.ntmps18
    go_wp2_with (go_at_call 56; refine (enterGift_any N M _ _ B n x _ (HBK.out.go HB0.out) HX.out HM.out).mono ?_; rintro e w1 ⟨⟨u, rfl, _, hu⟩, hb1⟩; obtain rfl := hu HVI.out; rw [HER.out]; have HB1 := Lib.hid hb1; clear hb1; obtain ⟨wv, hwv, HBv, hszv, hblkv⟩ := box1 w1 (.cells #[.slice none 0 0, .slice none 0 0, .slice none 0 0] 62); have x0 := cell_blk hblkv 0 rfl; have x1 := cell_blk hblkv 1 rfl; have x2 := cell_blk hblkv 2 rfl; have y0 := free_blk hblkv 0; have y1 := free_blk hblkv 1; have y2 := free_blk hblkv 2; have HBq := Lib.hid (bel HB1.out HBv.out); have HZv := Lib.hid hblkv; clear hblkv)
    obtain ⟨w3, hw3, hz3, hb3⟩ := put3 (n := w1.heap.size) HZv.out (.slice none 0 0) (.slice none 0 0) (.slice none 0 0) (Nat.le_refl _)
    (try rw [hw3])
    go_ret2
    exact ⟨by rw [HE.out]; rfl, (fin HB.out HBq.out).trans (hb3.mono (Nat.le_trans HB.out.size HB1.out.size))⟩
  | true =>
    have hvi' := hvi
    rw [Bool.and_eq_true] at hvi'
    obtain ⟨hv, hi⟩ := hvi'
    have HV := Lib.hid hv
    have HI := Lib.hid hi
    have HE : Hid (eFits B n x = (fitL B (natL n x), 0)) := by unfold Hid eFits; rw [hvi]; rfl
    have HG := Lib.hid (goodL hv)
    have HNL : Hid (n ≤ 1000) := by have := okGift_len hi; have := (goodL hv).nw; unfold Hid; omega
    have HNT := Lib.hid (okGift_nat hi)
    clear hv hi hvi
    obtain ⟨fb, hfb⟩ : ∃ fb, fitL B (natL n x) = fb := ⟨_, rfl⟩
    have HFB := Lib.hid hfb
    rw [hfb] at HE
    clear hfb
    go_enter Try.func18, Try.ntmps18
    go_wp2_with (first
      | (go_at_call 56; refine (enterGift_any N M _ _ B n x _ (HBK.out.go HB0.out) HX.out HM.out).mono ?_; rintro e w1 ⟨⟨u, rfl, hu, _⟩, hb1⟩; obtain rfl := hu HV.out HI.out; rw [HV.out, HI.out, show errA true true = 0 from rfl]; have HB1 := Lib.hid hb1; clear hb1; obtain ⟨wv, hwv, HBv, hszv, hblkv⟩ := box1 w1 (.cells #[.slice a1 B.ns z1, .slice a2 B.ng z2, .slice a3 B.nw z3] 62); have x0 := cell_blk hblkv 0 rfl; have x1 := cell_blk hblkv 1 rfl; have x2 := cell_blk hblkv 2 rfl; have y0 := free_blk hblkv 0; have y1 := free_blk hblkv 1; have y2 := free_blk hblkv 2; have HBq := Lib.hid (bel HB1.out HBv.out); have HZv := Lib.hid hblkv; clear hblkv)
      | (go_at_call 57; refine (give_any N M _ _ B n 4 x _ (HBK.out.go HBq.out) HG.out (HX.out.go HM.out HBq.out) (Nat.le_trans HM.out HBq.out.size) HNT.out HNL.out).mono ?_; rw [HFB.out]; rintro e w2 ⟨⟨cs, rfl, hs25, hone, _⟩, hb2⟩; have HB2 := Lib.hid (bel HBq.out hb2); have H25 := Lib.hid hs25; have HONE := Lib.hid hone; clear hb2 hs25 hone)
      | (refine wp_stG rfl _ _ rfl w2.heap.size cs rfl rfl (t := 78) (old := zeroG) (World.alloc_heap_new _ _) rfl H25.out HONE.out ?_; obtain ⟨w4, hw4, hz4, hb4⟩ := alloc_row (W := w2) (old := zeroG) (cs := cs) (t := 78); unfold zeroG at hw4; rw [hw4]; have HB4 := Lib.hid (bel HB2.out hb4); clear hz4 hb4 hw4))
    go_ret2
    exact ⟨by rw [HE.out]; rfl, fin HB.out HB4.out⟩

set_option maxRecDepth 100000 in
set_option maxHeartbeats 3200000 in
theorem kLost_any (N M : Nat) (v u : Value) (B : SB) (n : Nat) (x : Nat → Int) (f : Int) (w : World) (h : BookAt N w v B) (hu : IntsAt M w u n x) (hM : M ≤ w.heap.size) :
    Calls Try.prog 28 #[v, u, .int .i64 f] w (GivesIE w.heap.size w (eLost B n x f).1 (eLost B n x f).2) := by
  have hn := hu.len
  obtain ⟨au, cu, rfl, _, _⟩ := id hu
  have h' := h
  obtain ⟨_, a1, z1, a2, z2, a3, z3, rfl, _⟩ := h'
  obtain ⟨ws, hws, HB, hsz, hblk⟩ := box1 w (.cells #[.slice a1 B.ns z1, .slice a2 B.ng z2, .slice a3 B.nw z3] 26)
  have q0 := cell_blk hblk 0 rfl
  have q1 := cell_blk hblk 1 rfl
  have q2 := cell_blk hblk 2 rfl
  have HBK := Lib.hid (h.go HB.out)
  have HB0 : Hid (Below ws.heap.size ws ws) := Below.refl _ _
  have HNS : Hid (N ≤ ws.heap.size) := HBK.out.1
  have hlens := h.lens
  obtain ⟨hlv, hls, hln⟩ := hlens
  clear hblk h
  have HX := Lib.hid (hu.go hM HB.out)
  have HM : Hid (M ≤ ws.heap.size) := Nat.le_trans hM HB.out.size
  clear hu hM
  cases hvi : (okL B && okGift B.nw n x) with
  | false =>
    have HVI := Lib.hid hvi
    have HE : Hid (eLost B n x f = ([], errA (okL B) (okGift B.nw n x))) := by unfold Hid eLost; rw [hvi]; rfl
    obtain ⟨er, her⟩ : ∃ er, errA (okL B) (okGift B.nw n x) = er := ⟨_, rfl⟩
    have HER := Lib.hid her
    have hne : (er != 0) = true := by rw [← her]; simpa using errA_no hvi
    rw [her] at HE
    clear hvi her
    go_enter Try.func28, Try.ntmps28
    go_wp2_with (go_at_call 56; refine (enterGift_any N M _ _ B n x _ (HBK.out.go HB0.out) HX.out HM.out).mono ?_; rintro e w1 ⟨⟨u, rfl, _, hu⟩, hb1⟩; obtain rfl := hu HVI.out; rw [HER.out]; have HB1 := Lib.hid hb1; clear hb1; obtain ⟨wv, hwv, HBv, hszv, hblkv⟩ := box1 w1 (.cells #[.slice none 0 0, .slice none 0 0, .slice none 0 0] 62); have x0 := cell_blk hblkv 0 rfl; have x1 := cell_blk hblkv 1 rfl; have x2 := cell_blk hblkv 2 rfl; have y0 := free_blk hblkv 0; have y1 := free_blk hblkv 1; have y2 := free_blk hblkv 2; have HBq := Lib.hid (bel HB1.out HBv.out); have HZv := Lib.hid hblkv; clear hblkv)
    obtain ⟨w3, hw3, hz3, hb3⟩ := put3 (n := w1.heap.size) HZv.out (.slice none 0 0) (.slice none 0 0) (.slice none 0 0) (Nat.le_refl _)
    (try rw [hw3])
    go_ret2
    exact ⟨.slice none 0 0, by rw [HE.out]; rfl, by rw [HE.out]; exact World.ownsRow_nil _ _ _ _, (fin HB.out HBq.out).trans (hb3.mono (Nat.le_trans HB.out.size HB1.out.size))⟩
  | true =>
    have hvi' := hvi
    rw [Bool.and_eq_true] at hvi'
    obtain ⟨hv, hi⟩ := hvi'
    have HV := Lib.hid hv
    have HI := Lib.hid hi
    have HE : Hid (eLost B n x f = if fitL B (natL n x) && (decide (0 ≤ f) && decide (f < 4)) then (sel (lostP B (natL n x) f.toNat) 4, 0) else ([], 1)) := by unfold Hid eLost; rw [hvi]; rfl
    have HG := Lib.hid (goodL hv)
    have HNL : Hid (n ≤ 1000) := by have := okGift_len hi; have := (goodL hv).nw; unfold Hid; omega
    have HNT := Lib.hid (okGift_nat hi)
    clear hv hi hvi
    cases hfb : fitL B (natL n x) with
    | false =>
      have HFB := Lib.hid hfb
      have HE2 : Hid (eLost B n x f = ([], 1)) := by unfold Hid; rw [HE.out, hfb]; rfl
      clear hfb
      go_enter Try.func28, Try.ntmps28
      go_wp2_with (first
        | (go_at_call 56; refine (enterGift_any N M _ _ B n x _ (HBK.out.go HB0.out) HX.out HM.out).mono ?_; rintro e w1 ⟨⟨u, rfl, hu, _⟩, hb1⟩; obtain rfl := hu HV.out HI.out; rw [HV.out, HI.out, show errA true true = 0 from rfl]; have HB1 := Lib.hid hb1; clear hb1; obtain ⟨wv, hwv, HBv, hszv, hblkv⟩ := box1 w1 (.cells #[.slice a1 B.ns z1, .slice a2 B.ng z2, .slice a3 B.nw z3] 62); have x0 := cell_blk hblkv 0 rfl; have x1 := cell_blk hblkv 1 rfl; have x2 := cell_blk hblkv 2 rfl; have y0 := free_blk hblkv 0; have y1 := free_blk hblkv 1; have y2 := free_blk hblkv 2; have HBq := Lib.hid (bel HB1.out HBv.out); have HZv := Lib.hid hblkv; clear hblkv)
        | (go_at_call 57; refine (give_any N M _ _ B n 4 x _ (HBK.out.go HBq.out) HG.out (HX.out.go HM.out HBq.out) (Nat.le_trans HM.out HBq.out.size) HNT.out HNL.out).mono ?_; rw [HFB.out]; rintro e w2 ⟨⟨cs, rfl, hs25, hone, _⟩, hb2⟩; have HB2 := Lib.hid (bel HBq.out hb2); have H25 := Lib.hid hs25; have HONE := Lib.hid hone; clear hb2 hs25 hone)
        | (refine wp_stG rfl _ _ rfl w2.heap.size cs rfl rfl (t := 78) (old := zeroG) (World.alloc_heap_new _ _) rfl H25.out HONE.out ?_; obtain ⟨w4, hw4, hz4, hb4⟩ := alloc_row (W := w2) (old := zeroG) (cs := cs) (t := 78); unfold zeroG at hw4; rw [hw4]; have HB4 := Lib.hid (bel HB2.out hb4); clear hz4 hb4 hw4))
      go_ret2
      exact ⟨.slice none 0 0, by rw [HE2.out]; rfl, by rw [HE2.out]; exact World.ownsRow_nil _ _ _ _, fin HB.out HB4.out⟩
    | true =>
      have HFB := Lib.hid hfb
      cases hf4 : (decide (0 ≤ f) && decide (f < 4)) with
      | false =>
        have HF4 := Lib.hid hf4
        have HE2 : Hid (eLost B n x f = ([], 1)) := by unfold Hid; rw [HE.out, hfb, hf4]; rfl
        clear hfb hf4
        go_enter Try.func28, Try.ntmps28
        go_wp2_with (first
          | (go_at_call 56; refine (enterGift_any N M _ _ B n x _ (HBK.out.go HB0.out) HX.out HM.out).mono ?_; rintro e w1 ⟨⟨u, rfl, hu, _⟩, hb1⟩; obtain rfl := hu HV.out HI.out; rw [HV.out, HI.out, show errA true true = 0 from rfl]; have HB1 := Lib.hid hb1; clear hb1; obtain ⟨wv, hwv, HBv, hszv, hblkv⟩ := box1 w1 (.cells #[.slice a1 B.ns z1, .slice a2 B.ng z2, .slice a3 B.nw z3] 62); have x0 := cell_blk hblkv 0 rfl; have x1 := cell_blk hblkv 1 rfl; have x2 := cell_blk hblkv 2 rfl; have y0 := free_blk hblkv 0; have y1 := free_blk hblkv 1; have y2 := free_blk hblkv 2; have HBq := Lib.hid (bel HB1.out HBv.out); have HZv := Lib.hid hblkv; clear hblkv)
          | (go_at_call 57; refine (give_any N M _ _ B n 4 x _ (HBK.out.go HBq.out) HG.out (HX.out.go HM.out HBq.out) (Nat.le_trans HM.out HBq.out.size) HNT.out HNL.out).mono ?_; rw [HFB.out]; rintro e w2 ⟨⟨cs, rfl, hs25, hone, _⟩, hb2⟩; have HB2 := Lib.hid (bel HBq.out hb2); have H25 := Lib.hid hs25; have HONE := Lib.hid hone; clear hb2 hs25 hone)
          | (refine wp_stG rfl _ _ rfl w2.heap.size cs rfl rfl (t := 78) (old := zeroG) (World.alloc_heap_new _ _) rfl H25.out HONE.out ?_; obtain ⟨w4, hw4, hz4, hb4⟩ := alloc_row (W := w2) (old := zeroG) (cs := cs) (t := 78); unfold zeroG at hw4; rw [hw4]; have HB4 := Lib.hid (bel HB2.out hb4); clear hz4 hb4 hw4)
          | (go_at_call 62; refine (kwithin_eq _ _ _ _ HF4.out).mono ?_; rintro e w5 ⟨rfl, rfl⟩))
        go_ret2
        exact ⟨.slice none 0 0, by rw [HE2.out]; rfl, by rw [HE2.out]; exact World.ownsRow_nil _ _ _ _, fin HB.out HB4.out⟩
      | true =>
        have HF4 := Lib.hid hf4
        have HE2 : Hid (eLost B n x f = (sel (lostP B (natL n x) f.toNat) 4, 0)) := by unfold Hid; rw [HE.out, hfb, hf4]; rfl
        obtain ⟨k, rfl⟩ : ∃ k : Nat, f = k := ⟨f.toNat, by simp at hf4; omega⟩
        have hk4 : k < 4 := by simp at hf4; omega
        clear hfb hf4
        go_enter Try.func28, Try.ntmps28
        go_wp2_with (first
          | (go_at_call 56; refine (enterGift_any N M _ _ B n x _ (HBK.out.go HB0.out) HX.out HM.out).mono ?_; rintro e w1 ⟨⟨u, rfl, hu, _⟩, hb1⟩; obtain rfl := hu HV.out HI.out; rw [HV.out, HI.out, show errA true true = 0 from rfl]; have HB1 := Lib.hid hb1; clear hb1; obtain ⟨wv, hwv, HBv, hszv, hblkv⟩ := box1 w1 (.cells #[.slice a1 B.ns z1, .slice a2 B.ng z2, .slice a3 B.nw z3] 62); have x0 := cell_blk hblkv 0 rfl; have x1 := cell_blk hblkv 1 rfl; have x2 := cell_blk hblkv 2 rfl; have y0 := free_blk hblkv 0; have y1 := free_blk hblkv 1; have y2 := free_blk hblkv 2; have HBq := Lib.hid (bel HB1.out HBv.out); have HZv := Lib.hid hblkv; clear hblkv)
          | (go_at_call 57; refine (give_any N M _ _ B n 4 x _ (HBK.out.go HBq.out) HG.out (HX.out.go HM.out HBq.out) (Nat.le_trans HM.out HBq.out.size) HNT.out HNL.out).mono ?_; rw [HFB.out]; rintro e w2 ⟨⟨cs, rfl, hs25, hone, hgv⟩, hb2⟩; have HB2 := Lib.hid (bel HBq.out hb2); have H25 := Lib.hid hs25; have HONE := Lib.hid hone; have HGV := Lib.hid (hgv rfl); clear hb2 hs25 hone hgv)
          | (refine wp_stG rfl _ _ rfl w2.heap.size cs rfl rfl (t := 78) (old := zeroG) (World.alloc_heap_new _ _) rfl H25.out HONE.out ?_; obtain ⟨w4, hw4, hz4, hb4⟩ := alloc_row (W := w2) (old := zeroG) (cs := cs) (t := 78); unfold zeroG at hw4; rw [hw4]; have HB4 := Lib.hid (bel HB2.out hb4); have HZ4 := Lib.hid hz4; clear hz4 hb4 hw4)
          | (go_at_call 62; refine (kwithin_eq _ _ _ _ HF4.out).mono ?_; rintro e w5 ⟨rfl, rfl⟩)
          | (refine wp_ldG rfl _ rfl w2.heap.size rfl (t := 78) (cs := cs) HZ4.out H25.out ?_)
          | (go_at_call 63; refine (lost_any B cs (natL n x) k _ HGV.out hk4).mono ?_; rintro e w6 ⟨u6, rfl, ho6, hb6⟩; have HO6 := Lib.hid ho6; have HB6 := Lib.hid (bel HB4.out hb6); clear ho6 hb6))
        go_ret2
        exact ⟨u6, by rw [HE2.out]; rfl, by rw [HE2.out]; exact own_mono HO6.out (Nat.le_trans HB.out.size HB4.out.size), fin HB.out HB6.out⟩

end Go.Proofs.Ytnnngbnimmcjiaa
