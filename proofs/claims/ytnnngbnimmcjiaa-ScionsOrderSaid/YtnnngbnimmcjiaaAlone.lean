/-
  Alone: Alone of package scions; Place and Alone of the reference.
-/
import Derived.Test.YtnnngbnimmcjiaaPlace
namespace Go.Proofs.Ytnnngbnimmcjiaa
open Go.RowKit

set_option maxHeartbeats 1600000 in
theorem often_mk (s : Nat) (w : World) :
    Calls Try.prog 59 #[.int .i64 s] w fun e w' => e = .returned (.func (.func 76) #[] #[.pointer (some ⟨w.heap.size, 0, none⟩)]) ∧ w'.cell? ⟨w.heap.size, 0, none⟩ = some (.int .i64 s) ∧ w.heap.size < w'.heap.size ∧ Below w.heap.size w w' := by
  obtain ⟨ws, hws, HB, hsz, hblk⟩ := box1 w (.cells #[.int .i64 s] 3)
  have HC := Lib.hid (cell_blk hblk 0 rfl)
  clear hblk
  go_enter Try.func59, Try.ntmps59
  go_wp2
  go_ret
  exact ⟨rfl, HC.out, hsz, HB.out⟩

set_option maxHeartbeats 3200000 in
set_option maxRecDepth 100000 in
theorem kAlone_any (N : Nat) (v : Value) (B : SB) (a : Int) (w : World) (h : BookAt N w v B) :
    Calls Try.prog 22 #[v, .int .i64 a] w fun e w' => e = .returned (.tuple #[.int .i64 (eAlone B a).1, .int .i64 (eAlone B a).2]) ∧ Below w.heap.size w w' := by
  have h' := h
  obtain ⟨_, a1, z1, a2, z2, a3, z3, rfl, _⟩ := h'
  obtain ⟨ws, hws, HB, hsz, hblk⟩ := box1 w (.cells #[.slice a1 B.ns z1, .slice a2 B.ng z2, .slice a3 B.nw z3] 26)
  have q0 := cell_blk hblk 0 rfl
  have q1 := cell_blk hblk 1 rfl
  have q2 := cell_blk hblk 2 rfl
  have HBK := Lib.hid (h.go HB.out)
  have HB0 : Hid (Below ws.heap.size ws ws) := Below.refl _ _
  have HNS : Hid (N ≤ ws.heap.size) := HBK.out.1
  have hlens := h.lens
  obtain ⟨hlv, hls, hln⟩ := hlens
  clear hblk h
  cases hvi : (okL B && (decide (0 ≤ a) && decide (a < B.ns))) with
  | false =>
    have HVI := Lib.hid hvi
    have HE : Hid (eAlone B a = (0, errA (okL B) (decide (0 ≤ a) && decide (a < B.ns)))) := by unfold Hid eAlone; rw [hvi]; rfl
    obtain ⟨er, her⟩ : ∃ er, errA (okL B) (decide (0 ≤ a) && decide (a < B.ns)) = er := ⟨_, rfl⟩
    have HER := Lib.hid her
    have hne : (er != 0) = true := by rw [← her]; simpa using errA_no hvi
    rw [her] at HE
    clear hvi her
    go_enter Try.func22, Try.ntmps22
    go_wp2_with (go_at_call 58; refine (enterAsked_any N _ B a B.ns _ (HBK.out.go HB0.out)).mono ?_; rintro e w1 ⟨⟨u, rfl, _, hu⟩, hb1⟩; obtain rfl := hu HVI.out; rw [HER.out]; have HB1 := Lib.hid hb1; clear hb1; obtain ⟨wv, hwv, HBv, hszv, hblkv⟩ := box1 w1 (.cells #[.slice none 0 0, .slice none 0 0, .slice none 0 0] 62); have x0 := cell_blk hblkv 0 rfl; have x1 := cell_blk hblkv 1 rfl; have x2 := cell_blk hblkv 2 rfl; have y0 := free_blk hblkv 0; have y1 := free_blk hblkv 1; have y2 := free_blk hblkv 2; have HBq := Lib.hid (bel HB1.out HBv.out); have HZv := Lib.hid hblkv; clear hblkv)
    obtain ⟨w3, hw3, hz3, hb3⟩ := put3 (n := w1.heap.size) HZv.out (.slice none 0 0) (.slice none 0 0) (.slice none 0 0) (Nat.le_refl _)
    (try rw [hw3])
    go_ret2
    exact ⟨by rw [HE.out]; rfl, (fin HB.out HBq.out).trans (hb3.mono (Nat.le_trans HB.out.size HB1.out.size))⟩
  | true =>
    have hvi' := hvi
    rw [Bool.and_eq_true] at hvi'
    obtain ⟨hv, hi⟩ := hvi'
    have HV := Lib.hid hv
    have HI := Lib.hid hi
    obtain ⟨k, rfl⟩ : ∃ k : Nat, a = k := ⟨a.toNat, by simp at hi; omega⟩
    have hk : k < B.ns := by simp at hi; omega
    have HG := Lib.hid (goodL hv)
    have hk4 : k < 4 := by have := HG.out.ns; omega
    obtain ⟨s1, hs1⟩ : ∃ s, cS B (bestL (fun g => cS B g k) (giftsL B)) k = s := ⟨_, rfl⟩
    have HE : Hid (eAlone B k = ((s1 : Int), 0)) := by unfold Hid eAlone; rw [hvi, Int.toNat_natCast, hs1]; rfl
    have HS1 := Lib.hid hs1
    clear hv hi hvi hs1
    go_enter Try.func22, Try.ntmps22
    go_upto_region 4 with (go_at_call 58; refine (enterAsked_any N _ B k B.ns _ (HBK.out.go HB0.out)).mono ?_; rintro e w1 ⟨⟨u, rfl, hu, _⟩, hb1⟩; obtain rfl := hu HV.out HI.out; rw [HV.out, HI.out, show errA true true = 0 from rfl]; have HB1 := Lib.hid hb1; clear hb1; obtain ⟨wv, hwv, HBv, hszv, hblkv⟩ := box1 w1 (.cells #[.slice a1 B.ns z1, .slice a2 B.ng z2, .slice a3 B.nw z3] 62); have x0 := cell_blk hblkv 0 rfl; have x1 := cell_blk hblkv 1 rfl; have x2 := cell_blk hblkv 2 rfl; have HBq := Lib.hid (bel HB1.out HBv.out); clear hblkv)
    clear hws
    have HBZ : Hid (Below wv.heap.size wv wv) := Below.refl _ _
    have SZd := old_of HBZ.out.drew; have HBZd := SZd.2
    refine wp_region_held_drew (S := (fun w' => (∀ b o, b < wv.heap.size → w'.cell? ⟨b, o, none⟩ = wv.cell? ⟨b, o, none⟩) ∧ Hid (Below wv.heap.size wv w'))) (by kernel_rfl) SZd (fun hHeld => ?_)
    (refine wpAnyH_take (i := 0) (v := ?_) rfl (by kernel_rfl) (by kernel_rfl) (by kernel_rfl) (fun _ _ _ h => h) (Or.inl ⟨by rfl, ?_⟩) (by assumption) ?_; rotate_left; (focus (intro w hSw; (try dsimp only at hSw); go_simp; (try with_reducible rfl))); (try simp only [List.getElem_toArray, List.getElem_cons_zero, List.getElem_cons_succ, Act.put, List.setIfInBounds_toArray, List.set_cons_zero, List.set_cons_succ])); (refine wpAnyH_take (i := 1) (v := ?_) rfl (by kernel_rfl) (by kernel_rfl) (by kernel_rfl) (fun _ _ _ h => h) (Or.inl ⟨by rfl, ?_⟩) (by assumption) ?_; rotate_left; (focus (intro w hSw; (try dsimp only at hSw); go_simp; (try with_reducible rfl))); (try simp only [List.getElem_toArray, List.getElem_cons_zero, List.getElem_cons_succ, Act.put, List.setIfInBounds_toArray, List.set_cons_zero, List.set_cons_succ]))
    refine wpAnyH_ready (rs := [2]) (by kernel_rfl) (by simp) ?_; refine AllReadyH.cons rfl (fun K hK => ?_) AllReadyH.nil; go_simp
    go_at_call 59
    refine (often_mk k _).mono ?_
    rintro e w5 ⟨rfl, hc5, hl5, hb5⟩
    have HC5 := Lib.hid hc5
    have HL5 := Lib.hid hl5
    have S5 := old_of (bel HBZd.out hb5)
    have HB5 := S5.2
    clear hb5 hc5 hl5
    refine hK.out _ _ S5 (fun hHeld => ?_); clear hK K; (try simp only [List.getElem_toArray, List.getElem_cons_zero, List.getElem_cons_succ, Act.put, List.setIfInBounds_toArray, List.set_cons_zero, List.set_cons_succ])
    refine wpAnyH_ready (rs := [3]) (by kernel_rfl) (by simp) ?_; refine AllReadyH.cons rfl (fun K hK => ?_) AllReadyH.nil; go_simp
    go_at_call 50
    refine (most_often N _ B 4 _ k _ (HBK.out.go (bel HBq.out HB5.out)) HG.out hk4 HC5.out HL5.out).mono ?_
    rw [show ((fun g => cS B g k) (bestL (fun g => cS B g k) (giftsL B))) = s1 from HS1.out]
    rintro e w7 ⟨rfl, hb7⟩
    have S7 := old_of (bel HB5.out hb7)
    have HB7 := S7.2
    clear hb7 S5
    refine hK.out _ _ S7 (fun hHeld => ?_); clear hK K; (try simp only [List.getElem_toArray, List.getElem_cons_zero, List.getElem_cons_succ, Act.put, List.setIfInBounds_toArray, List.set_cons_zero, List.set_cons_succ])
    (refine wpAnyH_take (i := 4) (v := ?_) rfl (by kernel_rfl) (by kernel_rfl) (by kernel_rfl) (fun _ _ _ h => h) (Or.inl ⟨by rfl, ?_⟩) (by assumption) ?_; rotate_left; (focus (intro w hSw; (try dsimp only at hSw); go_simp; (try with_reducible rfl))); (try simp only [List.getElem_toArray, List.getElem_cons_zero, List.getElem_cons_succ, Act.put, List.setIfInBounds_toArray, List.set_cons_zero, List.set_cons_succ])); (refine wpAnyH_take (i := 5) (v := ?_) rfl (by kernel_rfl) (by kernel_rfl) (by kernel_rfl) (fun _ _ _ h => h) (Or.inl ⟨by rfl, ?_⟩) (by assumption) ?_; rotate_left; (focus (intro w hSw; (try dsimp only at hSw); go_simp; (try with_reducible rfl))); (try simp only [List.getElem_toArray, List.getElem_cons_zero, List.getElem_cons_succ, Act.put, List.setIfInBounds_toArray, List.set_cons_zero, List.set_cons_succ]))
    refine wpAnyH_done (by kernel_rfl) ?_ _; clear hHeld
    clear S7 SZd
    go_wp2
    go_ret2
    exact ⟨by rw [HE.out]; rfl, fin HB.out (bel HBq.out HB7.out)⟩

end Go.Proofs.Ytnnngbnimmcjiaa
