/-
  Exp2: Best, Fits, Lost, Alone, Place of package scions.
-/
import Derived.Test.YtnnngbnimmcjiaaExp
namespace Go.Proofs.Ytnnngbnimmcjiaa
open Go.RowKit

theorem slice_counts (b n : Nat) (hn : n ≤ 4) : ∀ w' : World, (Instr.sliceAt 69 (.pointer (some ⟨b, 0, none⟩)) none (some (.int .i64 (n : Int))) none).run Try.prog w' = .ok (.slice (some ⟨b, 0, none⟩) n 4) w' := fun w' => by
  have hal4 : Try.prog.arrayLen 69 = 4 := by kernel_rfl
  have h1 := run_sliceAt_array_h (P := Try.prog) w' 69 ⟨b, 0, none⟩ (by kernel_rfl) .i64 (n : Int) (by omega) (by rw [hal4]; omega)
  have hs : (sizeOf (Try.prog.elem 69)).run Try.prog w' = .ok 1 w' := by kernel_rfl
  rw [h1, hs]
  simp [Result.andThen, slicedAt, hal4, Addr.add]

def fromF (n : Nat) (x : Nat → Int) : List Int := (List.range n).map x
set_option maxHeartbeats 1000000 in
theorem cloneI_any (N : Nat) (v : Value) (n : Nat) (x : Nat → Int) (w : World) (h : IntsAt N w v n x) (hN : N ≤ w.heap.size) (h40 : n ≤ 40) :
    Calls Try.prog 54 #[v] w (GivesI w.heap.size w (fromF n x)) := by
  obtain ⟨ao, cap, rfl, hn, hc⟩ := h
  obtain ⟨i0, hi, hz0, hz1, hz2⟩ := info_parts Try.infoInt
  have q22 : ∀ (w : World) (a : Option Addr) (n c n' c' : Nat), (binOp .eql 22 (.slice a n c) (.slice none n' c')).run Try.prog w = .ok (.bool a.isNone) w := fun w a n c n' c' => Lib.run_eql_slice_nil w _ _ a n c n' c' Try.underlying22
  cases ao with
  | none =>
    have h0 : n = 0 := by
      rcases Nat.eq_zero_or_pos n with h | h
      · exact h
      · obtain ⟨b, off, e, _⟩ := hc h; cases e
    subst h0
    clear hc
    go_enter Try.func54, Try.ntmps54
    go_wp2
    go_ret
    exact ⟨_, rfl, World.ownsRow_nil _ _ _ _, Below.refl _ _⟩
  | some ad =>
    have hcells : Hid (∀ (W : World), Below w.heap.size w W → ∀ (j : Nat) (u : Value), ((fromF n x).map (Value.int .i64))[j]? = some u → W.cell? (ad.add j) = some u) := by
      intro W hW j u hj
      have hjn : j < n := by
        have := (List.getElem?_eq_some_iff.1 hj).1
        simpa [fromF] using this
      obtain ⟨b, off, e, hb, hr⟩ := hc (by omega)
      cases e
      obtain ⟨r, h1, rfl⟩ := hr j hjn
      have : u = .int .i64 (x j) := by
        rw [List.getElem?_map] at hj
        simp [fromF, hjn] at hj
        exact hj.symm
      have e : (⟨b, off, none⟩ : Addr).add j = ⟨b, off + j, none⟩ := by unfold Addr.add; split <;> simp_all
      rw [this, e]
      exact (hW.cell (p := ⟨b, off + j, none⟩) (show b < w.heap.size by omega)).trans h1
    clear hc
    go_enter Try.func54, Try.ntmps54
    go_wp2_with (at_builtin; refine wpList_append_own _ rfl _ _ 22 rfl w.heap.size 3 i0 (.int .i64 0) 1 8 Try.underlying22 hi hz0 hz1 hz2 rfl (by decide) _ _ _ rfl (World.ownsRow_made w #[] 0 (Nat.le_refl _) (Nat.zero_le _) rfl) ad n cap ((fromF n x).map (Value.int .i64)) rfl (by simp [fromF]) (hcells.out _ (below_alloc (Nat.le_refl _) _)) (by intro u hu; obtain ⟨y, _, rfl⟩ := List.mem_map.1 hu; rfl) (by unfold maxLen; omega) (by omega) (by simp) ?_; intro v' w1 hown hgrow _)
    go_ret
    refine ⟨_, rfl, ?_, ((Below.refl _ w).alloc (Nat.le_refl _) _).grown hgrow (by simp) (by intro k hk; cases hk; exact Nat.le_refl _)⟩
    unfold OwnI
    have e : (fromF n x).length = n := by simp [fromF]
    rw [e]
    simpa using hown

def cntL (B : SB) (g : List Nat) : List Int := fromF B.ns fun i => (cS B g i : Nat)
def eBest (B : SB) : List Int × Int := eList B (cntL B (bestL (rankG B) (giftsL B)))

set_option maxRecDepth 100000 in
set_option maxHeartbeats 1600000 in
theorem kBest_any (N : Nat) (v : Value) (B : SB) (w : World) (h : BookAt N w v B) :
    Calls Try.prog 16 #[v] w (GivesIE w.heap.size w (eBest B).1 (eBest B).2) := by
  have h' := h
  obtain ⟨_, a1, z1, a2, z2, a3, z3, rfl, _⟩ := h'
  obtain ⟨ws, hws, HB, hsz, hblk⟩ := box1 w (.cells #[.slice a1 B.ns z1, .slice a2 B.ng z2, .slice a3 B.nw z3] 26)
  have q0 := cell_blk hblk 0 rfl
  have q1 := cell_blk hblk 1 rfl
  have q2 := cell_blk hblk 2 rfl
  have HBK := Lib.hid (h.go HB.out)
  have HB0 : Hid (Below ws.heap.size ws ws) := Below.refl _ _
  have HNS : Hid (N ≤ ws.heap.size) := HBK.out.1
  have hlens := h.lens
  obtain ⟨hlv, hls, hln⟩ := hlens
  clear hblk h
  cases hv : okL B with
  | true =>
    have HV := Lib.hid hv
    have HE : Hid (eBest B = (cntL B (bestL (rankG B) (giftsL B)), 0)) := by unfold Hid eBest eList; rw [hv]; rfl
    have HG := Lib.hid (goodL hv)
    have hns := (goodL hv).ns
    obtain ⟨g, hg⟩ : ∃ g, bestL (rankG B) (giftsL B) = g := ⟨_, rfl⟩
    have HBG := Lib.hid hg
    rw [hg] at HE
    clear hv hg
    go_enter Try.func16, Try.ntmps16
    go_wp2_with (first
      | (go_at_call 49; refine (enter_ok N _ B _ (HBK.out.go HB0.out) HV.out).mono ?_; rintro e w1 ⟨rfl, hb1⟩; have HB1 := Lib.hid hb1; clear hb1; obtain ⟨wv, hwv, HBv, hszv, hblkv⟩ := box1 w1 (.cells #[.slice a1 B.ns z1, .slice a2 B.ng z2, .slice a3 B.nw z3] 62); have x0 := cell_blk hblkv 0 rfl; have x1 := cell_blk hblkv 1 rfl; have x2 := cell_blk hblkv 2 rfl; have HBq := Lib.hid (bel HB1.out HBv.out); clear hblkv)
      | (go_at_call 52; refine (best_rank N _ B 4 _ (HBK.out.go HBq.out) HG.out).mono ?_; rw [show bestL (fun g => rankC (cS B g) 4) (giftsL B) = g from HBG.out]; rintro e w2 ⟨⟨u, rfl, _⟩, hb2⟩; unfold cntV; have HB2 := Lib.hid (bel HBq.out hb2); clear hb2; obtain ⟨wu, hwu, HBu, hszu, hblku⟩ := box1 w2 (.cells #[.int .i64 (cS B g 0), .int .i64 (cS B g 1), .int .i64 (cS B g 2), .int .i64 (cS B g 3)] 69); have HU := Lib.hid hblku; have HB3 := Lib.hid (bel HB2.out HBu.out); have r0 := (HB3.out.cell (p := ⟨w.heap.size, 0, none⟩) hsz).trans q0; have hsl := slice_counts w2.heap.size B.ns hns; clear hblku)
      | (go_at_call 54; refine (cloneI_any wu.heap.size (.slice (some ⟨w2.heap.size, 0, none⟩) B.ns 4) B.ns (fun i => (cS B g i : Nat)) wu ⟨_, _, rfl, by omega, fun _ => ⟨w2.heap.size, 0, rfl, hszu, fun i hi => ⟨_, cell_blk HU.out (0 + i) (by rw [Nat.zero_add]; rcases i with _ | _ | _ | _ | i <;> first | rfl | omega), rfl⟩⟩⟩ (Nat.le_refl _) (by omega)).mono ?_; rintro e w4 ⟨u4, rfl, ho4, hb4⟩; have HO4 := Lib.hid ho4; have HB4 := Lib.hid (bel HB3.out hb4); clear ho4 hb4))
    go_ret2
    exact ⟨u4, by rw [HE.out]; rfl, by rw [HE.out]; exact own_mono HO4.out (Nat.le_trans HB.out.size HB3.out.size), fin HB.out HB4.out⟩
  | false =>
    have HV := Lib.hid hv
    have HE : Hid (eBest B = ([], 60)) := by unfold Hid eBest eList; rw [hv]; rfl
    clear hv
    go_enter Try.func16, Try.ntmps16
    go_wp2_with (go_at_call 49; refine (enter_no N _ B _ (HBK.out.go HB0.out) HV.out).mono ?_; rintro e w1 ⟨rfl, hb1⟩; have HB1 := Lib.hid hb1; clear hb1; obtain ⟨wv, hwv, HBv, hszv, hblkv⟩ := box1 w1 (.cells #[.slice none 0 0, .slice none 0 0, .slice none 0 0] 62); have x0 := cell_blk hblkv 0 rfl; have x1 := cell_blk hblkv 1 rfl; have x2 := cell_blk hblkv 2 rfl; have y0 := free_blk hblkv 0; have y1 := free_blk hblkv 1; have y2 := free_blk hblkv 2; have HBq := Lib.hid (bel HB1.out HBv.out); have HZv := Lib.hid hblkv; clear hblkv)
    obtain ⟨w3, hw3, hz3, hb3⟩ := put3 (n := w1.heap.size) HZv.out (.slice none 0 0) (.slice none 0 0) (.slice none 0 0) (Nat.le_refl _)
    (try rw [hw3])
    go_ret2
    exact ⟨.slice none 0 0, by rw [HE.out]; rfl, by rw [HE.out]; exact World.ownsRow_nil _ _ _ _, (fin HB.out HBq.out).trans (hb3.mono (Nat.le_trans HB.out.size HB1.out.size))⟩

end Go.Proofs.Ytnnngbnimmcjiaa
