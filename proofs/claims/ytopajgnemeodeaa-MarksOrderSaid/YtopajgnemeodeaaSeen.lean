/-
  A store into rows of the call's own.
-/
import Derived.Test.YtopajgnemeodeaaCopy
import Derived.Deep.RegionHeld3
namespace Go.Proofs.Ytopajgnemeodeaa
open Go.RowKit

theorem RowsIn.put {w : World} {lo hi : Nat} {v : Value} {n : Nat} {L : Nat → Nat} {x : Nat → Nat → Int} (h : RowsIn w lo hi v n L x) {f m : Nat} (hf : f < n) (hm : m < L f) (y : Int) :
    ∃ g0 cap0 g cap, v = .slice (some ⟨g0, 0, none⟩) n cap0 ∧ w.cell? ⟨g0, f, none⟩ = some (.slice (some ⟨g, 0, none⟩) (L f) cap) ∧ w.cell? ⟨g, m, none⟩ = some (.int .i64 (x f m)) ∧ (∀ i, w.frozen? ⟨g, i, none⟩ = false) ∧ lo ≤ g0 ∧ lo ≤ g ∧
      RowsIn (w.setCell ⟨g, m, none⟩ (.int .i64 y)) lo hi v n L (fun i j => if i = f ∧ j = m then y else x i j) := by
  obtain ⟨rows, M, ho, hb, hlen, h0, hM, hm', hr⟩ := h
  have hMm := mono_M hm'
  obtain ⟨r, hr1, hr2⟩ := hr f hf
  obtain ⟨g, cap, rfl, hk⟩ := hr2
  obtain ⟨k1, k2, cur, hg, k3, k4, k5, k6⟩ := hk (by omega)
  obtain ⟨h1, ⟨rfl, h2⟩ | ⟨g0, cap0, cur0, rfl, h3, h4, h5⟩⟩ := id ho
  · omega
  · have e0 := hMm 0 f (Nat.zero_le _) (by omega)
    have hne : g0 ≠ g := by
      rintro rfl
      rw [h4] at hg
      injection hg with hg
      injection hg with _ ht
      exact absurd ht (by decide)
    have hset : (w.setCell ⟨g, m, none⟩ (.int .i64 y)).heap[g]? = some (Obj.cells (cur.setIfInBounds m (.int .i64 y)) 3 (0, 0)) := by
      simp [World.setCell, Array.getElem?_modify, hg]
    refine ⟨g0, cap0, g, cap, rfl, own_cell ho f hr1, cell_blk hg m (k6 m hm), fun i => by simp [World.frozen?, hg], h3, by omega, rows, M, ?_, hb, hlen, h0, hM, hm', fun j hj => ?_⟩
    · exact ⟨h1, .inr ⟨g0, cap0, cur0, rfl, h3, (Below.heap_setCell _ _ _ _ (by exact hne)).trans h4, h5⟩⟩
    · by_cases hjf : j = f
      · subst hjf
        refine ⟨_, hr1, g, cap, rfl, fun _ => ⟨k1, k2, _, hset, k3, k4, by simp [k5], fun i hi => ?_⟩⟩
        by_cases him : i = m
        · subst him
          simp [k5, Nat.lt_of_lt_of_le hi k3]
        · rw [Array.getElem?_setIfInBounds_ne (by omega), k6 i hi]
          simp [him]
      · obtain ⟨q, hq1, g', cap', rfl, hk'⟩ := hr j hj
        refine ⟨_, hq1, g', cap', rfl, fun hp => ?_⟩
        obtain ⟨l1, l2, cur', hg', l3, l4, l5, l6⟩ := hk' hp
        have hgg : g' ≠ g := by
          rintro rfl
          rcases Nat.lt_or_gt_of_ne hjf with hlt | hlt
          · have := hMm (j + 1) f (by omega) (by omega); omega
          · have := hMm (f + 1) j (by omega) (by omega); omega
        exact ⟨l1, l2, cur', (Below.heap_setCell _ _ _ _ (by exact hgg)).trans hg', l3, l4, l5, fun i hi => by simp [hjf, l6 i hi]⟩

theorem fruits_entry {N : Nat} {w ws : World} {u : Value} {R : Fr} (hN : N ≤ w.heap.size) (hB : Below w.heap.size w ws) (hf : FruitsAt N w u R) : FruitsAt N ws u R := RowsAt.mono hf (hB.mono hN) (Nat.le_refl _)

set_option maxHeartbeats 2000000 in
set_option maxRecDepth 100000 in
theorem seen_to_any (N : Nat) (u : Value) (R : Fr) (f m : Nat) (x : Int) (w : World) (hf : FruitsAt N w u R) (hN : N ≤ w.heap.size) (hn : R.n ≤ 1000) (hL : ∀ f, f < R.n → R.L f ≤ 1000) (hfn : f < R.n) (hm : m < R.L f) :
    Calls Try.prog 51 #[u, .agg #[.int .i64 f, .int .i64 m], .int .i64 x] w fun e w' => ∃ v, e = .returned v ∧ RowsIn w' w.heap.size w'.heap.size v R.n R.L (R.set f m x).X ∧ Below w.heap.size w w' := by
  obtain ⟨ws, hws, HB, hsz, hblk⟩ := box1 w (.cells #[.int .i64 f, .int .i64 m] 40)
  have q0 := cell_blk hblk 0 rfl
  have q1 := cell_blk hblk 1 rfl
  have HF := Lib.hid (fruits_entry hN HB.out hf)
  have HN : Hid (N ≤ ws.heap.size) := Nat.le_trans hN HB.out.size
  have HNN := Lib.hid hn
  have HL := Lib.hid hL
  have HB0 : Hid (Below ws.heap.size ws ws) := Below.refl _ _
  have hfi : (f : Int) < (R.n : Int) := by omega
  have hmi : (m : Int) < (R.L f : Int) := by omega
  clear hblk hf hN hn hL
  go_enter Try.func51, Try.ntmps51
  go_wp2_with (go_at_call 17; refine (copyFruits_any N _ R _ HF.out HN.out HNN.out HL.out).mono ?_; rintro e w1 ⟨v1, rfl, hr1, hb1⟩; have HR1 := Lib.hid hr1; obtain ⟨g0, p0, g, p, rfl, y1, y2, y3, hg0, hg, hset⟩ := hr1.put hfn hm x; have HST := Lib.hid hset; have HG := Lib.hid (And.intro hg0 hg); clear hr1 hset; (try clear c0); have HB1 := Lib.hid (bel HB0.out hb1); have c1 := (old_of HB1.out).1; clear hb1)
  clear hws c1 hg0
  have S1d := old_of HB1.out.drew; have HB1d := S1d.2
  refine wp_region_held_drew (S := (fun w' => (∀ b o, b < ws.heap.size → w'.cell? ⟨b, o, none⟩ = ws.cell? ⟨b, o, none⟩) ∧ Hid (Below ws.heap.size ws w'))) (by kernel_rfl) S1d (fun hHeld => ?_)
  (refine wpAnyH_take (i := 0) (v := ?_) rfl (by kernel_rfl) (by kernel_rfl) (by kernel_rfl) (fun _ _ _ h => h) (Or.inl ⟨by rfl, ?_⟩) (by assumption) ?_; rotate_left; (focus (intro w hSw; (try dsimp only at hSw); go_simp; (try with_reducible rfl))); (try simp only [List.getElem_toArray, List.getElem_cons_zero, List.getElem_cons_succ, Act.put, List.setIfInBounds_toArray, List.set_cons_zero, List.set_cons_succ]))
  (refine wpAnyH_take (i := 1) (v := ?_) rfl (by kernel_rfl) (by kernel_rfl) (by kernel_rfl) (fun _ _ _ h => h) (Or.inl ⟨by rfl, ?_⟩) (by assumption) ?_; rotate_left; (focus (intro w hSw; (try dsimp only at hSw); go_simp; (try with_reducible rfl))); (try simp only [List.getElem_toArray, List.getElem_cons_zero, List.getElem_cons_succ, Act.put, List.setIfInBounds_toArray, List.set_cons_zero, List.set_cons_succ]))
  (refine wpAnyH_take (i := 2) (v := ?_) rfl (by kernel_rfl) (by kernel_rfl) (by kernel_rfl) (fun _ _ _ h => h) (Or.inl ⟨by rfl, ?_⟩) (by assumption) ?_; rotate_left; (focus (intro w hSw; (try dsimp only at hSw); go_simp; (try with_reducible rfl))); (try simp only [List.getElem_toArray, List.getElem_cons_zero, List.getElem_cons_succ, Act.put, List.setIfInBounds_toArray, List.set_cons_zero, List.set_cons_succ]))
  (refine wpAnyH_take (i := 3) (v := ?_) rfl (by kernel_rfl) (by kernel_rfl) (by kernel_rfl) (fun _ _ _ h => h) (Or.inl ⟨by rfl, ?_⟩) (by assumption) ?_; rotate_left; (focus (intro w hSw; (try dsimp only at hSw); go_simp; (try with_reducible rfl))); (try simp only [List.getElem_toArray, List.getElem_cons_zero, List.getElem_cons_succ, Act.put, List.setIfInBounds_toArray, List.set_cons_zero, List.set_cons_succ]))
  (refine wpAnyH_take (i := 5) (v := ?_) rfl (by kernel_rfl) (by kernel_rfl) (by kernel_rfl) (fun _ _ _ h => h) (Or.inl ⟨by rfl, ?_⟩) (by assumption) ?_; rotate_left; (focus (intro w hSw; (try dsimp only at hSw); go_simp; (try with_reducible rfl))); (try simp only [List.getElem_toArray, List.getElem_cons_zero, List.getElem_cons_succ, Act.put, List.setIfInBounds_toArray, List.set_cons_zero, List.set_cons_succ]))
  (refine wpAnyH_take (i := 6) (v := ?_) rfl (by kernel_rfl) (by kernel_rfl) (by kernel_rfl) (fun _ _ _ h => h) (Or.inl ⟨by rfl, ?_⟩) (by assumption) ?_; rotate_left; (focus (intro w hSw; (try dsimp only at hSw); go_simp; (try with_reducible rfl))); (try simp only [List.getElem_toArray, List.getElem_cons_zero, List.getElem_cons_succ, Act.put, List.setIfInBounds_toArray, List.set_cons_zero, List.set_cons_succ]))
  (refine wpAnyH_take (i := 7) (v := ?_) rfl (by kernel_rfl) (by kernel_rfl) (by kernel_rfl) (fun _ _ _ h => h) (Or.inl ⟨by rfl, ?_⟩) (by assumption) ?_; rotate_left; (focus (intro w hSw; (try dsimp only at hSw); go_simp; (try with_reducible rfl))); (try simp only [List.getElem_toArray, List.getElem_cons_zero, List.getElem_cons_succ, Act.put, List.setIfInBounds_toArray, List.set_cons_zero, List.set_cons_succ]))
  refine wpAnyH_ready (rs := [4]) (by kernel_rfl) (by simp) ?_; refine AllReadyH.cons rfl (fun K hK => ?_) AllReadyH.nil; go_simp
  refine hK.out _ _ S1d (fun hHeld => ?_); clear hK K; (try simp only [List.getElem_toArray, List.getElem_cons_zero, List.getElem_cons_succ, Act.put, List.setIfInBounds_toArray, List.set_cons_zero, List.set_cons_succ])
  (refine wpAnyH_take (i := 8) (v := ?_) rfl (by kernel_rfl) (by kernel_rfl) (by kernel_rfl) (fun _ _ _ h => h) (Or.inl ⟨by rfl, ?_⟩) (by assumption) ?_; rotate_left; (focus (intro w hSw; (try dsimp only at hSw); go_simp; (try with_reducible rfl))); (try simp only [List.getElem_toArray, List.getElem_cons_zero, List.getElem_cons_succ, Act.put, List.setIfInBounds_toArray, List.set_cons_zero, List.set_cons_succ]))
  refine wpAnyH_ready (rs := [9]) (by kernel_rfl) (by simp) ?_; refine AllReadyH.cons rfl (fun K hK => ?_) AllReadyH.nil; go_simp
  obtain ⟨w2, hw2⟩ : ∃ w2 : World, (w1.setCell ⟨g, m, none⟩ (.int .i64 x)).drew = w2 := ⟨_, rfl⟩
  have hb2 : Below ws.heap.size ws w2 := by rw [← hw2]; exact (HB1.out.setCell (p := ⟨g, m, none⟩) hg _).drew
  have HRW : Hid (RowsIn w2 ws.heap.size w2.heap.size (.slice (some ⟨g0, 0, none⟩) R.n p0) R.n R.L (R.set f m x).X) := by
    rw [← hw2]
    have : (w1.setCell ⟨g, m, none⟩ (.int .i64 x)).drew.heap.size = w1.heap.size := by simp [World.setCell]
    rw [this]
    exact RowsIn.keep (w := w1.setCell ⟨g, m, none⟩ (.int .i64 x)) HST.out fun _ _ _ _ _ _ _ => rfl
  rw [hw2]
  have S2 := old_of hb2
  have HB2 := S2.2
  clear hw2 hb2
  refine hK.out _ _ S2 (fun hHeld => ?_); clear hK K; (try simp only [List.getElem_toArray, List.getElem_cons_zero, List.getElem_cons_succ, Act.put, List.setIfInBounds_toArray, List.set_cons_zero, List.set_cons_succ])
  refine wpAnyH_done (by kernel_rfl) ?_ _; clear hHeld
  clear S2 S1d
  go_wp2
  go_ret
  exact ⟨_, rfl, HRW.out.lower HB.out.size, fin HB.out HB2.out⟩

end Go.Proofs.Ytopajgnemeodeaa
