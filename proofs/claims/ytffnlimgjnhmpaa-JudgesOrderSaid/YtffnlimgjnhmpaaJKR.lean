/-
  JKR: agrees of a jury, and what it returns.
-/
import Derived.Test.YtffnlimgjnhmpaaJKM
namespace Go.Proofs.Ytffnlimgjnhmpaa
open Go.RowKit

/-- block G holds a list of its own -/
def CAP (K : Nat) (W : World) (G : Nat) (l : List Int) : Prop := ∃ u, K ≤ G ∧ W.heap[G]? = some (.cells #[u] 25) ∧ OwnI K W u l
theorem CAP.below {K : Nat} {W W' : World} {G : Nat} {l : List Int} (h : CAP K W G l) (hb : Below W.heap.size W W') : CAP K W' G l := by
  obtain ⟨u, h1, h2, h3⟩ := h
  exact ⟨u, h1, (hb.block G (heap_lt h2)).trans h2, own_below h3 hb⟩
theorem CAP.lt {K : Nat} {W : World} {G : Nat} {l : List Int} (h : CAP K W G l) : G < W.heap.size := by
  obtain ⟨u, _, h2, _⟩ := h; exact heap_lt h2

set_option maxHeartbeats 3200000 in
set_option maxRecDepth 100000 in
theorem agrees_any (N : Nat) (v : Value) (S : JB) (w : World) (h : ShowAt N w v S) (hR : RdJ S) :
    Calls Try.prog 88 #[v] w fun e w' => ∃ G, e = .returned (.func (.func 98) #[] #[.pointer (some ⟨G, 0, none⟩)]) ∧ CAP w.heap.size w' G (prL S 1 S.np) ∧ Below w.heap.size w w' := by
  obtain ⟨a1, c1, rfl⟩ := h.form
  obtain ⟨ws, hws, HB, hsz, hblk⟩ := box1 w (.cells #[.int .i64 S.J, .int .i64 S.D, .int .i64 S.Z, .slice a1 S.np c1] 74)
  have q0 := cell_blk hblk 0 rfl
  have q1 := cell_blk hblk 1 rfl
  have q2 := cell_blk hblk 2 rfl
  have q3 := cell_blk hblk 3 rfl
  have HNZ : Hid (N ≤ w.heap.size) := h.1
  have HBK := Lib.hid (h.go HB.out)
  have HB0 : Hid (Below ws.heap.size ws ws) := Below.refl _ _
  have HNS : Hid (N ≤ ws.heap.size) := HBK.out.1
  have hlen := h.len
  clear hblk h
  have HR := Lib.hid hR
  have hnp6 : S.np ≤ 1000 := by have := hR.rd.np; omega
  clear hR
  go_enter Try.func88, Try.ntmps88
  go_upto_region 1 with fail
  clear hws
  go_upto_region 2 with (go_at_call 69; refine (kprizes_any N _ S _ HBK.out HR.out).mono ?_; rintro e w1 ⟨B, rfl, hB1, hgm, hb1⟩; have HB1 : Hid (Below ws.heap.size ws w1) := hb1; have HLB := Lib.hid hB1; obtain ⟨v1, hl1, ho1⟩ := hgm.look hnp6 1 rfl; obtain ⟨av, cv, rfl⟩ := ho1.form; have HO1 := Lib.hid ho1; obtain ⟨wo, hwo, HBo, hszo, hblko⟩ := box1 w1 (.cells #[.slice none 0 0] 25); have HZo := Lib.hid hblko; have z0 := cell_blk hblko 0 rfl; have f0 := free_blk hblko 0; clear hgm hb1 hB1 ho1 hblko)
  obtain ⟨w2, hw2, hz2, ho2, hb2⟩ := set_step (n := w1.heap.size) (W0 := wo) HZo.out (fun _ _ => rfl) 0 (.slice av (prL S 1 S.np).length cv) (Nat.le_refl _)
  rw [hw2]
  have HB2 : Hid (Below ws.heap.size ws w2) := HB1.out.trans ((HBo.out.trans hb2).mono HB1.out.size)
  have hk : Below w1.heap.size w1 w2 := HBo.out.trans hb2
  have hsw : w1.heap.size < w2.heap.size := Nat.lt_of_lt_of_le hszo hb2.size
  have HC : Hid (CAP w.heap.size w2 w1.heap.size (prL S 1 S.np)) := by
    have hbs := HB.out.size
    have hs1 := HB1.out.size
    have hlb := HLB.out
    exact ⟨.slice av (prL S 1 S.np).length cv, by omega, hz2, own_mono (own_below HO1.out hk) (by omega)⟩
  clear hw2 hz2 ho2 hb2 hk z0 f0 hwo HZo HBo hszo HO1
  go_wp2_with fail
  go_ret
  exact ⟨_, rfl, HC.out, fin HB.out HB2.out⟩

set_option maxHeartbeats 3200000 in
set_option maxRecDepth 100000 in
theorem agrees1_any (N K G : Nat) (v : Value) (S : JB) (l : List Int) (w : World) (h : ShowAt N w v S) (hR : RdJ S) (hC : CAP K w G l) (hN : G < N) (hl : l.length ≤ 1000) :
    Calls Try.prog 98 #[v, .pointer (some ⟨G, 0, none⟩)] w fun e w' => e = .returned (.bool (decide (prL S 1 S.np = l))) ∧ Below w.heap.size w w' := by
  obtain ⟨a1, c1, rfl⟩ := h.form
  obtain ⟨ws, hws, HB, hsz, hblk⟩ := box1 w (.cells #[.int .i64 S.J, .int .i64 S.D, .int .i64 S.Z, .slice a1 S.np c1] 74)
  have q0 := cell_blk hblk 0 rfl
  have q1 := cell_blk hblk 1 rfl
  have q2 := cell_blk hblk 2 rfl
  have q3 := cell_blk hblk 3 rfl
  have HNZ : Hid (N ≤ w.heap.size) := h.1
  have HBK := Lib.hid (h.go HB.out)
  have HB0 : Hid (Below ws.heap.size ws ws) := Below.refl _ _
  have HNS : Hid (N ≤ ws.heap.size) := HBK.out.1
  have hlen := h.len
  clear hblk h
  have HR := Lib.hid hR
  have hnp6 : S.np ≤ 1000 := by have := hR.rd.np; omega
  have HC := Lib.hid (hC.below HB.out)
  obtain ⟨u, hG1, hG2, hG3⟩ := hC
  have g0 := cell_blk (HB.out.block _ (heap_lt hG2) |>.trans hG2) 0 rfl
  have hgw : G < ws.heap.size := Nat.lt_of_lt_of_le (heap_lt hG2) HB.out.size
  have HLI : Hid (LI ws.heap.size ws u l) := (show OwnI K ws u l from own_below hG3 HB.out).li hl
  have HSX : Hid (∀ W, Below ws.heap.size ws W → ((W.cell? ⟨w.heap.size, 0, none⟩ = some (.int .i64 S.J) ∧ W.cell? ⟨w.heap.size, 1, none⟩ = some (.int .i64 S.D) ∧ W.cell? ⟨w.heap.size, 2, none⟩ = some (.int .i64 S.Z) ∧ W.cell? ⟨w.heap.size, 3, none⟩ = some (.slice a1 S.np c1))) ∧ W.cell? ⟨G, 0, none⟩ = some u) := fun W hW => ⟨⟨(hW.cell (p := ⟨w.heap.size, 0, none⟩) hsz).trans q0, (hW.cell (p := ⟨w.heap.size, 1, none⟩) hsz).trans q1, (hW.cell (p := ⟨w.heap.size, 2, none⟩) hsz).trans q2, (hW.cell (p := ⟨w.heap.size, 3, none⟩) hsz).trans q3⟩, (hW.cell (p := ⟨G, 0, none⟩) hgw).trans g0⟩
  clear hR hG1 hG2 hG3 q0 q1 q2 q3 g0
  go_enter Try.func98, Try.ntmps98
  go_upto_region 1 with fail
  clear hws
  obtain ⟨wd, hwd⟩ : ∃ wd, ws.drew = wd := ⟨_, rfl⟩
  have HBd : Hid (Below ws.heap.size ws wd) := by rw [← hwd]; exact (Below.refl _ _).drew
  have hS0 := HSX.out wd HBd.out
  refine wp_region_held_drew (S := fun W => ((W.cell? ⟨w.heap.size, 0, none⟩ = some (.int .i64 S.J) ∧ W.cell? ⟨w.heap.size, 1, none⟩ = some (.int .i64 S.D) ∧ W.cell? ⟨w.heap.size, 2, none⟩ = some (.int .i64 S.Z) ∧ W.cell? ⟨w.heap.size, 3, none⟩ = some (.slice a1 S.np c1))) ∧ W.cell? ⟨G, 0, none⟩ = some u) (by kernel_rfl) (by rw [hwd]; exact hS0) (fun hHeld => ?_)
  rw [hwd]
  clear hwd
  (refine wpAnyH_take (i := 0) (v := ?_) rfl (by kernel_rfl) (by kernel_rfl) (by kernel_rfl) (fun _ _ _ h => h) (Or.inl ⟨by rfl, ?_⟩) (by assumption) ?_; rotate_left; (focus (intro w hSw; (try dsimp only at hSw); go_simp; (try with_reducible rfl))); (try simp only [List.getElem_toArray, List.getElem_cons_zero, List.getElem_cons_succ, Act.put, List.setIfInBounds_toArray, List.set_cons_zero, List.set_cons_succ]))
  (refine wpAnyH_take (i := 3) (v := ?_) rfl (by kernel_rfl) (by kernel_rfl) (by kernel_rfl) (fun _ _ _ h => h) (Or.inl ⟨by rfl, ?_⟩) (by assumption) ?_; rotate_left; (focus (intro w hSw; (try dsimp only at hSw); go_simp; (try with_reducible rfl))); (try simp only [List.getElem_toArray, List.getElem_cons_zero, List.getElem_cons_succ, Act.put, List.setIfInBounds_toArray, List.set_cons_zero, List.set_cons_succ]))
  refine wpAnyH_ready (rs := [1]) (by kernel_rfl) (by simp) ?_; refine AllReadyH.cons rfl (fun K hK => ?_) AllReadyH.nil; go_simp
  go_at_call 69
  refine (kprizes_any N _ S _ (HBK.out.go HBd.out) HR.out).mono ?_
  rintro e w1 ⟨B, rfl, hB1, hgm, hb1⟩
  have HB1 : Hid (Below ws.heap.size ws w1) := bel HBd.out hb1
  have HLB := Lib.hid hB1
  have hS1 := HSX.out w1 HB1.out
  obtain ⟨v1, hl1, ho1⟩ := hgm.look hnp6 1 rfl
  obtain ⟨av, cv, rfl⟩ := ho1.form
  have HO1 := Lib.hid ho1
  clear hgm hb1 hB1 ho1 hS0
  refine hK.out _ _ hS1 (fun hHeld => ?_); clear hK K; (try simp only [List.getElem_toArray, List.getElem_cons_zero, List.getElem_cons_succ, Act.put, List.setIfInBounds_toArray, List.set_cons_zero, List.set_cons_succ])
  refine wpAnyH_ready (rs := [2]) (by kernel_rfl) (by simp) ?_; refine AllReadyH.cons rfl (fun K hK => ?_) AllReadyH.nil; go_simp
  refine hK.out _ _ hS1 (fun hHeld => ?_); clear hK K; (try simp only [List.getElem_toArray, List.getElem_cons_zero, List.getElem_cons_succ, Act.put, List.setIfInBounds_toArray, List.set_cons_zero, List.set_cons_succ])
  refine wpAnyH_ready (rs := [4]) (by kernel_rfl) (by simp) ?_; refine AllReadyH.cons rfl (fun K hK => ?_) AllReadyH.nil; go_simp
  refine (equal_any w1.heap.size ws.heap.size _ u (prL S 1 S.np) l w1 (HO1.out.li (Nat.le_trans (sel_len _ _) hnp6)) (HLI.out.mono HB1.out (Nat.le_refl _))).mono ?_
  rintro e w2 ⟨rfl, q, hq⟩
  have HB2 : Hid (Below ws.heap.size ws w2) := by rw [hq]; exact below_drewN HB1.out _
  have hS2 := HSX.out w2 HB2.out
  clear hq hS1
  refine hK.out _ _ hS2 (fun hHeld => ?_); clear hK K; (try simp only [List.getElem_toArray, List.getElem_cons_zero, List.getElem_cons_succ, Act.put, List.setIfInBounds_toArray, List.set_cons_zero, List.set_cons_succ])
  (refine wpAnyH_take (i := 5) (v := ?_) rfl (by kernel_rfl) (by kernel_rfl) (by kernel_rfl) (fun _ _ _ h => h) (Or.inl ⟨by rfl, ?_⟩) (by assumption) ?_; rotate_left; (focus (intro w hSw; (try dsimp only at hSw); go_simp; (try with_reducible rfl))); (try simp only [List.getElem_toArray, List.getElem_cons_zero, List.getElem_cons_succ, Act.put, List.setIfInBounds_toArray, List.set_cons_zero, List.set_cons_succ]))
  refine wpAnyH_done (by kernel_rfl) ?_ _; clear hHeld
  go_wp2_with fail
  go_ret
  exact ⟨rfl, fin HB.out HB2.out⟩

end Go.Proofs.Ytffnlimgjnhmpaa
