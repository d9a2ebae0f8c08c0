/-
  JRefT: totals of the reference.
-/
import Derived.Test.YtffnlimgjnhmpaaJRefD
import Derived.Test.YtffnlimgjnhmpaaJRefF
namespace Go.Proofs.Ytffnlimgjnhmpaa
open Go.RowKit

/-- what a store to a box leaves of a show elsewhere -/
theorem OwnP.show_kept {lo : Nat} {W W' : World} {TP T : TypeId} {v : Value} {np : Nat} {sz : Nat → Int} {rv : Nat → Value} {pts : Nat → List Int} (h : OwnP lo W TP v np sz rv pts) (hT : TP ≠ T) (hI : 3 ≠ T) {g : Nat} {cs : Array Value} (hg : W.heap[g]? = some (.cells cs T)) (ho : ∀ k, k ≠ g → W'.heap[k]? = W.heap[k]?) : OwnP lo W' TP v np sz rv pts := by
  refine ⟨fun i hi => ?_, h.apart, ?_⟩
  · rcases h.row i hi with h0 | ⟨h0, g', cap', cur', ev, k1, k2, k3, k4⟩
    · exact .inl h0
    · exact .inr ⟨h0, g', cap', cur', ev, k1, k2, (ho g' (types_ne k3 hg hI)).trans k3, k4⟩
  · rcases h.body with hb | ⟨h0, gp, cap', cur, rfl, h1, h2, h3, h4⟩
    · exact .inl hb
    · exact .inr ⟨h0, gp, cap', cur, rfl, h1, h2, (ho gp (types_ne h3 hg hT)).trans h3, h4⟩

theorem fil_pt {n : Int} {l : List Int} (h : ∀ x, x ∈ l → -1 ≤ x ∧ x ≤ 20) (hn : 0 ≤ n ∧ n ≤ 20) : ∀ x, x ∈ fil n l → 0 ≤ x ∧ x ≤ 20 := by
  intro x hx
  unfold fil at hx
  obtain ⟨y, hy, rfl⟩ := List.mem_map.1 hx
  have := h y hy
  split <;> omega
theorem RdS.fil {S : JB} (h : RdS S) {p own oth : Int} (ho : 0 ≤ own ∧ own ≤ 20) (ht : 0 ≤ oth ∧ oth ≤ 20) : RdS (filS S p own oth) := by
  refine ⟨h.D0, fun i hi => ?_, fun i hi x hx => ?_, h.np⟩
  · have := h.len i hi
    simp only [filS, fil_len]; exact this
  · have hn : 0 ≤ (if (i : Int) = p then own else oth) ∧ (if (i : Int) = p then own else oth) ≤ 20 := by split <;> assumption
    have := fil_pt (h.pt i hi) hn x hx
    omega
theorem fil_own (S : JB) (k : Nat) (own oth : Int) : (filS S k own oth).pts k = fil own (S.pts k) := by simp [filS]

set_option maxHeartbeats 12800000 in
set_option maxRecDepth 100000 in
theorem totals_any (N : Nat) (v : Value) (S : JB) (k : Nat) (w : World) (h : ShowAt N w v S) (hR : RdS S) (hk : k < S.np) :
    Calls Try.prog 74 #[v, .int .i64 k] w fun e w' => e = .returned (.agg #[.int .i64 (loT S k), .int .i64 (hiT S k)]) ∧ Below w.heap.size w w' := by
  obtain ⟨a1, c1, rfl⟩ := h.form
  obtain ⟨ws, hws, HB, hsz, hsz1, hblk, hblk1⟩ := box2 w (.cells #[.int .i64 S.J, .int .i64 S.D, .int .i64 S.Z, .slice a1 S.np c1] 24) (.cells #[.int .i64 0, .int .i64 0] 30)
  have q0 := cell_blk hblk 0 rfl
  have q1 := cell_blk hblk 1 rfl
  have q2 := cell_blk hblk 2 rfl
  have q3 := cell_blk hblk 3 rfl
  have HBK := Lib.hid (h.go HB.out)
  have HZ1 := Lib.hid hblk1
  have HNP := Lib.hid hR.np
  have HL := Lib.hid (fun i hi => (hR.len i hi).2)
  have HR := Lib.hid hR
  obtain ⟨p, hp⟩ : ∃ p : Int, (k : Int) = p := ⟨_, rfl⟩
  have HP := Lib.hid hp
  rw [hp]
  have hszi : w.heap.size + 1 ≠ w.heap.size := by omega
  clear hblk hblk1 h hR hp
  go_enter Try.func74, Try.ntmps74
  go_upto_region 1 with fail
  go_cut [5, 6] (fun u5 u6 wx => Hid (∃ g6 g7 a2 c2 rv2 a5 c5 rv5, u5 = .pointer (some ⟨g6, 0, none⟩) ∧ u6 = .pointer (some ⟨g7, 0, none⟩) ∧ wx.heap[g6]? = some (.cells #[.int .i64 S.J, .int .i64 S.D, .int .i64 S.Z, .slice a2 S.np c2] 24) ∧ wx.heap[g7]? = some (.cells #[.int .i64 S.J, .int .i64 S.D, .int .i64 S.Z, .slice a5 S.np c5] 24) ∧ OwnP ws.heap.size wx 40 (.slice a2 S.np c2) S.np S.sz rv2 (filS S p 0 0).pts ∧ OwnP ws.heap.size wx 40 (.slice a5 S.np c5) S.np S.sz rv5 (filS S p 20 0).pts ∧ ws.heap.size ≤ g6 ∧ ws.heap.size ≤ g7 ∧ Below ws.heap.size ws wx))
  case first =>
    obtain ⟨wd, hwd⟩ : ∃ wd, ws.drew = wd := ⟨_, rfl⟩
    have HB_0 : Hid (Below ws.heap.size ws wd) := by rw [← hwd]; exact (Below.refl _ _).drew
    have S_0 := old_of HB_0.out
    refine wp_region_held_drew (S := fun w' => (∀ b o, b < ws.heap.size → w'.cell? ⟨b, o, none⟩ = ws.cell? ⟨b, o, none⟩) ∧ Hid (Below ws.heap.size ws w')) (by kernel_rfl) (by rw [hwd]; exact S_0) (fun hHeld => ?_)
    rw [hwd]
    clear hwd
    (refine wpAnyH_take (i := 0) (v := ?_) rfl (by kernel_rfl) (by kernel_rfl) (by kernel_rfl) (fun _ _ _ h => h) (Or.inl ⟨by rfl, ?_⟩) (by assumption) ?_; rotate_left; (focus (intro w hSw; (try dsimp only at hSw); go_simp; (try with_reducible rfl))); (try simp only [List.getElem_toArray, List.getElem_cons_zero, List.getElem_cons_succ, Act.put, List.setIfInBounds_toArray, List.set_cons_zero, List.set_cons_succ])); (refine wpAnyH_take (i := 1) (v := ?_) rfl (by kernel_rfl) (by kernel_rfl) (by kernel_rfl) (fun _ _ _ h => h) (Or.inl ⟨by rfl, ?_⟩) (by assumption) ?_; rotate_left; (focus (intro w hSw; (try dsimp only at hSw); go_simp; (try with_reducible rfl))); (try simp only [List.getElem_toArray, List.getElem_cons_zero, List.getElem_cons_succ, Act.put, List.setIfInBounds_toArray, List.set_cons_zero, List.set_cons_succ]))
    (refine wpAnyH_take (i := 3) (v := ?_) rfl (by kernel_rfl) (by kernel_rfl) (by kernel_rfl) (fun _ _ _ h => h) (Or.inl ⟨by rfl, ?_⟩) (by assumption) ?_; rotate_left; (focus (intro w hSw; (try dsimp only at hSw); go_simp; (try with_reducible rfl))); (try simp only [List.getElem_toArray, List.getElem_cons_zero, List.getElem_cons_succ, Act.put, List.setIfInBounds_toArray, List.set_cons_zero, List.set_cons_succ])); (refine wpAnyH_take (i := 4) (v := ?_) rfl (by kernel_rfl) (by kernel_rfl) (by kernel_rfl) (fun _ _ _ h => h) (Or.inl ⟨by rfl, ?_⟩) (by assumption) ?_; rotate_left; (focus (intro w hSw; (try dsimp only at hSw); go_simp; (try with_reducible rfl))); (try simp only [List.getElem_toArray, List.getElem_cons_zero, List.getElem_cons_succ, Act.put, List.setIfInBounds_toArray, List.set_cons_zero, List.set_cons_succ]))
    refine wpAnyH_ready (rs := [2, 6, 7]) (by kernel_rfl) (by simp) ?_
    refine (AllReadyH.cons rfl (fun K hK => ?_) (AllReadyH.cons rfl (fun K hK => ?_) (AllReadyH.cons rfl (fun K hK => ?_) AllReadyH.nil)))
    ·
      go_simp
      go_at_call 75
      refine (filled_ag N _ S p 0 0 _ (HBK.out.go HB_0.out) HNP.out HL.out).mono ?_
      rintro e w_1 ⟨a2, c2, rv2, rfl, hop, hbn⟩
      have HO2_1 : Hid (OwnP ws.heap.size w_1 40 (.slice a2 S.np c2) S.np S.sz rv2 (filS S p 0 0).pts) := hop.lower HB_0.out.size
      have HB_1 := Lib.hid (bel HB_0.out hbn)
      have S_1 := old_of HB_1.out
      clear hop hbn
      refine hK.out _ _ S_1 (fun hHeld => ?_)
      clear hK K
      (try simp only [List.getElem_toArray, List.getElem_cons_zero, List.getElem_cons_succ, Act.put, List.setIfInBounds_toArray, List.set_cons_zero, List.set_cons_succ])
      refine wpAnyH_ready (rs := [5, 6, 7]) (by kernel_rfl) (by simp) ?_
      refine (AllReadyH.cons rfl (fun K hK => ?_) (AllReadyH.cons rfl (fun K hK => ?_) (AllReadyH.cons rfl (fun K hK => ?_) AllReadyH.nil)))
      ·
        go_simp
        go_at_call 75
        refine (filled_ag N _ S p 20 0 _ (HBK.out.go HB_1.out) HNP.out HL.out).mono ?_
        rintro e w_2 ⟨a5, c5, rv5, rfl, hop, hbn⟩
        have HO5_2 : Hid (OwnP ws.heap.size w_2 40 (.slice a5 S.np c5) S.np S.sz rv5 (filS S p 20 0).pts) := hop.lower HB_1.out.size
        have HO2_2 := Lib.hid (HO2_1.out.keep fun g _ h => hbn.block g h)
        have HB_2 := Lib.hid (bel HB_1.out hbn)
        have S_2 := old_of HB_2.out
        clear hop hbn
        refine hK.out _ _ S_2 (fun hHeld => ?_)
        clear hK K
        (try simp only [List.getElem_toArray, List.getElem_cons_zero, List.getElem_cons_succ, Act.put, List.setIfInBounds_toArray, List.set_cons_zero, List.set_cons_succ])
        refine wpAnyH_ready (rs := [6, 7]) (by kernel_rfl) (by simp) ?_
        refine (AllReadyH.cons rfl (fun K hK => ?_) (AllReadyH.cons rfl (fun K hK => ?_) AllReadyH.nil))
        ·
          go_simp
          obtain ⟨w_3, hwn, hbn, hszn, hblkn⟩ := box1 w_2 (.cells #[.int .i64 0, .int .i64 0, .int .i64 0, .slice none 0 0] 24)
          rw [hwn]
          replace hbn := hbn.out
          have HO2_3 := Lib.hid (HO2_2.out.keep fun g _ h => hbn.block g h)
          have HO5_3 := Lib.hid (HO5_2.out.keep fun g _ h => hbn.block g h)
          have HB_3 := Lib.hid (bel HB_2.out hbn)
          have S_3 := old_of HB_3.out
          obtain ⟨g6, hg⟩ : ∃ g, w_2.heap.size = g := ⟨_, rfl⟩
          have HG6 : Hid (ws.heap.size ≤ g6) := by rw [← hg]; exact HB_2.out.size
          have HN3 : Hid (g6 = w_2.heap.size) := hg.symm
          rw [hg] at hblkn ⊢
          have HA6_3 := Lib.hid hblkn
          have x6_0 := cell_blk hblkn 0 rfl
          have x6_1 := cell_blk hblkn 1 rfl
          have x6_2 := cell_blk hblkn 2 rfl
          have x6_3 := cell_blk hblkn 3 rfl
          clear hblkn hbn hwn hg hszn
          clear x6_0
          clear x6_1
          clear x6_2
          clear x6_3
          refine hK.out _ _ S_3 (fun hHeld => ?_)
          clear hK K
          (try simp only [List.getElem_toArray, List.getElem_cons_zero, List.getElem_cons_succ, Act.put, List.setIfInBounds_toArray, List.set_cons_zero, List.set_cons_succ])
          refine wpAnyH_ready (rs := [7]) (by kernel_rfl) (by simp) ?_
          refine AllReadyH.cons rfl (fun K hK => ?_) AllReadyH.nil
          go_simp
          obtain ⟨w_4, hwn, hbn, hszn, hblkn⟩ := box1 w_3 (.cells #[.int .i64 0, .int .i64 0, .int .i64 0, .slice none 0 0] 24)
          rw [hwn]
          replace hbn := hbn.out
          have HO2_4 := Lib.hid (HO2_3.out.keep fun g _ h => hbn.block g h)
          have HO5_4 := Lib.hid (HO5_3.out.keep fun g _ h => hbn.block g h)
          have HA6_4 := Lib.hid ((hbn.block _ (heap_lt HA6_3.out)).trans HA6_3.out)
          have HB_4 := Lib.hid (bel HB_3.out hbn)
          have S_4 := old_of HB_4.out
          obtain ⟨g7, hg⟩ : ∃ g, w_3.heap.size = g := ⟨_, rfl⟩
          have HG7 : Hid (ws.heap.size ≤ g7) := by rw [← hg]; exact HB_3.out.size
          have HN4 : Hid (g7 = w_3.heap.size) := hg.symm
          rw [hg] at hblkn ⊢
          have HA7_4 := Lib.hid hblkn
          have x7_0 := cell_blk hblkn 0 rfl
          have x7_1 := cell_blk hblkn 1 rfl
          have x7_2 := cell_blk hblkn 2 rfl
          have x7_3 := cell_blk hblkn 3 rfl
          clear hblkn hbn hwn hg hszn
          clear x7_0
          clear x7_1
          clear x7_2
          clear x7_3
          refine hK.out _ _ S_4 (fun hHeld => ?_)
          clear hK K
          (try simp only [List.getElem_toArray, List.getElem_cons_zero, List.getElem_cons_succ, Act.put, List.setIfInBounds_toArray, List.set_cons_zero, List.set_cons_succ])
          have HNE : Hid (g7 ≠ g6) := by
            have h1 := heap_lt HA6_3.out
            have h2 := HN4.out
            unfold Hid; omega
          refine wpAnyH_ready (rs := [8]) (by kernel_rfl) (by simp) ?_
          refine AllReadyH.cons rfl (fun K hK => ?_) AllReadyH.nil
          have x0 := cell_blk HA6_4.out 0 rfl
          have y0 := free_blk HA6_4.out 0
          have x1 := cell_blk HA6_4.out 1 rfl
          have y1 := free_blk HA6_4.out 1
          have x2 := cell_blk HA6_4.out 2 rfl
          have y2 := free_blk HA6_4.out 2
          have x3 := cell_blk HA6_4.out 3 rfl
          have y3 := free_blk HA6_4.out 3
          go_simp
          obtain ⟨w_5, hwn, hzn, hon, hbn⟩ := put4o HA6_4.out (.int .i64 S.J) (.int .i64 S.D) (.int .i64 S.Z) (.slice a2 S.np c2)
          rw [hwn]
          have HO2_5 := Lib.hid (HO2_4.out.show_kept (by decide) (by decide) HA6_4.out hon)
          have HO5_5 := Lib.hid (HO5_4.out.show_kept (by decide) (by decide) HA6_4.out hon)
          have HA7_5 := Lib.hid ((hon g7 HNE.out).trans HA7_4.out)
          have HA6_5 := Lib.hid hzn
          have HB_5 := Lib.hid (HB_4.out.trans (hbn.mono HG6.out))
          have S_5 := old_of HB_5.out
          clear hwn hzn hon hbn x0 x1 x2 x3 y0 y1 y2 y3
          refine hK.out _ _ S_5 (fun hHeld => ?_)
          clear hK K
          (try simp only [List.getElem_toArray, List.getElem_cons_zero, List.getElem_cons_succ, Act.put, List.setIfInBounds_toArray, List.set_cons_zero, List.set_cons_succ])
          refine wpAnyH_ready (rs := [9]) (by kernel_rfl) (by simp) ?_
          refine AllReadyH.cons rfl (fun K hK => ?_) AllReadyH.nil
          have x0 := cell_blk HA7_5.out 0 rfl
          have y0 := free_blk HA7_5.out 0
          have x1 := cell_blk HA7_5.out 1 rfl
          have y1 := free_blk HA7_5.out 1
          have x2 := cell_blk HA7_5.out 2 rfl
          have y2 := free_blk HA7_5.out 2
          have x3 := cell_blk HA7_5.out 3 rfl
          have y3 := free_blk HA7_5.out 3
          go_simp
          obtain ⟨w_6, hwn, hzn, hon, hbn⟩ := put4o HA7_5.out (.int .i64 S.J) (.int .i64 S.D) (.int .i64 S.Z) (.slice a5 S.np c5)
          rw [hwn]
          have HO2_6 := Lib.hid (HO2_5.out.show_kept (by decide) (by decide) HA7_5.out hon)
          have HO5_6 := Lib.hid (HO5_5.out.show_kept (by decide) (by decide) HA7_5.out hon)
          have HA6_6 := Lib.hid ((hon g6 HNE.out.symm).trans HA6_5.out)
          have HA7_6 := Lib.hid hzn
          have HB_6 := Lib.hid (HB_5.out.trans (hbn.mono HG7.out))
          have S_6 := old_of HB_6.out
          clear hwn hzn hon hbn x0 x1 x2 x3 y0 y1 y2 y3
          refine hK.out _ _ S_6 (fun hHeld => ?_)
          clear hK K
          (try simp only [List.getElem_toArray, List.getElem_cons_zero, List.getElem_cons_succ, Act.put, List.setIfInBounds_toArray, List.set_cons_zero, List.set_cons_succ])
          refine wpAnyH_done (by kernel_rfl) ?_ _; clear hHeld
          go_wp2_with fail
          go_meet
          exact ⟨_, _, _, _, _, _, _, _, rfl, rfl, HA6_6.out, HA7_6.out, HO2_6.out, HO5_6.out, HG6.out, HG7.out, HB_6.out⟩
        ·
          go_simp
          obtain ⟨w_7, hwn, hbn, hszn, hblkn⟩ := box1 w_2 (.cells #[.int .i64 0, .int .i64 0, .int .i64 0, .slice none 0 0] 24)
          rw [hwn]
          replace hbn := hbn.out
          have HO2_7 := Lib.hid (HO2_2.out.keep fun g _ h => hbn.block g h)
          have HO5_7 := Lib.hid (HO5_2.out.keep fun g _ h => hbn.block g h)
          have HB_7 := Lib.hid (bel HB_2.out hbn)
          have S_7 := old_of HB_7.out
          obtain ⟨g7, hg⟩ : ∃ g, w_2.heap.size = g := ⟨_, rfl⟩
          have HG7 : Hid (ws.heap.size ≤ g7) := by rw [← hg]; exact HB_2.out.size
          have HN7 : Hid (g7 = w_2.heap.size) := hg.symm
          rw [hg] at hblkn ⊢
          have HA7_7 := Lib.hid hblkn
          have x7_0 := cell_blk hblkn 0 rfl
          have x7_1 := cell_blk hblkn 1 rfl
          have x7_2 := cell_blk hblkn 2 rfl
          have x7_3 := cell_blk hblkn 3 rfl
          clear hblkn hbn hwn hg hszn
          clear x7_0
          clear x7_1
          clear x7_2
          clear x7_3
          refine hK.out _ _ S_7 (fun hHeld => ?_)
          clear hK K
          (try simp only [List.getElem_toArray, List.getElem_cons_zero, List.getElem_cons_succ, Act.put, List.setIfInBounds_toArray, List.set_cons_zero, List.set_cons_succ])
          refine wpAnyH_ready (rs := [6]) (by kernel_rfl) (by simp) ?_
          refine AllReadyH.cons rfl (fun K hK => ?_) AllReadyH.nil
          go_simp
          obtain ⟨w_8, hwn, hbn, hszn, hblkn⟩ := box1 w_7 (.cells #[.int .i64 0, .int .i64 0, .int .i64 0, .slice none 0 0] 24)
          rw [hwn]
          replace hbn := hbn.out
          have HO2_8 := Lib.hid (HO2_7.out.keep fun g _ h => hbn.block g h)
          have HO5_8 := Lib.hid (HO5_7.out.keep fun g _ h => hbn.block g h)
          have HA7_8 := Lib.hid ((hbn.block _ (heap_lt HA7_7.out)).trans HA7_7.out)
          have HB_8 := Lib.hid (bel HB_7.out hbn)
          have S_8 := old_of HB_8.out
          obtain ⟨g6, hg⟩ : ∃ g, w_7.heap.size = g := ⟨_, rfl⟩
          have HG6 : Hid (ws.heap.size ≤ g6) := by rw [← hg]; exact HB_7.out.size
          have HN8 : Hid (g6 = w_7.heap.size) := hg.symm
          rw [hg] at hblkn ⊢
          have HA6_8 := Lib.hid hblkn
          have x6_0 := cell_blk hblkn 0 rfl
          have x6_1 := cell_blk hblkn 1 rfl
          have x6_2 := cell_blk hblkn 2 rfl
          have x6_3 := cell_blk hblkn 3 rfl
          clear hblkn hbn hwn hg hszn
          clear x6_0
          clear x6_1
          clear x6_2
          clear x6_3
          refine hK.out _ _ S_8 (fun hHeld => ?_)
          clear hK K
          (try simp only [List.getElem_toArray, List.getElem_cons_zero, List.getElem_cons_succ, Act.put, List.setIfInBounds_toArray, List.set_cons_zero, List.set_cons_succ])
          have HNE : Hid (g7 ≠ g6) := by
            have h1 := heap_lt HA7_7.out
            have h2 := HN8.out
            unfold Hid; omega
          refine wpAnyH_ready (rs := [8]) (by kernel_rfl) (by simp) ?_
          refine AllReadyH.cons rfl (fun K hK => ?_) AllReadyH.nil
          have x0 := cell_blk HA6_8.out 0 rfl
          have y0 := free_blk HA6_8.out 0
          have x1 := cell_blk HA6_8.out 1 rfl
          have y1 := free_blk HA6_8.out 1
          have x2 := cell_blk HA6_8.out 2 rfl
          have y2 := free_blk HA6_8.out 2
          have x3 := cell_blk HA6_8.out 3 rfl
          have y3 := free_blk HA6_8.out 3
          go_simp
          obtain ⟨w_9, hwn, hzn, hon, hbn⟩ := put4o HA6_8.out (.int .i64 S.J) (.int .i64 S.D) (.int .i64 S.Z) (.slice a2 S.np c2)
          rw [hwn]
          have HO2_9 := Lib.hid (HO2_8.out.show_kept (by decide) (by decide) HA6_8.out hon)
          have HO5_9 := Lib.hid (HO5_8.out.show_kept (by decide) (by decide) HA6_8.out hon)
          have HA7_9 := Lib.hid ((hon g7 HNE.out).trans HA7_8.out)
          have HA6_9 := Lib.hid hzn
          have HB_9 := Lib.hid (HB_8.out.trans (hbn.mono HG6.out))
          have S_9 := old_of HB_9.out
          clear hwn hzn hon hbn x0 x1 x2 x3 y0 y1 y2 y3
          refine hK.out _ _ S_9 (fun hHeld => ?_)
          clear hK K
          (try simp only [List.getElem_toArray, List.getElem_cons_zero, List.getElem_cons_succ, Act.put, List.setIfInBounds_toArray, List.set_cons_zero, List.set_cons_succ])
          refine wpAnyH_ready (rs := [9]) (by kernel_rfl) (by simp) ?_
          refine AllReadyH.cons rfl (fun K hK => ?_) AllReadyH.nil
          have x0 := cell_blk HA7_9.out 0 rfl
          have y0 := free_blk HA7_9.out 0
          have x1 := cell_blk HA7_9.out 1 rfl
          have y1 := free_blk HA7_9.out 1
          have x2 := cell_blk HA7_9.out 2 rfl
          have y2 := free_blk HA7_9.out 2
          have x3 := cell_blk HA7_9.out 3 rfl
          have y3 := free_blk HA7_9.out 3
          go_simp
          obtain ⟨w_10, hwn, hzn, hon, hbn⟩ := put4o HA7_9.out (.int .i64 S.J) (.int .i64 S.D) (.int .i64 S.Z) (.slice a5 S.np c5)
          rw [hwn]
          have HO2_10 := Lib.hid (HO2_9.out.show_kept (by decide) (by decide) HA7_9.out hon)
          have HO5_10 := Lib.hid (HO5_9.out.show_kept (by decide) (by decide) HA7_9.out hon)
          have HA6_10 := Lib.hid ((hon g6 HNE.out.symm).trans HA6_9.out)
          have HA7_10 := Lib.hid hzn
          have HB_10 := Lib.hid (HB_9.out.trans (hbn.mono HG7.out))
          have S_10 := old_of HB_10.out
          clear hwn hzn hon hbn x0 x1 x2 x3 y0 y1 y2 y3
          refine hK.out _ _ S_10 (fun hHeld => ?_)
          clear hK K
          (try simp only [List.getElem_toArray, List.getElem_cons_zero, List.getElem_cons_succ, Act.put, List.setIfInBounds_toArray, List.set_cons_zero, List.set_cons_succ])
          refine wpAnyH_done (by kernel_rfl) ?_ _; clear hHeld
          go_wp2_with fail
          go_meet
          exact ⟨_, _, _, _, _, _, _, _, rfl, rfl, HA6_10.out, HA7_10.out, HO2_10.out, HO5_10.out, HG6.out, HG7.out, HB_10.out⟩
      ·
        go_simp
        obtain ⟨w_11, hwn, hbn, hszn, hblkn⟩ := box1 w_1 (.cells #[.int .i64 0, .int .i64 0, .int .i64 0, .slice none 0 0] 24)
        rw [hwn]
        replace hbn := hbn.out
        have HO2_11 := Lib.hid (HO2_1.out.keep fun g _ h => hbn.block g h)
        have HB_11 := Lib.hid (bel HB_1.out hbn)
        have S_11 := old_of HB_11.out
        obtain ⟨g6, hg⟩ : ∃ g, w_1.heap.size = g := ⟨_, rfl⟩
        have HG6 : Hid (ws.heap.size ≤ g6) := by rw [← hg]; exact HB_1.out.size
        have HN11 : Hid (g6 = w_1.heap.size) := hg.symm
        rw [hg] at hblkn ⊢
        have HA6_11 := Lib.hid hblkn
        have x6_0 := cell_blk hblkn 0 rfl
        have x6_1 := cell_blk hblkn 1 rfl
        have x6_2 := cell_blk hblkn 2 rfl
        have x6_3 := cell_blk hblkn 3 rfl
        clear hblkn hbn hwn hg hszn
        clear x6_0
        clear x6_1
        clear x6_2
        clear x6_3
        refine hK.out _ _ S_11 (fun hHeld => ?_)
        clear hK K
        (try simp only [List.getElem_toArray, List.getElem_cons_zero, List.getElem_cons_succ, Act.put, List.setIfInBounds_toArray, List.set_cons_zero, List.set_cons_succ])
        refine wpAnyH_ready (rs := [5, 7]) (by kernel_rfl) (by simp) ?_
        refine (AllReadyH.cons rfl (fun K hK => ?_) (AllReadyH.cons rfl (fun K hK => ?_) AllReadyH.nil))
        ·
          go_simp
          go_at_call 75
          refine (filled_ag N _ S p 20 0 _ (HBK.out.go HB_11.out) HNP.out HL.out).mono ?_
          rintro e w_12 ⟨a5, c5, rv5, rfl, hop, hbn⟩
          have HO5_12 : Hid (OwnP ws.heap.size w_12 40 (.slice a5 S.np c5) S.np S.sz rv5 (filS S p 20 0).pts) := hop.lower HB_11.out.size
          have HO2_12 := Lib.hid (HO2_11.out.keep fun g _ h => hbn.block g h)
          have HA6_12 := Lib.hid ((hbn.block _ (heap_lt HA6_11.out)).trans HA6_11.out)
          have HB_12 := Lib.hid (bel HB_11.out hbn)
          have S_12 := old_of HB_12.out
          clear hop hbn
          refine hK.out _ _ S_12 (fun hHeld => ?_)
          clear hK K
          (try simp only [List.getElem_toArray, List.getElem_cons_zero, List.getElem_cons_succ, Act.put, List.setIfInBounds_toArray, List.set_cons_zero, List.set_cons_succ])
          refine wpAnyH_ready (rs := [7]) (by kernel_rfl) (by simp) ?_
          refine AllReadyH.cons rfl (fun K hK => ?_) AllReadyH.nil
          go_simp
          obtain ⟨w_13, hwn, hbn, hszn, hblkn⟩ := box1 w_12 (.cells #[.int .i64 0, .int .i64 0, .int .i64 0, .slice none 0 0] 24)
          rw [hwn]
          replace hbn := hbn.out
          have HO2_13 := Lib.hid (HO2_12.out.keep fun g _ h => hbn.block g h)
          have HO5_13 := Lib.hid (HO5_12.out.keep fun g _ h => hbn.block g h)
          have HA6_13 := Lib.hid ((hbn.block _ (heap_lt HA6_12.out)).trans HA6_12.out)
          have HB_13 := Lib.hid (bel HB_12.out hbn)
          have S_13 := old_of HB_13.out
          obtain ⟨g7, hg⟩ : ∃ g, w_12.heap.size = g := ⟨_, rfl⟩
          have HG7 : Hid (ws.heap.size ≤ g7) := by rw [← hg]; exact HB_12.out.size
          have HN13 : Hid (g7 = w_12.heap.size) := hg.symm
          rw [hg] at hblkn ⊢
          have HA7_13 := Lib.hid hblkn
          have x7_0 := cell_blk hblkn 0 rfl
          have x7_1 := cell_blk hblkn 1 rfl
          have x7_2 := cell_blk hblkn 2 rfl
          have x7_3 := cell_blk hblkn 3 rfl
          clear hblkn hbn hwn hg hszn
          clear x7_0
          clear x7_1
          clear x7_2
          clear x7_3
          refine hK.out _ _ S_13 (fun hHeld => ?_)
          clear hK K
          (try simp only [List.getElem_toArray, List.getElem_cons_zero, List.getElem_cons_succ, Act.put, List.setIfInBounds_toArray, List.set_cons_zero, List.set_cons_succ])
          have HNE : Hid (g7 ≠ g6) := by
            have h1 := heap_lt HA6_12.out
            have h2 := HN13.out
            unfold Hid; omega
          refine wpAnyH_ready (rs := [8]) (by kernel_rfl) (by simp) ?_
          refine AllReadyH.cons rfl (fun K hK => ?_) AllReadyH.nil
          have x0 := cell_blk HA6_13.out 0 rfl
          have y0 := free_blk HA6_13.out 0
          have x1 := cell_blk HA6_13.out 1 rfl
          have y1 := free_blk HA6_13.out 1
          have x2 := cell_blk HA6_13.out 2 rfl
          have y2 := free_blk HA6_13.out 2
          have x3 := cell_blk HA6_13.out 3 rfl
          have y3 := free_blk HA6_13.out 3
          go_simp
          obtain ⟨w_14, hwn, hzn, hon, hbn⟩ := put4o HA6_13.out (.int .i64 S.J) (.int .i64 S.D) (.int .i64 S.Z) (.slice a2 S.np c2)
          rw [hwn]
          have HO2_14 := Lib.hid (HO2_13.out.show_kept (by decide) (by decide) HA6_13.out hon)
          have HO5_14 := Lib.hid (HO5_13.out.show_kept (by decide) (by decide) HA6_13.out hon)
          have HA7_14 := Lib.hid ((hon g7 HNE.out).trans HA7_13.out)
          have HA6_14 := Lib.hid hzn
          have HB_14 := Lib.hid (HB_13.out.trans (hbn.mono HG6.out))
          have S_14 := old_of HB_14.out
          clear hwn hzn hon hbn x0 x1 x2 x3 y0 y1 y2 y3
          refine hK.out _ _ S_14 (fun hHeld => ?_)
          clear hK K
          (try simp only [List.getElem_toArray, List.getElem_cons_zero, List.getElem_cons_succ, Act.put, List.setIfInBounds_toArray, List.set_cons_zero, List.set_cons_succ])
          refine wpAnyH_ready (rs := [9]) (by kernel_rfl) (by simp) ?_
          refine AllReadyH.cons rfl (fun K hK => ?_) AllReadyH.nil
          have x0 := cell_blk HA7_14.out 0 rfl
          have y0 := free_blk HA7_14.out 0
          have x1 := cell_blk HA7_14.out 1 rfl
          have y1 := free_blk HA7_14.out 1
          have x2 := cell_blk HA7_14.out 2 rfl
          have y2 := free_blk HA7_14.out 2
          have x3 := cell_blk HA7_14.out 3 rfl
          have y3 := free_blk HA7_14.out 3
          go_simp
          obtain ⟨w_15, hwn, hzn, hon, hbn⟩ := put4o HA7_14.out (.int .i64 S.J) (.int .i64 S.D) (.int .i64 S.Z) (.slice a5 S.np c5)
          rw [hwn]
          have HO2_15 := Lib.hid (HO2_14.out.show_kept (by decide) (by decide) HA7_14.out hon)
          have HO5_15 := Lib.hid (HO5_14.out.show_kept (by decide) (by decide) HA7_14.out hon)
          have HA6_15 := Lib.hid ((hon g6 HNE.out.symm).trans HA6_14.out)
          have HA7_15 := Lib.hid hzn
          have HB_15 := Lib.hid (HB_14.out.trans (hbn.mono HG7.out))
          have S_15 := old_of HB_15.out
          clear hwn hzn hon hbn x0 x1 x2 x3 y0 y1 y2 y3
          refine hK.out _ _ S_15 (fun hHeld => ?_)
          clear hK K
          (try simp only [List.getElem_toArray, List.getElem_cons_zero, List.getElem_cons_succ, Act.put, List.setIfInBounds_toArray, List.set_cons_zero, List.set_cons_succ])
          refine wpAnyH_done (by kernel_rfl) ?_ _; clear hHeld
          go_wp2_with fail
          go_meet
          exact ⟨_, _, _, _, _, _, _, _, rfl, rfl, HA6_15.out, HA7_15.out, HO2_15.out, HO5_15.out, HG6.out, HG7.out, HB_15.out⟩
        ·
          go_simp
          obtain ⟨w_16, hwn, hbn, hszn, hblkn⟩ := box1 w_11 (.cells #[.int .i64 0, .int .i64 0, .int .i64 0, .slice none 0 0] 24)
          rw [hwn]
          replace hbn := hbn.out
          have HO2_16 := Lib.hid (HO2_11.out.keep fun g _ h => hbn.block g h)
          have HA6_16 := Lib.hid ((hbn.block _ (heap_lt HA6_11.out)).trans HA6_11.out)
          have HB_16 := Lib.hid (bel HB_11.out hbn)
          have S_16 := old_of HB_16.out
          obtain ⟨g7, hg⟩ : ∃ g, w_11.heap.size = g := ⟨_, rfl⟩
          have HG7 : Hid (ws.heap.size ≤ g7) := by rw [← hg]; exact HB_11.out.size
          have HN16 : Hid (g7 = w_11.heap.size) := hg.symm
          rw [hg] at hblkn ⊢
          have HA7_16 := Lib.hid hblkn
          have x7_0 := cell_blk hblkn 0 rfl
          have x7_1 := cell_blk hblkn 1 rfl
          have x7_2 := cell_blk hblkn 2 rfl
          have x7_3 := cell_blk hblkn 3 rfl
          clear hblkn hbn hwn hg hszn
          clear x7_0
          clear x7_1
          clear x7_2
          clear x7_3
          refine hK.out _ _ S_16 (fun hHeld => ?_)
          clear hK K
          (try simp only [List.getElem_toArray, List.getElem_cons_zero, List.getElem_cons_succ, Act.put, List.setIfInBounds_toArray, List.set_cons_zero, List.set_cons_succ])
          have HNE : Hid (g7 ≠ g6) := by
            have h1 := heap_lt HA6_11.out
            have h2 := HN16.out
            unfold Hid; omega
          refine wpAnyH_ready (rs := [5]) (by kernel_rfl) (by simp) ?_
          refine AllReadyH.cons rfl (fun K hK => ?_) AllReadyH.nil
          go_simp
          go_at_call 75
          refine (filled_ag N _ S p 20 0 _ (HBK.out.go HB_16.out) HNP.out HL.out).mono ?_
          rintro e w_17 ⟨a5, c5, rv5, rfl, hop, hbn⟩
          have HO5_17 : Hid (OwnP ws.heap.size w_17 40 (.slice a5 S.np c5) S.np S.sz rv5 (filS S p 20 0).pts) := hop.lower HB_16.out.size
          have HO2_17 := Lib.hid (HO2_16.out.keep fun g _ h => hbn.block g h)
          have HA6_17 := Lib.hid ((hbn.block _ (heap_lt HA6_16.out)).trans HA6_16.out)
          have HA7_17 := Lib.hid ((hbn.block _ (heap_lt HA7_16.out)).trans HA7_16.out)
          have HB_17 := Lib.hid (bel HB_16.out hbn)
          have S_17 := old_of HB_17.out
          clear hop hbn
          refine hK.out _ _ S_17 (fun hHeld => ?_)
          clear hK K
          (try simp only [List.getElem_toArray, List.getElem_cons_zero, List.getElem_cons_succ, Act.put, List.setIfInBounds_toArray, List.set_cons_zero, List.set_cons_succ])
          refine wpAnyH_ready (rs := [8]) (by kernel_rfl) (by simp) ?_
          refine AllReadyH.cons rfl (fun K hK => ?_) AllReadyH.nil
          have x0 := cell_blk HA6_17.out 0 rfl
          have y0 := free_blk HA6_17.out 0
          have x1 := cell_blk HA6_17.out 1 rfl
          have y1 := free_blk HA6_17.out 1
          have x2 := cell_blk HA6_17.out 2 rfl
          have y2 := free_blk HA6_17.out 2
          have x3 := cell_blk HA6_17.out 3 rfl
          have y3 := free_blk HA6_17.out 3
          go_simp
          obtain ⟨w_18, hwn, hzn, hon, hbn⟩ := put4o HA6_17.out (.int .i64 S.J) (.int .i64 S.D) (.int .i64 S.Z) (.slice a2 S.np c2)
          rw [hwn]
          have HO2_18 := Lib.hid (HO2_17.out.show_kept (by decide) (by decide) HA6_17.out hon)
          have HO5_18 := Lib.hid (HO5_17.out.show_kept (by decide) (by decide) HA6_17.out hon)
          have HA7_18 := Lib.hid ((hon g7 HNE.out).trans HA7_17.out)
          have HA6_18 := Lib.hid hzn
          have HB_18 := Lib.hid (HB_17.out.trans (hbn.mono HG6.out))
          have S_18 := old_of HB_18.out
          clear hwn hzn hon hbn x0 x1 x2 x3 y0 y1 y2 y3
          refine hK.out _ _ S_18 (fun hHeld => ?_)
          clear hK K
          (try simp only [List.getElem_toArray, List.getElem_cons_zero, List.getElem_cons_succ, Act.put, List.setIfInBounds_toArray, List.set_cons_zero, List.set_cons_succ])
          refine wpAnyH_ready (rs := [9]) (by kernel_rfl) (by simp) ?_
          refine AllReadyH.cons rfl (fun K hK => ?_) AllReadyH.nil
          have x0 := cell_blk HA7_18.out 0 rfl
          have y0 := free_blk HA7_18.out 0
          have x1 := cell_blk HA7_18.out 1 rfl
          have y1 := free_blk HA7_18.out 1
          have x2 := cell_blk HA7_18.out 2 rfl
          have y2 := free_blk HA7_18.out 2
          have x3 := cell_blk HA7_18.out 3 rfl
          have y3 := free_blk HA7_18.out 3
          go_simp
          obtain ⟨w_19, hwn, hzn, hon, hbn⟩ := put4o HA7_18.out (.int .i64 S.J) (.int .i64 S.D) (.int .i64 S.Z) (.slice a5 S.np c5)
          rw [hwn]
          have HO2_19 := Lib.hid (HO2_18.out.show_kept (by decide) (by decide) HA7_18.out hon)
          have HO5_19 := Lib.hid (HO5_18.out.show_kept (by decide) (by decide) HA7_18.out hon)
          have HA6_19 := Lib.hid ((hon g6 HNE.out.symm).trans HA6_18.out)
          have HA7_19 := Lib.hid hzn
          have HB_19 := Lib.hid (HB_18.out.trans (hbn.mono HG7.out))
          have S_19 := old_of HB_19.out
          clear hwn hzn hon hbn x0 x1 x2 x3 y0 y1 y2 y3
          refine hK.out _ _ S_19 (fun hHeld => ?_)
          clear hK K
          (try simp only [List.getElem_toArray, List.getElem_cons_zero, List.getElem_cons_succ, Act.put, List.setIfInBounds_toArray, List.set_cons_zero, List.set_cons_succ])
          refine wpAnyH_done (by kernel_rfl) ?_ _; clear hHeld
          go_wp2_with fail
          go_meet
          exact ⟨_, _, _, _, _, _, _, _, rfl, rfl, HA6_19.out, HA7_19.out, HO2_19.out, HO5_19.out, HG6.out, HG7.out, HB_19.out⟩
      ·
        go_simp
        obtain ⟨w_20, hwn, hbn, hszn, hblkn⟩ := box1 w_1 (.cells #[.int .i64 0, .int .i64 0, .int .i64 0, .slice none 0 0] 24)
        rw [hwn]
        replace hbn := hbn.out
        have HO2_20 := Lib.hid (HO2_1.out.keep fun g _ h => hbn.block g h)
        have HB_20 := Lib.hid (bel HB_1.out hbn)
        have S_20 := old_of HB_20.out
        obtain ⟨g7, hg⟩ : ∃ g, w_1.heap.size = g := ⟨_, rfl⟩
        have HG7 : Hid (ws.heap.size ≤ g7) := by rw [← hg]; exact HB_1.out.size
        have HN20 : Hid (g7 = w_1.heap.size) := hg.symm
        rw [hg] at hblkn ⊢
        have HA7_20 := Lib.hid hblkn
        have x7_0 := cell_blk hblkn 0 rfl
        have x7_1 := cell_blk hblkn 1 rfl
        have x7_2 := cell_blk hblkn 2 rfl
        have x7_3 := cell_blk hblkn 3 rfl
        clear hblkn hbn hwn hg hszn
        clear x7_0
        clear x7_1
        clear x7_2
        clear x7_3
        refine hK.out _ _ S_20 (fun hHeld => ?_)
        clear hK K
        (try simp only [List.getElem_toArray, List.getElem_cons_zero, List.getElem_cons_succ, Act.put, List.setIfInBounds_toArray, List.set_cons_zero, List.set_cons_succ])
        refine wpAnyH_ready (rs := [5, 6]) (by kernel_rfl) (by simp) ?_
        refine (AllReadyH.cons rfl (fun K hK => ?_) (AllReadyH.cons rfl (fun K hK => ?_) AllReadyH.nil))
        ·
          go_simp
          go_at_call 75
          refine (filled_ag N _ S p 20 0 _ (HBK.out.go HB_20.out) HNP.out HL.out).mono ?_
          rintro e w_21 ⟨a5, c5, rv5, rfl, hop, hbn⟩
          have HO5_21 : Hid (OwnP ws.heap.size w_21 40 (.slice a5 S.np c5) S.np S.sz rv5 (filS S p 20 0).pts) := hop.lower HB_20.out.size
          have HO2_21 := Lib.hid (HO2_20.out.keep fun g _ h => hbn.block g h)
          have HA7_21 := Lib.hid ((hbn.block _ (heap_lt HA7_20.out)).trans HA7_20.out)
          have HB_21 := Lib.hid (bel HB_20.out hbn)
          have S_21 := old_of HB_21.out
          clear hop hbn
          refine hK.out _ _ S_21 (fun hHeld => ?_)
          clear hK K
          (try simp only [List.getElem_toArray, List.getElem_cons_zero, List.getElem_cons_succ, Act.put, List.setIfInBounds_toArray, List.set_cons_zero, List.set_cons_succ])
          refine wpAnyH_ready (rs := [6]) (by kernel_rfl) (by simp) ?_
          refine AllReadyH.cons rfl (fun K hK => ?_) AllReadyH.nil
          go_simp
          obtain ⟨w_22, hwn, hbn, hszn, hblkn⟩ := box1 w_21 (.cells #[.int .i64 0, .int .i64 0, .int .i64 0, .slice none 0 0] 24)
          rw [hwn]
          replace hbn := hbn.out
          have HO2_22 := Lib.hid (HO2_21.out.keep fun g _ h => hbn.block g h)
          have HO5_22 := Lib.hid (HO5_21.out.keep fun g _ h => hbn.block g h)
          have HA7_22 := Lib.hid ((hbn.block _ (heap_lt HA7_21.out)).trans HA7_21.out)
          have HB_22 := Lib.hid (bel HB_21.out hbn)
          have S_22 := old_of HB_22.out
          obtain ⟨g6, hg⟩ : ∃ g, w_21.heap.size = g := ⟨_, rfl⟩
          have HG6 : Hid (ws.heap.size ≤ g6) := by rw [← hg]; exact HB_21.out.size
          have HN22 : Hid (g6 = w_21.heap.size) := hg.symm
          rw [hg] at hblkn ⊢
          have HA6_22 := Lib.hid hblkn
          have x6_0 := cell_blk hblkn 0 rfl
          have x6_1 := cell_blk hblkn 1 rfl
          have x6_2 := cell_blk hblkn 2 rfl
          have x6_3 := cell_blk hblkn 3 rfl
          clear hblkn hbn hwn hg hszn
          clear x6_0
          clear x6_1
          clear x6_2
          clear x6_3
          refine hK.out _ _ S_22 (fun hHeld => ?_)
          clear hK K
          (try simp only [List.getElem_toArray, List.getElem_cons_zero, List.getElem_cons_succ, Act.put, List.setIfInBounds_toArray, List.set_cons_zero, List.set_cons_succ])
          have HNE : Hid (g7 ≠ g6) := by
            have h1 := heap_lt HA7_21.out
            have h2 := HN22.out
            unfold Hid; omega
          refine wpAnyH_ready (rs := [8]) (by kernel_rfl) (by simp) ?_
          refine AllReadyH.cons rfl (fun K hK => ?_) AllReadyH.nil
          have x0 := cell_blk HA6_22.out 0 rfl
          have y0 := free_blk HA6_22.out 0
          have x1 := cell_blk HA6_22.out 1 rfl
          have y1 := free_blk HA6_22.out 1
          have x2 := cell_blk HA6_22.out 2 rfl
          have y2 := free_blk HA6_22.out 2
          have x3 := cell_blk HA6_22.out 3 rfl
          have y3 := free_blk HA6_22.out 3
          go_simp
          obtain ⟨w_23, hwn, hzn, hon, hbn⟩ := put4o HA6_22.out (.int .i64 S.J) (.int .i64 S.D) (.int .i64 S.Z) (.slice a2 S.np c2)
          rw [hwn]
          have HO2_23 := Lib.hid (HO2_22.out.show_kept (by decide) (by decide) HA6_22.out hon)
          have HO5_23 := Lib.hid (HO5_22.out.show_kept (by decide) (by decide) HA6_22.out hon)
          have HA7_23 := Lib.hid ((hon g7 HNE.out).trans HA7_22.out)
          have HA6_23 := Lib.hid hzn
          have HB_23 := Lib.hid (HB_22.out.trans (hbn.mono HG6.out))
          have S_23 := old_of HB_23.out
          clear hwn hzn hon hbn x0 x1 x2 x3 y0 y1 y2 y3
          refine hK.out _ _ S_23 (fun hHeld => ?_)
          clear hK K
          (try simp only [List.getElem_toArray, List.getElem_cons_zero, List.getElem_cons_succ, Act.put, List.setIfInBounds_toArray, List.set_cons_zero, List.set_cons_succ])
          refine wpAnyH_ready (rs := [9]) (by kernel_rfl) (by simp) ?_
          refine AllReadyH.cons rfl (fun K hK => ?_) AllReadyH.nil
          have x0 := cell_blk HA7_23.out 0 rfl
          have y0 := free_blk HA7_23.out 0
          have x1 := cell_blk HA7_23.out 1 rfl
          have y1 := free_blk HA7_23.out 1
          have x2 := cell_blk HA7_23.out 2 rfl
          have y2 := free_blk HA7_23.out 2
          have x3 := cell_blk HA7_23.out 3 rfl
          have y3 := free_blk HA7_23.out 3
          go_simp
          obtain ⟨w_24, hwn, hzn, hon, hbn⟩ := put4o HA7_23.out (.int .i64 S.J) (.int .i64 S.D) (.int .i64 S.Z) (.slice a5 S.np c5)
          rw [hwn]
          have HO2_24 := Lib.hid (HO2_23.out.show_kept (by decide) (by decide) HA7_23.out hon)
          have HO5_24 := Lib.hid (HO5_23.out.show_kept (by decide) (by decide) HA7_23.out hon)
          have HA6_24 := Lib.hid ((hon g6 HNE.out.symm).trans HA6_23.out)
          have HA7_24 := Lib.hid hzn
          have HB_24 := Lib.hid (HB_23.out.trans (hbn.mono HG7.out))
          have S_24 := old_of HB_24.out
          clear hwn hzn hon hbn x0 x1 x2 x3 y0 y1 y2 y3
          refine hK.out _ _ S_24 (fun hHeld => ?_)
          clear hK K
          (try simp only [List.getElem_toArray, List.getElem_cons_zero, List.getElem_cons_succ, Act.put, List.setIfInBounds_toArray, List.set_cons_zero, List.set_cons_succ])
          refine wpAnyH_done (by kernel_rfl) ?_ _; clear hHeld
          go_wp2_with fail
          go_meet
          exact ⟨_, _, _, _, _, _, _, _, rfl, rfl, HA6_24.out, HA7_24.out, HO2_24.out, HO5_24.out, HG6.out, HG7.out, HB_24.out⟩
        ·
          go_simp
          obtain ⟨w_25, hwn, hbn, hszn, hblkn⟩ := box1 w_20 (.cells #[.int .i64 0, .int .i64 0, .int .i64 0, .slice none 0 0] 24)
          rw [hwn]
          replace hbn := hbn.out
          have HO2_25 := Lib.hid (HO2_20.out.keep fun g _ h => hbn.block g h)
          have HA7_25 := Lib.hid ((hbn.block _ (heap_lt HA7_20.out)).trans HA7_20.out)
          have HB_25 := Lib.hid (bel HB_20.out hbn)
          have S_25 := old_of HB_25.out
          obtain ⟨g6, hg⟩ : ∃ g, w_20.heap.size = g := ⟨_, rfl⟩
          have HG6 : Hid (ws.heap.size ≤ g6) := by rw [← hg]; exact HB_20.out.size
          have HN25 : Hid (g6 = w_20.heap.size) := hg.symm
          rw [hg] at hblkn ⊢
          have HA6_25 := Lib.hid hblkn
          have x6_0 := cell_blk hblkn 0 rfl
          have x6_1 := cell_blk hblkn 1 rfl
          have x6_2 := cell_blk hblkn 2 rfl
          have x6_3 := cell_blk hblkn 3 rfl
          clear hblkn hbn hwn hg hszn
          clear x6_0
          clear x6_1
          clear x6_2
          clear x6_3
          refine hK.out _ _ S_25 (fun hHeld => ?_)
          clear hK K
          (try simp only [List.getElem_toArray, List.getElem_cons_zero, List.getElem_cons_succ, Act.put, List.setIfInBounds_toArray, List.set_cons_zero, List.set_cons_succ])
          have HNE : Hid (g7 ≠ g6) := by
            have h1 := heap_lt HA7_20.out
            have h2 := HN25.out
            unfold Hid; omega
          refine wpAnyH_ready (rs := [5]) (by kernel_rfl) (by simp) ?_
          refine AllReadyH.cons rfl (fun K hK => ?_) AllReadyH.nil
          go_simp
          go_at_call 75
          refine (filled_ag N _ S p 20 0 _ (HBK.out.go HB_25.out) HNP.out HL.out).mono ?_
          rintro e w_26 ⟨a5, c5, rv5, rfl, hop, hbn⟩
          have HO5_26 : Hid (OwnP ws.heap.size w_26 40 (.slice a5 S.np c5) S.np S.sz rv5 (filS S p 20 0).pts) := hop.lower HB_25.out.size
          have HO2_26 := Lib.hid (HO2_25.out.keep fun g _ h => hbn.block g h)
          have HA6_26 := Lib.hid ((hbn.block _ (heap_lt HA6_25.out)).trans HA6_25.out)
          have HA7_26 := Lib.hid ((hbn.block _ (heap_lt HA7_25.out)).trans HA7_25.out)
          have HB_26 := Lib.hid (bel HB_25.out hbn)
          have S_26 := old_of HB_26.out
          clear hop hbn
          refine hK.out _ _ S_26 (fun hHeld => ?_)
          clear hK K
          (try simp only [List.getElem_toArray, List.getElem_cons_zero, List.getElem_cons_succ, Act.put, List.setIfInBounds_toArray, List.set_cons_zero, List.set_cons_succ])
          refine wpAnyH_ready (rs := [8]) (by kernel_rfl) (by simp) ?_
          refine AllReadyH.cons rfl (fun K hK => ?_) AllReadyH.nil
          have x0 := cell_blk HA6_26.out 0 rfl
          have y0 := free_blk HA6_26.out 0
          have x1 := cell_blk HA6_26.out 1 rfl
          have y1 := free_blk HA6_26.out 1
          have x2 := cell_blk HA6_26.out 2 rfl
          have y2 := free_blk HA6_26.out 2
          have x3 := cell_blk HA6_26.out 3 rfl
          have y3 := free_blk HA6_26.out 3
          go_simp
          obtain ⟨w_27, hwn, hzn, hon, hbn⟩ := put4o HA6_26.out (.int .i64 S.J) (.int .i64 S.D) (.int .i64 S.Z) (.slice a2 S.np c2)
          rw [hwn]
          have HO2_27 := Lib.hid (HO2_26.out.show_kept (by decide) (by decide) HA6_26.out hon)
          have HO5_27 := Lib.hid (HO5_26.out.show_kept (by decide) (by decide) HA6_26.out hon)
          have HA7_27 := Lib.hid ((hon g7 HNE.out).trans HA7_26.out)
          have HA6_27 := Lib.hid hzn
          have HB_27 := Lib.hid (HB_26.out.trans (hbn.mono HG6.out))
          have S_27 := old_of HB_27.out
          clear hwn hzn hon hbn x0 x1 x2 x3 y0 y1 y2 y3
          refine hK.out _ _ S_27 (fun hHeld => ?_)
          clear hK K
          (try simp only [List.getElem_toArray, List.getElem_cons_zero, List.getElem_cons_succ, Act.put, List.setIfInBounds_toArray, List.set_cons_zero, List.set_cons_succ])
          refine wpAnyH_ready (rs := [9]) (by kernel_rfl) (by simp) ?_
          refine AllReadyH.cons rfl (fun K hK => ?_) AllReadyH.nil
          have x0 := cell_blk HA7_27.out 0 rfl
          have y0 := free_blk HA7_27.out 0
          have x1 := cell_blk HA7_27.out 1 rfl
          have y1 := free_blk HA7_27.out 1
          have x2 := cell_blk HA7_27.out 2 rfl
          have y2 := free_blk HA7_27.out 2
          have x3 := cell_blk HA7_27.out 3 rfl
          have y3 := free_blk HA7_27.out 3
          go_simp
          obtain ⟨w_28, hwn, hzn, hon, hbn⟩ := put4o HA7_27.out (.int .i64 S.J) (.int .i64 S.D) (.int .i64 S.Z) (.slice a5 S.np c5)
          rw [hwn]
          have HO2_28 := Lib.hid (HO2_27.out.show_kept (by decide) (by decide) HA7_27.out hon)
          have HO5_28 := Lib.hid (HO5_27.out.show_kept (by decide) (by decide) HA7_27.out hon)
          have HA6_28 := Lib.hid ((hon g6 HNE.out.symm).trans HA6_27.out)
          have HA7_28 := Lib.hid hzn
          have HB_28 := Lib.hid (HB_27.out.trans (hbn.mono HG7.out))
          have S_28 := old_of HB_28.out
          clear hwn hzn hon hbn x0 x1 x2 x3 y0 y1 y2 y3
          refine hK.out _ _ S_28 (fun hHeld => ?_)
          clear hK K
          (try simp only [List.getElem_toArray, List.getElem_cons_zero, List.getElem_cons_succ, Act.put, List.setIfInBounds_toArray, List.set_cons_zero, List.set_cons_succ])
          refine wpAnyH_done (by kernel_rfl) ?_ _; clear hHeld
          go_wp2_with fail
          go_meet
          exact ⟨_, _, _, _, _, _, _, _, rfl, rfl, HA6_28.out, HA7_28.out, HO2_28.out, HO5_28.out, HG6.out, HG7.out, HB_28.out⟩
    ·
      go_simp
      obtain ⟨w_29, hwn, hbn, hszn, hblkn⟩ := box1 wd (.cells #[.int .i64 0, .int .i64 0, .int .i64 0, .slice none 0 0] 24)
      rw [hwn]
      replace hbn := hbn.out
      have HB_29 := Lib.hid (bel HB_0.out hbn)
      have S_29 := old_of HB_29.out
      obtain ⟨g6, hg⟩ : ∃ g, wd.heap.size = g := ⟨_, rfl⟩
      have HG6 : Hid (ws.heap.size ≤ g6) := by rw [← hg]; exact HB_0.out.size
      have HN29 : Hid (g6 = wd.heap.size) := hg.symm
      rw [hg] at hblkn ⊢
      have HA6_29 := Lib.hid hblkn
      have x6_0 := cell_blk hblkn 0 rfl
      have x6_1 := cell_blk hblkn 1 rfl
      have x6_2 := cell_blk hblkn 2 rfl
      have x6_3 := cell_blk hblkn 3 rfl
      clear hblkn hbn hwn hg hszn
      clear x6_0
      clear x6_1
      clear x6_2
      clear x6_3
      refine hK.out _ _ S_29 (fun hHeld => ?_)
      clear hK K
      (try simp only [List.getElem_toArray, List.getElem_cons_zero, List.getElem_cons_succ, Act.put, List.setIfInBounds_toArray, List.set_cons_zero, List.set_cons_succ])
      refine wpAnyH_ready (rs := [2, 7]) (by kernel_rfl) (by simp) ?_
      refine (AllReadyH.cons rfl (fun K hK => ?_) (AllReadyH.cons rfl (fun K hK => ?_) AllReadyH.nil))
      ·
        go_simp
        go_at_call 75
        refine (filled_ag N _ S p 0 0 _ (HBK.out.go HB_29.out) HNP.out HL.out).mono ?_
        rintro e w_30 ⟨a2, c2, rv2, rfl, hop, hbn⟩
        have HO2_30 : Hid (OwnP ws.heap.size w_30 40 (.slice a2 S.np c2) S.np S.sz rv2 (filS S p 0 0).pts) := hop.lower HB_29.out.size
        have HA6_30 := Lib.hid ((hbn.block _ (heap_lt HA6_29.out)).trans HA6_29.out)
        have HB_30 := Lib.hid (bel HB_29.out hbn)
        have S_30 := old_of HB_30.out
        clear hop hbn
        refine hK.out _ _ S_30 (fun hHeld => ?_)
        clear hK K
        (try simp only [List.getElem_toArray, List.getElem_cons_zero, List.getElem_cons_succ, Act.put, List.setIfInBounds_toArray, List.set_cons_zero, List.set_cons_succ])
        refine wpAnyH_ready (rs := [5, 7]) (by kernel_rfl) (by simp) ?_
        refine (AllReadyH.cons rfl (fun K hK => ?_) (AllReadyH.cons rfl (fun K hK => ?_) AllReadyH.nil))
        ·
          go_simp
          go_at_call 75
          refine (filled_ag N _ S p 20 0 _ (HBK.out.go HB_30.out) HNP.out HL.out).mono ?_
          rintro e w_31 ⟨a5, c5, rv5, rfl, hop, hbn⟩
          have HO5_31 : Hid (OwnP ws.heap.size w_31 40 (.slice a5 S.np c5) S.np S.sz rv5 (filS S p 20 0).pts) := hop.lower HB_30.out.size
          have HO2_31 := Lib.hid (HO2_30.out.keep fun g _ h => hbn.block g h)
          have HA6_31 := Lib.hid ((hbn.block _ (heap_lt HA6_30.out)).trans HA6_30.out)
          have HB_31 := Lib.hid (bel HB_30.out hbn)
          have S_31 := old_of HB_31.out
          clear hop hbn
          refine hK.out _ _ S_31 (fun hHeld => ?_)
          clear hK K
          (try simp only [List.getElem_toArray, List.getElem_cons_zero, List.getElem_cons_succ, Act.put, List.setIfInBounds_toArray, List.set_cons_zero, List.set_cons_succ])
          refine wpAnyH_ready (rs := [7]) (by kernel_rfl) (by simp) ?_
          refine AllReadyH.cons rfl (fun K hK => ?_) AllReadyH.nil
          go_simp
          obtain ⟨w_32, hwn, hbn, hszn, hblkn⟩ := box1 w_31 (.cells #[.int .i64 0, .int .i64 0, .int .i64 0, .slice none 0 0] 24)
          rw [hwn]
          replace hbn := hbn.out
          have HO2_32 := Lib.hid (HO2_31.out.keep fun g _ h => hbn.block g h)
          have HO5_32 := Lib.hid (HO5_31.out.keep fun g _ h => hbn.block g h)
          have HA6_32 := Lib.hid ((hbn.block _ (heap_lt HA6_31.out)).trans HA6_31.out)
          have HB_32 := Lib.hid (bel HB_31.out hbn)
          have S_32 := old_of HB_32.out
          obtain ⟨g7, hg⟩ : ∃ g, w_31.heap.size = g := ⟨_, rfl⟩
          have HG7 : Hid (ws.heap.size ≤ g7) := by rw [← hg]; exact HB_31.out.size
          have HN32 : Hid (g7 = w_31.heap.size) := hg.symm
          rw [hg] at hblkn ⊢
          have HA7_32 := Lib.hid hblkn
          have x7_0 := cell_blk hblkn 0 rfl
          have x7_1 := cell_blk hblkn 1 rfl
          have x7_2 := cell_blk hblkn 2 rfl
          have x7_3 := cell_blk hblkn 3 rfl
          clear hblkn hbn hwn hg hszn
          clear x7_0
          clear x7_1
          clear x7_2
          clear x7_3
          refine hK.out _ _ S_32 (fun hHeld => ?_)
          clear hK K
          (try simp only [List.getElem_toArray, List.getElem_cons_zero, List.getElem_cons_succ, Act.put, List.setIfInBounds_toArray, List.set_cons_zero, List.set_cons_succ])
          have HNE : Hid (g7 ≠ g6) := by
            have h1 := heap_lt HA6_31.out
            have h2 := HN32.out
            unfold Hid; omega
          refine wpAnyH_ready (rs := [8]) (by kernel_rfl) (by simp) ?_
          refine AllReadyH.cons rfl (fun K hK => ?_) AllReadyH.nil
          have x0 := cell_blk HA6_32.out 0 rfl
          have y0 := free_blk HA6_32.out 0
          have x1 := cell_blk HA6_32.out 1 rfl
          have y1 := free_blk HA6_32.out 1
          have x2 := cell_blk HA6_32.out 2 rfl
          have y2 := free_blk HA6_32.out 2
          have x3 := cell_blk HA6_32.out 3 rfl
          have y3 := free_blk HA6_32.out 3
          go_simp
          obtain ⟨w_33, hwn, hzn, hon, hbn⟩ := put4o HA6_32.out (.int .i64 S.J) (.int .i64 S.D) (.int .i64 S.Z) (.slice a2 S.np c2)
          rw [hwn]
          have HO2_33 := Lib.hid (HO2_32.out.show_kept (by decide) (by decide) HA6_32.out hon)
          have HO5_33 := Lib.hid (HO5_32.out.show_kept (by decide) (by decide) HA6_32.out hon)
          have HA7_33 := Lib.hid ((hon g7 HNE.out).trans HA7_32.out)
          have HA6_33 := Lib.hid hzn
          have HB_33 := Lib.hid (HB_32.out.trans (hbn.mono HG6.out))
          have S_33 := old_of HB_33.out
          clear hwn hzn hon hbn x0 x1 x2 x3 y0 y1 y2 y3
          refine hK.out _ _ S_33 (fun hHeld => ?_)
          clear hK K
          (try simp only [List.getElem_toArray, List.getElem_cons_zero, List.getElem_cons_succ, Act.put, List.setIfInBounds_toArray, List.set_cons_zero, List.set_cons_succ])
          refine wpAnyH_ready (rs := [9]) (by kernel_rfl) (by simp) ?_
          refine AllReadyH.cons rfl (fun K hK => ?_) AllReadyH.nil
          have x0 := cell_blk HA7_33.out 0 rfl
          have y0 := free_blk HA7_33.out 0
          have x1 := cell_blk HA7_33.out 1 rfl
          have y1 := free_blk HA7_33.out 1
          have x2 := cell_blk HA7_33.out 2 rfl
          have y2 := free_blk HA7_33.out 2
          have x3 := cell_blk HA7_33.out 3 rfl
          have y3 := free_blk HA7_33.out 3
          go_simp
          obtain ⟨w_34, hwn, hzn, hon, hbn⟩ := put4o HA7_33.out (.int .i64 S.J) (.int .i64 S.D) (.int .i64 S.Z) (.slice a5 S.np c5)
          rw [hwn]
          have HO2_34 := Lib.hid (HO2_33.out.show_kept (by decide) (by decide) HA7_33.out hon)
          have HO5_34 := Lib.hid (HO5_33.out.show_kept (by decide) (by decide) HA7_33.out hon)
          have HA6_34 := Lib.hid ((hon g6 HNE.out.symm).trans HA6_33.out)
          have HA7_34 := Lib.hid hzn
          have HB_34 := Lib.hid (HB_33.out.trans (hbn.mono HG7.out))
          have S_34 := old_of HB_34.out
          clear hwn hzn hon hbn x0 x1 x2 x3 y0 y1 y2 y3
          refine hK.out _ _ S_34 (fun hHeld => ?_)
          clear hK K
          (try simp only [List.getElem_toArray, List.getElem_cons_zero, List.getElem_cons_succ, Act.put, List.setIfInBounds_toArray, List.set_cons_zero, List.set_cons_succ])
          refine wpAnyH_done (by kernel_rfl) ?_ _; clear hHeld
          go_wp2_with fail
          go_meet
          exact ⟨_, _, _, _, _, _, _, _, rfl, rfl, HA6_34.out, HA7_34.out, HO2_34.out, HO5_34.out, HG6.out, HG7.out, HB_34.out⟩
        ·
          go_simp
          obtain ⟨w_35, hwn, hbn, hszn, hblkn⟩ := box1 w_30 (.cells #[.int .i64 0, .int .i64 0, .int .i64 0, .slice none 0 0] 24)
          rw [hwn]
          replace hbn := hbn.out
          have HO2_35 := Lib.hid (HO2_30.out.keep fun g _ h => hbn.block g h)
          have HA6_35 := Lib.hid ((hbn.block _ (heap_lt HA6_30.out)).trans HA6_30.out)
          have HB_35 := Lib.hid (bel HB_30.out hbn)
          have S_35 := old_of HB_35.out
          obtain ⟨g7, hg⟩ : ∃ g, w_30.heap.size = g := ⟨_, rfl⟩
          have HG7 : Hid (ws.heap.size ≤ g7) := by rw [← hg]; exact HB_30.out.size
          have HN35 : Hid (g7 = w_30.heap.size) := hg.symm
          rw [hg] at hblkn ⊢
          have HA7_35 := Lib.hid hblkn
          have x7_0 := cell_blk hblkn 0 rfl
          have x7_1 := cell_blk hblkn 1 rfl
          have x7_2 := cell_blk hblkn 2 rfl
          have x7_3 := cell_blk hblkn 3 rfl
          clear hblkn hbn hwn hg hszn
          clear x7_0
          clear x7_1
          clear x7_2
          clear x7_3
          refine hK.out _ _ S_35 (fun hHeld => ?_)
          clear hK K
          (try simp only [List.getElem_toArray, List.getElem_cons_zero, List.getElem_cons_succ, Act.put, List.setIfInBounds_toArray, List.set_cons_zero, List.set_cons_succ])
          have HNE : Hid (g7 ≠ g6) := by
            have h1 := heap_lt HA6_30.out
            have h2 := HN35.out
            unfold Hid; omega
          refine wpAnyH_ready (rs := [5]) (by kernel_rfl) (by simp) ?_
          refine AllReadyH.cons rfl (fun K hK => ?_) AllReadyH.nil
          go_simp
          go_at_call 75
          refine (filled_ag N _ S p 20 0 _ (HBK.out.go HB_35.out) HNP.out HL.out).mono ?_
          rintro e w_36 ⟨a5, c5, rv5, rfl, hop, hbn⟩
          have HO5_36 : Hid (OwnP ws.heap.size w_36 40 (.slice a5 S.np c5) S.np S.sz rv5 (filS S p 20 0).pts) := hop.lower HB_35.out.size
          have HO2_36 := Lib.hid (HO2_35.out.keep fun g _ h => hbn.block g h)
          have HA6_36 := Lib.hid ((hbn.block _ (heap_lt HA6_35.out)).trans HA6_35.out)
          have HA7_36 := Lib.hid ((hbn.block _ (heap_lt HA7_35.out)).trans HA7_35.out)
          have HB_36 := Lib.hid (bel HB_35.out hbn)
          have S_36 := old_of HB_36.out
          clear hop hbn
          refine hK.out _ _ S_36 (fun hHeld => ?_)
          clear hK K
          (try simp only [List.getElem_toArray, List.getElem_cons_zero, List.getElem_cons_succ, Act.put, List.setIfInBounds_toArray, List.set_cons_zero, List.set_cons_succ])
          refine wpAnyH_ready (rs := [8]) (by kernel_rfl) (by simp) ?_
          refine AllReadyH.cons rfl (fun K hK => ?_) AllReadyH.nil
          have x0 := cell_blk HA6_36.out 0 rfl
          have y0 := free_blk HA6_36.out 0
          have x1 := cell_blk HA6_36.out 1 rfl
          have y1 := free_blk HA6_36.out 1
          have x2 := cell_blk HA6_36.out 2 rfl
          have y2 := free_blk HA6_36.out 2
          have x3 := cell_blk HA6_36.out 3 rfl
          have y3 := free_blk HA6_36.out 3
          go_simp
          obtain ⟨w_37, hwn, hzn, hon, hbn⟩ := put4o HA6_36.out (.int .i64 S.J) (.int .i64 S.D) (.int .i64 S.Z) (.slice a2 S.np c2)
          rw [hwn]
          have HO2_37 := Lib.hid (HO2_36.out.show_kept (by decide) (by decide) HA6_36.out hon)
          have HO5_37 := Lib.hid (HO5_36.out.show_kept (by decide) (by decide) HA6_36.out hon)
          have HA7_37 := Lib.hid ((hon g7 HNE.out).trans HA7_36.out)
          have HA6_37 := Lib.hid hzn
          have HB_37 := Lib.hid (HB_36.out.trans (hbn.mono HG6.out))
          have S_37 := old_of HB_37.out
          clear hwn hzn hon hbn x0 x1 x2 x3 y0 y1 y2 y3
          refine hK.out _ _ S_37 (fun hHeld => ?_)
          clear hK K
          (try simp only [List.getElem_toArray, List.getElem_cons_zero, List.getElem_cons_succ, Act.put, List.setIfInBounds_toArray, List.set_cons_zero, List.set_cons_succ])
          refine wpAnyH_ready (rs := [9]) (by kernel_rfl) (by simp) ?_
          refine AllReadyH.cons rfl (fun K hK => ?_) AllReadyH.nil
          have x0 := cell_blk HA7_37.out 0 rfl
          have y0 := free_blk HA7_37.out 0
          have x1 := cell_blk HA7_37.out 1 rfl
          have y1 := free_blk HA7_37.out 1
          have x2 := cell_blk HA7_37.out 2 rfl
          have y2 := free_blk HA7_37.out 2
          have x3 := cell_blk HA7_37.out 3 rfl
          have y3 := free_blk HA7_37.out 3
          go_simp
          obtain ⟨w_38, hwn, hzn, hon, hbn⟩ := put4o HA7_37.out (.int .i64 S.J) (.int .i64 S.D) (.int .i64 S.Z) (.slice a5 S.np c5)
          rw [hwn]
          have HO2_38 := Lib.hid (HO2_37.out.show_kept (by decide) (by decide) HA7_37.out hon)
          have HO5_38 := Lib.hid (HO5_37.out.show_kept (by decide) (by decide) HA7_37.out hon)
          have HA6_38 := Lib.hid ((hon g6 HNE.out.symm).trans HA6_37.out)
          have HA7_38 := Lib.hid hzn
          have HB_38 := Lib.hid (HB_37.out.trans (hbn.mono HG7.out))
          have S_38 := old_of HB_38.out
          clear hwn hzn hon hbn x0 x1 x2 x3 y0 y1 y2 y3
          refine hK.out _ _ S_38 (fun hHeld => ?_)
          clear hK K
          (try simp only [List.getElem_toArray, List.getElem_cons_zero, List.getElem_cons_succ, Act.put, List.setIfInBounds_toArray, List.set_cons_zero, List.set_cons_succ])
          refine wpAnyH_done (by kernel_rfl) ?_ _; clear hHeld
          go_wp2_with fail
          go_meet
          exact ⟨_, _, _, _, _, _, _, _, rfl, rfl, HA6_38.out, HA7_38.out, HO2_38.out, HO5_38.out, HG6.out, HG7.out, HB_38.out⟩
      ·
        go_simp
        obtain ⟨w_39, hwn, hbn, hszn, hblkn⟩ := box1 w_29 (.cells #[.int .i64 0, .int .i64 0, .int .i64 0, .slice none 0 0] 24)
        rw [hwn]
        replace hbn := hbn.out
        have HA6_39 := Lib.hid ((hbn.block _ (heap_lt HA6_29.out)).trans HA6_29.out)
        have HB_39 := Lib.hid (bel HB_29.out hbn)
        have S_39 := old_of HB_39.out
        obtain ⟨g7, hg⟩ : ∃ g, w_29.heap.size = g := ⟨_, rfl⟩
        have HG7 : Hid (ws.heap.size ≤ g7) := by rw [← hg]; exact HB_29.out.size
        have HN39 : Hid (g7 = w_29.heap.size) := hg.symm
        rw [hg] at hblkn ⊢
        have HA7_39 := Lib.hid hblkn
        have x7_0 := cell_blk hblkn 0 rfl
        have x7_1 := cell_blk hblkn 1 rfl
        have x7_2 := cell_blk hblkn 2 rfl
        have x7_3 := cell_blk hblkn 3 rfl
        clear hblkn hbn hwn hg hszn
        clear x7_0
        clear x7_1
        clear x7_2
        clear x7_3
        refine hK.out _ _ S_39 (fun hHeld => ?_)
        clear hK K
        (try simp only [List.getElem_toArray, List.getElem_cons_zero, List.getElem_cons_succ, Act.put, List.setIfInBounds_toArray, List.set_cons_zero, List.set_cons_succ])
        have HNE : Hid (g7 ≠ g6) := by
          have h1 := heap_lt HA6_29.out
          have h2 := HN39.out
          unfold Hid; omega
        refine wpAnyH_ready (rs := [2]) (by kernel_rfl) (by simp) ?_
        refine AllReadyH.cons rfl (fun K hK => ?_) AllReadyH.nil
        go_simp
        go_at_call 75
        refine (filled_ag N _ S p 0 0 _ (HBK.out.go HB_39.out) HNP.out HL.out).mono ?_
        rintro e w_40 ⟨a2, c2, rv2, rfl, hop, hbn⟩
        have HO2_40 : Hid (OwnP ws.heap.size w_40 40 (.slice a2 S.np c2) S.np S.sz rv2 (filS S p 0 0).pts) := hop.lower HB_39.out.size
        have HA6_40 := Lib.hid ((hbn.block _ (heap_lt HA6_39.out)).trans HA6_39.out)
        have HA7_40 := Lib.hid ((hbn.block _ (heap_lt HA7_39.out)).trans HA7_39.out)
        have HB_40 := Lib.hid (bel HB_39.out hbn)
        have S_40 := old_of HB_40.out
        clear hop hbn
        refine hK.out _ _ S_40 (fun hHeld => ?_)
        clear hK K
        (try simp only [List.getElem_toArray, List.getElem_cons_zero, List.getElem_cons_succ, Act.put, List.setIfInBounds_toArray, List.set_cons_zero, List.set_cons_succ])
        refine wpAnyH_ready (rs := [5]) (by kernel_rfl) (by simp) ?_
        refine AllReadyH.cons rfl (fun K hK => ?_) AllReadyH.nil
        go_simp
        go_at_call 75
        refine (filled_ag N _ S p 20 0 _ (HBK.out.go HB_40.out) HNP.out HL.out).mono ?_
        rintro e w_41 ⟨a5, c5, rv5, rfl, hop, hbn⟩
        have HO5_41 : Hid (OwnP ws.heap.size w_41 40 (.slice a5 S.np c5) S.np S.sz rv5 (filS S p 20 0).pts) := hop.lower HB_40.out.size
        have HO2_41 := Lib.hid (HO2_40.out.keep fun g _ h => hbn.block g h)
        have HA6_41 := Lib.hid ((hbn.block _ (heap_lt HA6_40.out)).trans HA6_40.out)
        have HA7_41 := Lib.hid ((hbn.block _ (heap_lt HA7_40.out)).trans HA7_40.out)
        have HB_41 := Lib.hid (bel HB_40.out hbn)
        have S_41 := old_of HB_41.out
        clear hop hbn
        refine hK.out _ _ S_41 (fun hHeld => ?_)
        clear hK K
        (try simp only [List.getElem_toArray, List.getElem_cons_zero, List.getElem_cons_succ, Act.put, List.setIfInBounds_toArray, List.set_cons_zero, List.set_cons_succ])
        refine wpAnyH_ready (rs := [8]) (by kernel_rfl) (by simp) ?_
        refine AllReadyH.cons rfl (fun K hK => ?_) AllReadyH.nil
        have x0 := cell_blk HA6_41.out 0 rfl
        have y0 := free_blk HA6_41.out 0
        have x1 := cell_blk HA6_41.out 1 rfl
        have y1 := free_blk HA6_41.out 1
        have x2 := cell_blk HA6_41.out 2 rfl
        have y2 := free_blk HA6_41.out 2
        have x3 := cell_blk HA6_41.out 3 rfl
        have y3 := free_blk HA6_41.out 3
        go_simp
        obtain ⟨w_42, hwn, hzn, hon, hbn⟩ := put4o HA6_41.out (.int .i64 S.J) (.int .i64 S.D) (.int .i64 S.Z) (.slice a2 S.np c2)
        rw [hwn]
        have HO2_42 := Lib.hid (HO2_41.out.show_kept (by decide) (by decide) HA6_41.out hon)
        have HO5_42 := Lib.hid (HO5_41.out.show_kept (by decide) (by decide) HA6_41.out hon)
        have HA7_42 := Lib.hid ((hon g7 HNE.out).trans HA7_41.out)
        have HA6_42 := Lib.hid hzn
        have HB_42 := Lib.hid (HB_41.out.trans (hbn.mono HG6.out))
        have S_42 := old_of HB_42.out
        clear hwn hzn hon hbn x0 x1 x2 x3 y0 y1 y2 y3
        refine hK.out _ _ S_42 (fun hHeld => ?_)
        clear hK K
        (try simp only [List.getElem_toArray, List.getElem_cons_zero, List.getElem_cons_succ, Act.put, List.setIfInBounds_toArray, List.set_cons_zero, List.set_cons_succ])
        refine wpAnyH_ready (rs := [9]) (by kernel_rfl) (by simp) ?_
        refine AllReadyH.cons rfl (fun K hK => ?_) AllReadyH.nil
        have x0 := cell_blk HA7_42.out 0 rfl
        have y0 := free_blk HA7_42.out 0
        have x1 := cell_blk HA7_42.out 1 rfl
        have y1 := free_blk HA7_42.out 1
        have x2 := cell_blk HA7_42.out 2 rfl
        have y2 := free_blk HA7_42.out 2
        have x3 := cell_blk HA7_42.out 3 rfl
        have y3 := free_blk HA7_42.out 3
        go_simp
        obtain ⟨w_43, hwn, hzn, hon, hbn⟩ := put4o HA7_42.out (.int .i64 S.J) (.int .i64 S.D) (.int .i64 S.Z) (.slice a5 S.np c5)
        rw [hwn]
        have HO2_43 := Lib.hid (HO2_42.out.show_kept (by decide) (by decide) HA7_42.out hon)
        have HO5_43 := Lib.hid (HO5_42.out.show_kept (by decide) (by decide) HA7_42.out hon)
        have HA6_43 := Lib.hid ((hon g6 HNE.out.symm).trans HA6_42.out)
        have HA7_43 := Lib.hid hzn
        have HB_43 := Lib.hid (HB_42.out.trans (hbn.mono HG7.out))
        have S_43 := old_of HB_43.out
        clear hwn hzn hon hbn x0 x1 x2 x3 y0 y1 y2 y3
        refine hK.out _ _ S_43 (fun hHeld => ?_)
        clear hK K
        (try simp only [List.getElem_toArray, List.getElem_cons_zero, List.getElem_cons_succ, Act.put, List.setIfInBounds_toArray, List.set_cons_zero, List.set_cons_succ])
        refine wpAnyH_done (by kernel_rfl) ?_ _; clear hHeld
        go_wp2_with fail
        go_meet
        exact ⟨_, _, _, _, _, _, _, _, rfl, rfl, HA6_43.out, HA7_43.out, HO2_43.out, HO5_43.out, HG6.out, HG7.out, HB_43.out⟩
    ·
      go_simp
      obtain ⟨w_44, hwn, hbn, hszn, hblkn⟩ := box1 wd (.cells #[.int .i64 0, .int .i64 0, .int .i64 0, .slice none 0 0] 24)
      rw [hwn]
      replace hbn := hbn.out
      have HB_44 := Lib.hid (bel HB_0.out hbn)
      have S_44 := old_of HB_44.out
      obtain ⟨g7, hg⟩ : ∃ g, wd.heap.size = g := ⟨_, rfl⟩
      have HG7 : Hid (ws.heap.size ≤ g7) := by rw [← hg]; exact HB_0.out.size
      have HN44 : Hid (g7 = wd.heap.size) := hg.symm
      rw [hg] at hblkn ⊢
      have HA7_44 := Lib.hid hblkn
      have x7_0 := cell_blk hblkn 0 rfl
      have x7_1 := cell_blk hblkn 1 rfl
      have x7_2 := cell_blk hblkn 2 rfl
      have x7_3 := cell_blk hblkn 3 rfl
      clear hblkn hbn hwn hg hszn
      clear x7_0
      clear x7_1
      clear x7_2
      clear x7_3
      refine hK.out _ _ S_44 (fun hHeld => ?_)
      clear hK K
      (try simp only [List.getElem_toArray, List.getElem_cons_zero, List.getElem_cons_succ, Act.put, List.setIfInBounds_toArray, List.set_cons_zero, List.set_cons_succ])
      refine wpAnyH_ready (rs := [2, 6]) (by kernel_rfl) (by simp) ?_
      refine (AllReadyH.cons rfl (fun K hK => ?_) (AllReadyH.cons rfl (fun K hK => ?_) AllReadyH.nil))
      ·
        go_simp
        go_at_call 75
        refine (filled_ag N _ S p 0 0 _ (HBK.out.go HB_44.out) HNP.out HL.out).mono ?_
        rintro e w_45 ⟨a2, c2, rv2, rfl, hop, hbn⟩
        have HO2_45 : Hid (OwnP ws.heap.size w_45 40 (.slice a2 S.np c2) S.np S.sz rv2 (filS S p 0 0).pts) := hop.lower HB_44.out.size
        have HA7_45 := Lib.hid ((hbn.block _ (heap_lt HA7_44.out)).trans HA7_44.out)
        have HB_45 := Lib.hid (bel HB_44.out hbn)
        have S_45 := old_of HB_45.out
        clear hop hbn
        refine hK.out _ _ S_45 (fun hHeld => ?_)
        clear hK K
        (try simp only [List.getElem_toArray, List.getElem_cons_zero, List.getElem_cons_succ, Act.put, List.setIfInBounds_toArray, List.set_cons_zero, List.set_cons_succ])
        refine wpAnyH_ready (rs := [5, 6]) (by kernel_rfl) (by simp) ?_
        refine (AllReadyH.cons rfl (fun K hK => ?_) (AllReadyH.cons rfl (fun K hK => ?_) AllReadyH.nil))
        ·
          go_simp
          go_at_call 75
          refine (filled_ag N _ S p 20 0 _ (HBK.out.go HB_45.out) HNP.out HL.out).mono ?_
          rintro e w_46 ⟨a5, c5, rv5, rfl, hop, hbn⟩
          have HO5_46 : Hid (OwnP ws.heap.size w_46 40 (.slice a5 S.np c5) S.np S.sz rv5 (filS S p 20 0).pts) := hop.lower HB_45.out.size
          have HO2_46 := Lib.hid (HO2_45.out.keep fun g _ h => hbn.block g h)
          have HA7_46 := Lib.hid ((hbn.block _ (heap_lt HA7_45.out)).trans HA7_45.out)
          have HB_46 := Lib.hid (bel HB_45.out hbn)
          have S_46 := old_of HB_46.out
          clear hop hbn
          refine hK.out _ _ S_46 (fun hHeld => ?_)
          clear hK K
          (try simp only [List.getElem_toArray, List.getElem_cons_zero, List.getElem_cons_succ, Act.put, List.setIfInBounds_toArray, List.set_cons_zero, List.set_cons_succ])
          refine wpAnyH_ready (rs := [6]) (by kernel_rfl) (by simp) ?_
          refine AllReadyH.cons rfl (fun K hK => ?_) AllReadyH.nil
          go_simp
          obtain ⟨w_47, hwn, hbn, hszn, hblkn⟩ := box1 w_46 (.cells #[.int .i64 0, .int .i64 0, .int .i64 0, .slice none 0 0] 24)
          rw [hwn]
          replace hbn := hbn.out
          have HO2_47 := Lib.hid (HO2_46.out.keep fun g _ h => hbn.block g h)
          have HO5_47 := Lib.hid (HO5_46.out.keep fun g _ h => hbn.block g h)
          have HA7_47 := Lib.hid ((hbn.block _ (heap_lt HA7_46.out)).trans HA7_46.out)
          have HB_47 := Lib.hid (bel HB_46.out hbn)
          have S_47 := old_of HB_47.out
          obtain ⟨g6, hg⟩ : ∃ g, w_46.heap.size = g := ⟨_, rfl⟩
          have HG6 : Hid (ws.heap.size ≤ g6) := by rw [← hg]; exact HB_46.out.size
          have HN47 : Hid (g6 = w_46.heap.size) := hg.symm
          rw [hg] at hblkn ⊢
          have HA6_47 := Lib.hid hblkn
          have x6_0 := cell_blk hblkn 0 rfl
          have x6_1 := cell_blk hblkn 1 rfl
          have x6_2 := cell_blk hblkn 2 rfl
          have x6_3 := cell_blk hblkn 3 rfl
          clear hblkn hbn hwn hg hszn
          clear x6_0
          clear x6_1
          clear x6_2
          clear x6_3
          refine hK.out _ _ S_47 (fun hHeld => ?_)
          clear hK K
          (try simp only [List.getElem_toArray, List.getElem_cons_zero, List.getElem_cons_succ, Act.put, List.setIfInBounds_toArray, List.set_cons_zero, List.set_cons_succ])
          have HNE : Hid (g7 ≠ g6) := by
            have h1 := heap_lt HA7_46.out
            have h2 := HN47.out
            unfold Hid; omega
          refine wpAnyH_ready (rs := [8]) (by kernel_rfl) (by simp) ?_
          refine AllReadyH.cons rfl (fun K hK => ?_) AllReadyH.nil
          have x0 := cell_blk HA6_47.out 0 rfl
          have y0 := free_blk HA6_47.out 0
          have x1 := cell_blk HA6_47.out 1 rfl
          have y1 := free_blk HA6_47.out 1
          have x2 := cell_blk HA6_47.out 2 rfl
          have y2 := free_blk HA6_47.out 2
          have x3 := cell_blk HA6_47.out 3 rfl
          have y3 := free_blk HA6_47.out 3
          go_simp
          obtain ⟨w_48, hwn, hzn, hon, hbn⟩ := put4o HA6_47.out (.int .i64 S.J) (.int .i64 S.D) (.int .i64 S.Z) (.slice a2 S.np c2)
          rw [hwn]
          have HO2_48 := Lib.hid (HO2_47.out.show_kept (by decide) (by decide) HA6_47.out hon)
          have HO5_48 := Lib.hid (HO5_47.out.show_kept (by decide) (by decide) HA6_47.out hon)
          have HA7_48 := Lib.hid ((hon g7 HNE.out).trans HA7_47.out)
          have HA6_48 := Lib.hid hzn
          have HB_48 := Lib.hid (HB_47.out.trans (hbn.mono HG6.out))
          have S_48 := old_of HB_48.out
          clear hwn hzn hon hbn x0 x1 x2 x3 y0 y1 y2 y3
          refine hK.out _ _ S_48 (fun hHeld => ?_)
          clear hK K
          (try simp only [List.getElem_toArray, List.getElem_cons_zero, List.getElem_cons_succ, Act.put, List.setIfInBounds_toArray, List.set_cons_zero, List.set_cons_succ])
          refine wpAnyH_ready (rs := [9]) (by kernel_rfl) (by simp) ?_
          refine AllReadyH.cons rfl (fun K hK => ?_) AllReadyH.nil
          have x0 := cell_blk HA7_48.out 0 rfl
          have y0 := free_blk HA7_48.out 0
          have x1 := cell_blk HA7_48.out 1 rfl
          have y1 := free_blk HA7_48.out 1
          have x2 := cell_blk HA7_48.out 2 rfl
          have y2 := free_blk HA7_48.out 2
          have x3 := cell_blk HA7_48.out 3 rfl
          have y3 := free_blk HA7_48.out 3
          go_simp
          obtain ⟨w_49, hwn, hzn, hon, hbn⟩ := put4o HA7_48.out (.int .i64 S.J) (.int .i64 S.D) (.int .i64 S.Z) (.slice a5 S.np c5)
          rw [hwn]
          have HO2_49 := Lib.hid (HO2_48.out.show_kept (by decide) (by decide) HA7_48.out hon)
          have HO5_49 := Lib.hid (HO5_48.out.show_kept (by decide) (by decide) HA7_48.out hon)
          have HA6_49 := Lib.hid ((hon g6 HNE.out.symm).trans HA6_48.out)
          have HA7_49 := Lib.hid hzn
          have HB_49 := Lib.hid (HB_48.out.trans (hbn.mono HG7.out))
          have S_49 := old_of HB_49.out
          clear hwn hzn hon hbn x0 x1 x2 x3 y0 y1 y2 y3
          refine hK.out _ _ S_49 (fun hHeld => ?_)
          clear hK K
          (try simp only [List.getElem_toArray, List.getElem_cons_zero, List.getElem_cons_succ, Act.put, List.setIfInBounds_toArray, List.set_cons_zero, List.set_cons_succ])
          refine wpAnyH_done (by kernel_rfl) ?_ _; clear hHeld
          go_wp2_with fail
          go_meet
          exact ⟨_, _, _, _, _, _, _, _, rfl, rfl, HA6_49.out, HA7_49.out, HO2_49.out, HO5_49.out, HG6.out, HG7.out, HB_49.out⟩
        ·
          go_simp
          obtain ⟨w_50, hwn, hbn, hszn, hblkn⟩ := box1 w_45 (.cells #[.int .i64 0, .int .i64 0, .int .i64 0, .slice none 0 0] 24)
          rw [hwn]
          replace hbn := hbn.out
          have HO2_50 := Lib.hid (HO2_45.out.keep fun g _ h => hbn.block g h)
          have HA7_50 := Lib.hid ((hbn.block _ (heap_lt HA7_45.out)).trans HA7_45.out)
          have HB_50 := Lib.hid (bel HB_45.out hbn)
          have S_50 := old_of HB_50.out
          obtain ⟨g6, hg⟩ : ∃ g, w_45.heap.size = g := ⟨_, rfl⟩
          have HG6 : Hid (ws.heap.size ≤ g6) := by rw [← hg]; exact HB_45.out.size
          have HN50 : Hid (g6 = w_45.heap.size) := hg.symm
          rw [hg] at hblkn ⊢
          have HA6_50 := Lib.hid hblkn
          have x6_0 := cell_blk hblkn 0 rfl
          have x6_1 := cell_blk hblkn 1 rfl
          have x6_2 := cell_blk hblkn 2 rfl
          have x6_3 := cell_blk hblkn 3 rfl
          clear hblkn hbn hwn hg hszn
          clear x6_0
          clear x6_1
          clear x6_2
          clear x6_3
          refine hK.out _ _ S_50 (fun hHeld => ?_)
          clear hK K
          (try simp only [List.getElem_toArray, List.getElem_cons_zero, List.getElem_cons_succ, Act.put, List.setIfInBounds_toArray, List.set_cons_zero, List.set_cons_succ])
          have HNE : Hid (g7 ≠ g6) := by
            have h1 := heap_lt HA7_45.out
            have h2 := HN50.out
            unfold Hid; omega
          refine wpAnyH_ready (rs := [5]) (by kernel_rfl) (by simp) ?_
          refine AllReadyH.cons rfl (fun K hK => ?_) AllReadyH.nil
          go_simp
          go_at_call 75
          refine (filled_ag N _ S p 20 0 _ (HBK.out.go HB_50.out) HNP.out HL.out).mono ?_
          rintro e w_51 ⟨a5, c5, rv5, rfl, hop, hbn⟩
          have HO5_51 : Hid (OwnP ws.heap.size w_51 40 (.slice a5 S.np c5) S.np S.sz rv5 (filS S p 20 0).pts) := hop.lower HB_50.out.size
          have HO2_51 := Lib.hid (HO2_50.out.keep fun g _ h => hbn.block g h)
          have HA6_51 := Lib.hid ((hbn.block _ (heap_lt HA6_50.out)).trans HA6_50.out)
          have HA7_51 := Lib.hid ((hbn.block _ (heap_lt HA7_50.out)).trans HA7_50.out)
          have HB_51 := Lib.hid (bel HB_50.out hbn)
          have S_51 := old_of HB_51.out
          clear hop hbn
          refine hK.out _ _ S_51 (fun hHeld => ?_)
          clear hK K
          (try simp only [List.getElem_toArray, List.getElem_cons_zero, List.getElem_cons_succ, Act.put, List.setIfInBounds_toArray, List.set_cons_zero, List.set_cons_succ])
          refine wpAnyH_ready (rs := [8]) (by kernel_rfl) (by simp) ?_
          refine AllReadyH.cons rfl (fun K hK => ?_) AllReadyH.nil
          have x0 := cell_blk HA6_51.out 0 rfl
          have y0 := free_blk HA6_51.out 0
          have x1 := cell_blk HA6_51.out 1 rfl
          have y1 := free_blk HA6_51.out 1
          have x2 := cell_blk HA6_51.out 2 rfl
          have y2 := free_blk HA6_51.out 2
          have x3 := cell_blk HA6_51.out 3 rfl
          have y3 := free_blk HA6_51.out 3
          go_simp
          obtain ⟨w_52, hwn, hzn, hon, hbn⟩ := put4o HA6_51.out (.int .i64 S.J) (.int .i64 S.D) (.int .i64 S.Z) (.slice a2 S.np c2)
          rw [hwn]
          have HO2_52 := Lib.hid (HO2_51.out.show_kept (by decide) (by decide) HA6_51.out hon)
          have HO5_52 := Lib.hid (HO5_51.out.show_kept (by decide) (by decide) HA6_51.out hon)
          have HA7_52 := Lib.hid ((hon g7 HNE.out).trans HA7_51.out)
          have HA6_52 := Lib.hid hzn
          have HB_52 := Lib.hid (HB_51.out.trans (hbn.mono HG6.out))
          have S_52 := old_of HB_52.out
          clear hwn hzn hon hbn x0 x1 x2 x3 y0 y1 y2 y3
          refine hK.out _ _ S_52 (fun hHeld => ?_)
          clear hK K
          (try simp only [List.getElem_toArray, List.getElem_cons_zero, List.getElem_cons_succ, Act.put, List.setIfInBounds_toArray, List.set_cons_zero, List.set_cons_succ])
          refine wpAnyH_ready (rs := [9]) (by kernel_rfl) (by simp) ?_
          refine AllReadyH.cons rfl (fun K hK => ?_) AllReadyH.nil
          have x0 := cell_blk HA7_52.out 0 rfl
          have y0 := free_blk HA7_52.out 0
          have x1 := cell_blk HA7_52.out 1 rfl
          have y1 := free_blk HA7_52.out 1
          have x2 := cell_blk HA7_52.out 2 rfl
          have y2 := free_blk HA7_52.out 2
          have x3 := cell_blk HA7_52.out 3 rfl
          have y3 := free_blk HA7_52.out 3
          go_simp
          obtain ⟨w_53, hwn, hzn, hon, hbn⟩ := put4o HA7_52.out (.int .i64 S.J) (.int .i64 S.D) (.int .i64 S.Z) (.slice a5 S.np c5)
          rw [hwn]
          have HO2_53 := Lib.hid (HO2_52.out.show_kept (by decide) (by decide) HA7_52.out hon)
          have HO5_53 := Lib.hid (HO5_52.out.show_kept (by decide) (by decide) HA7_52.out hon)
          have HA6_53 := Lib.hid ((hon g6 HNE.out.symm).trans HA6_52.out)
          have HA7_53 := Lib.hid hzn
          have HB_53 := Lib.hid (HB_52.out.trans (hbn.mono HG7.out))
          have S_53 := old_of HB_53.out
          clear hwn hzn hon hbn x0 x1 x2 x3 y0 y1 y2 y3
          refine hK.out _ _ S_53 (fun hHeld => ?_)
          clear hK K
          (try simp only [List.getElem_toArray, List.getElem_cons_zero, List.getElem_cons_succ, Act.put, List.setIfInBounds_toArray, List.set_cons_zero, List.set_cons_succ])
          refine wpAnyH_done (by kernel_rfl) ?_ _; clear hHeld
          go_wp2_with fail
          go_meet
          exact ⟨_, _, _, _, _, _, _, _, rfl, rfl, HA6_53.out, HA7_53.out, HO2_53.out, HO5_53.out, HG6.out, HG7.out, HB_53.out⟩
      ·
        go_simp
        obtain ⟨w_54, hwn, hbn, hszn, hblkn⟩ := box1 w_44 (.cells #[.int .i64 0, .int .i64 0, .int .i64 0, .slice none 0 0] 24)
        rw [hwn]
        replace hbn := hbn.out
        have HA7_54 := Lib.hid ((hbn.block _ (heap_lt HA7_44.out)).trans HA7_44.out)
        have HB_54 := Lib.hid (bel HB_44.out hbn)
        have S_54 := old_of HB_54.out
        obtain ⟨g6, hg⟩ : ∃ g, w_44.heap.size = g := ⟨_, rfl⟩
        have HG6 : Hid (ws.heap.size ≤ g6) := by rw [← hg]; exact HB_44.out.size
        have HN54 : Hid (g6 = w_44.heap.size) := hg.symm
        rw [hg] at hblkn ⊢
        have HA6_54 := Lib.hid hblkn
        have x6_0 := cell_blk hblkn 0 rfl
        have x6_1 := cell_blk hblkn 1 rfl
        have x6_2 := cell_blk hblkn 2 rfl
        have x6_3 := cell_blk hblkn 3 rfl
        clear hblkn hbn hwn hg hszn
        clear x6_0
        clear x6_1
        clear x6_2
        clear x6_3
        refine hK.out _ _ S_54 (fun hHeld => ?_)
        clear hK K
        (try simp only [List.getElem_toArray, List.getElem_cons_zero, List.getElem_cons_succ, Act.put, List.setIfInBounds_toArray, List.set_cons_zero, List.set_cons_succ])
        have HNE : Hid (g7 ≠ g6) := by
          have h1 := heap_lt HA7_44.out
          have h2 := HN54.out
          unfold Hid; omega
        refine wpAnyH_ready (rs := [2]) (by kernel_rfl) (by simp) ?_
        refine AllReadyH.cons rfl (fun K hK => ?_) AllReadyH.nil
        go_simp
        go_at_call 75
        refine (filled_ag N _ S p 0 0 _ (HBK.out.go HB_54.out) HNP.out HL.out).mono ?_
        rintro e w_55 ⟨a2, c2, rv2, rfl, hop, hbn⟩
        have HO2_55 : Hid (OwnP ws.heap.size w_55 40 (.slice a2 S.np c2) S.np S.sz rv2 (filS S p 0 0).pts) := hop.lower HB_54.out.size
        have HA6_55 := Lib.hid ((hbn.block _ (heap_lt HA6_54.out)).trans HA6_54.out)
        have HA7_55 := Lib.hid ((hbn.block _ (heap_lt HA7_54.out)).trans HA7_54.out)
        have HB_55 := Lib.hid (bel HB_54.out hbn)
        have S_55 := old_of HB_55.out
        clear hop hbn
        refine hK.out _ _ S_55 (fun hHeld => ?_)
        clear hK K
        (try simp only [List.getElem_toArray, List.getElem_cons_zero, List.getElem_cons_succ, Act.put, List.setIfInBounds_toArray, List.set_cons_zero, List.set_cons_succ])
        refine wpAnyH_ready (rs := [5]) (by kernel_rfl) (by simp) ?_
        refine AllReadyH.cons rfl (fun K hK => ?_) AllReadyH.nil
        go_simp
        go_at_call 75
        refine (filled_ag N _ S p 20 0 _ (HBK.out.go HB_55.out) HNP.out HL.out).mono ?_
        rintro e w_56 ⟨a5, c5, rv5, rfl, hop, hbn⟩
        have HO5_56 : Hid (OwnP ws.heap.size w_56 40 (.slice a5 S.np c5) S.np S.sz rv5 (filS S p 20 0).pts) := hop.lower HB_55.out.size
        have HO2_56 := Lib.hid (HO2_55.out.keep fun g _ h => hbn.block g h)
        have HA6_56 := Lib.hid ((hbn.block _ (heap_lt HA6_55.out)).trans HA6_55.out)
        have HA7_56 := Lib.hid ((hbn.block _ (heap_lt HA7_55.out)).trans HA7_55.out)
        have HB_56 := Lib.hid (bel HB_55.out hbn)
        have S_56 := old_of HB_56.out
        clear hop hbn
        refine hK.out _ _ S_56 (fun hHeld => ?_)
        clear hK K
        (try simp only [List.getElem_toArray, List.getElem_cons_zero, List.getElem_cons_succ, Act.put, List.setIfInBounds_toArray, List.set_cons_zero, List.set_cons_succ])
        refine wpAnyH_ready (rs := [8]) (by kernel_rfl) (by simp) ?_
        refine AllReadyH.cons rfl (fun K hK => ?_) AllReadyH.nil
        have x0 := cell_blk HA6_56.out 0 rfl
        have y0 := free_blk HA6_56.out 0
        have x1 := cell_blk HA6_56.out 1 rfl
        have y1 := free_blk HA6_56.out 1
        have x2 := cell_blk HA6_56.out 2 rfl
        have y2 := free_blk HA6_56.out 2
        have x3 := cell_blk HA6_56.out 3 rfl
        have y3 := free_blk HA6_56.out 3
        go_simp
        obtain ⟨w_57, hwn, hzn, hon, hbn⟩ := put4o HA6_56.out (.int .i64 S.J) (.int .i64 S.D) (.int .i64 S.Z) (.slice a2 S.np c2)
        rw [hwn]
        have HO2_57 := Lib.hid (HO2_56.out.show_kept (by decide) (by decide) HA6_56.out hon)
        have HO5_57 := Lib.hid (HO5_56.out.show_kept (by decide) (by decide) HA6_56.out hon)
        have HA7_57 := Lib.hid ((hon g7 HNE.out).trans HA7_56.out)
        have HA6_57 := Lib.hid hzn
        have HB_57 := Lib.hid (HB_56.out.trans (hbn.mono HG6.out))
        have S_57 := old_of HB_57.out
        clear hwn hzn hon hbn x0 x1 x2 x3 y0 y1 y2 y3
        refine hK.out _ _ S_57 (fun hHeld => ?_)
        clear hK K
        (try simp only [List.getElem_toArray, List.getElem_cons_zero, List.getElem_cons_succ, Act.put, List.setIfInBounds_toArray, List.set_cons_zero, List.set_cons_succ])
        refine wpAnyH_ready (rs := [9]) (by kernel_rfl) (by simp) ?_
        refine AllReadyH.cons rfl (fun K hK => ?_) AllReadyH.nil
        have x0 := cell_blk HA7_57.out 0 rfl
        have y0 := free_blk HA7_57.out 0
        have x1 := cell_blk HA7_57.out 1 rfl
        have y1 := free_blk HA7_57.out 1
        have x2 := cell_blk HA7_57.out 2 rfl
        have y2 := free_blk HA7_57.out 2
        have x3 := cell_blk HA7_57.out 3 rfl
        have y3 := free_blk HA7_57.out 3
        go_simp
        obtain ⟨w_58, hwn, hzn, hon, hbn⟩ := put4o HA7_57.out (.int .i64 S.J) (.int .i64 S.D) (.int .i64 S.Z) (.slice a5 S.np c5)
        rw [hwn]
        have HO2_58 := Lib.hid (HO2_57.out.show_kept (by decide) (by decide) HA7_57.out hon)
        have HO5_58 := Lib.hid (HO5_57.out.show_kept (by decide) (by decide) HA7_57.out hon)
        have HA6_58 := Lib.hid ((hon g6 HNE.out.symm).trans HA6_57.out)
        have HA7_58 := Lib.hid hzn
        have HB_58 := Lib.hid (HB_57.out.trans (hbn.mono HG7.out))
        have S_58 := old_of HB_58.out
        clear hwn hzn hon hbn x0 x1 x2 x3 y0 y1 y2 y3
        refine hK.out _ _ S_58 (fun hHeld => ?_)
        clear hK K
        (try simp only [List.getElem_toArray, List.getElem_cons_zero, List.getElem_cons_succ, Act.put, List.setIfInBounds_toArray, List.set_cons_zero, List.set_cons_succ])
        refine wpAnyH_done (by kernel_rfl) ?_ _; clear hHeld
        go_wp2_with fail
        go_meet
        exact ⟨_, _, _, _, _, _, _, _, rfl, rfl, HA6_58.out, HA7_58.out, HO2_58.out, HO5_58.out, HG6.out, HG7.out, HB_58.out⟩
  case rest =>
    obtain ⟨g6, g7, a2, c2, rv2, a5, c5, rv5, rfl, rfl, hz6, hz7, ho2, ho5, hg6, hg7, hb⟩ := hcut
    have HBc := Lib.hid hb
    have HO2 := Lib.hid ho2
    have HO5 := Lib.hid ho5
    have hkn := hk
    have hpi : p < (S.np : Int) := by have := HP.out; omega
    have hp0 : 0 ≤ p := by have := HP.out; omega
    have hpt : p.toNat = k := by have := HP.out; omega
    obtain ⟨g2, rfl, _, _, hl2, hs2, hc2, _⟩ := ho2.pk.at (by omega)
    obtain ⟨g5, rfl, _, _, hl5, hs5, hc5, _⟩ := ho5.pk.at (by omega)
    have e2 := (hc2 k hk).2
    have e5 := (hc5 k hk).2
    have hr2 := ho2.row k hk
    have hr5 := ho5.row k hk
    obtain ⟨ra2, rc2, f2⟩ := hr2.form
    obtain ⟨ra5, rc5, f5⟩ := hr5.form
    rw [f2] at e2 hr2
    rw [f5] at e5 hr5
    obtain ⟨l2, hl2'⟩ : ∃ l, (filS S p 0 0).pts k = l := ⟨_, rfl⟩
    obtain ⟨l5, hl5'⟩ : ∃ l, (filS S p 20 0).pts k = l := ⟨_, rfl⟩
    have HF2 : Hid (l2 = fil 0 (S.pts k)) := by rw [← hl2', ← HP.out]; exact fil_own S k 0 0
    have HF5 : Hid (l5 = fil 20 (S.pts k)) := by rw [← hl5', ← HP.out]; exact fil_own S k 20 0
    rw [hl2'] at e2 hr2
    rw [hl5'] at e5 hr5
    obtain ⟨d, hd⟩ : ∃ d : Nat, S.D = d := ⟨S.D.toNat, by have := HR.out.D0; omega⟩
    have HD := Lib.hid hd
    have hlen := HR.out.len k hk
    have hpts := HR.out.pt k hk
    have HLE2 : Hid (2 * d ≤ l2.length ∧ l2.length ≤ 40) := by have := HF2.out; unfold Hid; rw [this, fil_len]; omega
    have HLE5 : Hid (2 * d ≤ l5.length ∧ l5.length ≤ 40) := by have := HF5.out; unfold Hid; rw [this, fil_len]; omega
    have HPT2 : Hid (∀ x, x ∈ l2 → -1 ≤ x ∧ x ≤ 1000) := fun x hx => by rw [HF2.out] at hx; have := fil_pt hpts (n := 0) (by omega) x hx; omega
    have HPT5 : Hid (∀ x, x ∈ l5 → -1 ≤ x ∧ x ≤ 1000) := fun x hx => by rw [HF5.out] at hx; have := fil_pt hpts (n := 20) (by omega) x hx; omega
    have HLI2 := Lib.hid (hr2.li (by have := HLE2.out; omega))
    have HLI5 := Lib.hid (hr5.li (by have := HLE5.out; omega))
    have HT2 : Hid (tot d l2 = loT S k) := by unfold Hid loT; rw [HF2.out, hd]; rfl
    have HT5 : Hid (tot d l5 = hiT S k) := by unfold Hid hiT; rw [HF5.out, hd]; rfl
    obtain ⟨n2, hn2⟩ : ∃ n, l2.length = n := ⟨_, rfl⟩
    obtain ⟨n5, hn5⟩ : ∃ n, l5.length = n := ⟨_, rfl⟩
    rw [hn2] at e2 HLI2
    rw [hn5] at e5 HLI5
    have t6 := cell_blk hz6 3 rfl
    have t7 := cell_blk hz7 3 rfl
    have td := (hb.cell (p := ⟨w.heap.size, 1, none⟩) hsz).trans q1
    rw [hd] at td
    have hzr := (hb.block _ hsz1).trans HZ1.out
    have HZR := Lib.hid hzr
    have hw6 := heap_lt hz6
    have hw7 := heap_lt hz7
    have hwD : w.heap.size < wc.heap.size := Nat.lt_of_lt_of_le hsz hb.size
    have hwR : w.heap.size + 1 < wc.heap.size := Nat.lt_of_lt_of_le hsz1 hb.size
    have hd2 := HBc.out.size
    clear hz6 hz7 ho2 ho5 hb hc2 hc5 hr2 hr5 f2 f5 hl2' hl5' hd hlen hpts hn2 hn5 hzr q0 q1 q2 q3 hws
    go_upto_region 2 with fail
    have hSc : ∀ W, Below wc.heap.size wc W → (W.cell? ⟨g6, 3, none⟩ = some (.slice (some ⟨g2, 0, none⟩) S.np c2) ∧ W.cell? ⟨g2, k * 2 + 1, none⟩ = some (.slice ra2 n2 rc2) ∧ W.cell? ⟨w.heap.size, 1, none⟩ = some (.int .i64 d) ∧ W.cell? ⟨g7, 3, none⟩ = some (.slice (some ⟨g5, 0, none⟩) S.np c5) ∧ W.cell? ⟨g5, k * 2 + 1, none⟩ = some (.slice ra5 n5 rc5)) := fun W hW =>
      ⟨(hW.cell (p := ⟨g6, 3, none⟩) hw6).trans t6, (hW.cell (p := ⟨g2, k * 2 + 1, none⟩) hs2).trans e2, (hW.cell (p := ⟨w.heap.size, 1, none⟩) hwD).trans td, (hW.cell (p := ⟨g7, 3, none⟩) hw7).trans t7, (hW.cell (p := ⟨g5, k * 2 + 1, none⟩) hs5).trans e5⟩
    have HSC := Lib.hid hSc
    have hS0 := hSc wc.drew (Below.refl _ _).drew
    clear hSc
    refine wp_region_held_drew (S := fun W => W.cell? ⟨g6, 3, none⟩ = some (.slice (some ⟨g2, 0, none⟩) S.np c2) ∧ W.cell? ⟨g2, k * 2 + 1, none⟩ = some (.slice ra2 n2 rc2) ∧ W.cell? ⟨w.heap.size, 1, none⟩ = some (.int .i64 d) ∧ W.cell? ⟨g7, 3, none⟩ = some (.slice (some ⟨g5, 0, none⟩) S.np c5) ∧ W.cell? ⟨g5, k * 2 + 1, none⟩ = some (.slice ra5 n5 rc5)) (by kernel_rfl) hS0 (fun hHeld => ?_)
    (refine wpAnyH_take (i := 0) (v := ?_) rfl (by kernel_rfl) (by kernel_rfl) (by kernel_rfl) (fun _ _ _ h => h) (Or.inl ⟨by rfl, ?_⟩) (by assumption) ?_; rotate_left; (focus (intro w hSw; (try dsimp only at hSw); go_simp; (try with_reducible rfl))); (try simp only [List.getElem_toArray, List.getElem_cons_zero, List.getElem_cons_succ, Act.put, List.setIfInBounds_toArray, List.set_cons_zero, List.set_cons_succ])); (refine wpAnyH_take (i := 1) (v := ?_) rfl (by kernel_rfl) (by kernel_rfl) (by kernel_rfl) (fun _ _ _ h => h) (Or.inl ⟨by rfl, ?_⟩) (by assumption) ?_; rotate_left; (focus (intro w hSw; (try dsimp only at hSw); go_simp; (try with_reducible rfl))); (try simp only [List.getElem_toArray, List.getElem_cons_zero, List.getElem_cons_succ, Act.put, List.setIfInBounds_toArray, List.set_cons_zero, List.set_cons_succ])); (refine wpAnyH_take (i := 2) (v := ?_) rfl (by kernel_rfl) (by kernel_rfl) (by kernel_rfl) (fun _ _ _ h => h) (Or.inl ⟨by rfl, ?_⟩) (by assumption) ?_; rotate_left; (focus (intro w hSw; (try dsimp only at hSw); go_simp; (try with_reducible rfl))); (try simp only [List.getElem_toArray, List.getElem_cons_zero, List.getElem_cons_succ, Act.put, List.setIfInBounds_toArray, List.set_cons_zero, List.set_cons_succ])); (refine wpAnyH_take (i := 3) (v := ?_) rfl (by kernel_rfl) (by kernel_rfl) (by kernel_rfl) (fun _ _ _ h => h) (Or.inl ⟨by rfl, ?_⟩) (by assumption) ?_; rotate_left; (focus (intro w hSw; (try dsimp only at hSw); go_simp; (try with_reducible rfl))); (try simp only [List.getElem_toArray, List.getElem_cons_zero, List.getElem_cons_succ, Act.put, List.setIfInBounds_toArray, List.set_cons_zero, List.set_cons_succ])); (refine wpAnyH_take (i := 4) (v := ?_) rfl (by kernel_rfl) (by kernel_rfl) (by kernel_rfl) (fun _ _ _ h => h) (Or.inl ⟨by rfl, ?_⟩) (by assumption) ?_; rotate_left; (focus (intro w hSw; (try dsimp only at hSw); go_simp; (try with_reducible rfl))); (try simp only [List.getElem_toArray, List.getElem_cons_zero, List.getElem_cons_succ, Act.put, List.setIfInBounds_toArray, List.set_cons_zero, List.set_cons_succ])); (refine wpAnyH_take (i := 5) (v := ?_) rfl (by kernel_rfl) (by kernel_rfl) (by kernel_rfl) (fun _ _ _ h => h) (Or.inl ⟨by rfl, ?_⟩) (by assumption) ?_; rotate_left; (focus (intro w hSw; (try dsimp only at hSw); go_simp; (try with_reducible rfl))); (try simp only [List.getElem_toArray, List.getElem_cons_zero, List.getElem_cons_succ, Act.put, List.setIfInBounds_toArray, List.set_cons_zero, List.set_cons_succ])); (refine wpAnyH_take (i := 6) (v := ?_) rfl (by kernel_rfl) (by kernel_rfl) (by kernel_rfl) (fun _ _ _ h => h) (Or.inl ⟨by rfl, ?_⟩) (by assumption) ?_; rotate_left; (focus (intro w hSw; (try dsimp only at hSw); go_simp; (try with_reducible rfl))); (try simp only [List.getElem_toArray, List.getElem_cons_zero, List.getElem_cons_succ, Act.put, List.setIfInBounds_toArray, List.set_cons_zero, List.set_cons_succ])); (refine wpAnyH_take (i := 7) (v := ?_) rfl (by kernel_rfl) (by kernel_rfl) (by kernel_rfl) (fun _ _ _ h => h) (Or.inl ⟨by rfl, ?_⟩) (by assumption) ?_; rotate_left; (focus (intro w hSw; (try dsimp only at hSw); go_simp; (try with_reducible rfl))); (try simp only [List.getElem_toArray, List.getElem_cons_zero, List.getElem_cons_succ, Act.put, List.setIfInBounds_toArray, List.set_cons_zero, List.set_cons_succ]))
    (refine wpAnyH_take (i := 9) (v := ?_) rfl (by kernel_rfl) (by kernel_rfl) (by kernel_rfl) (fun _ _ _ h => h) (Or.inl ⟨by rfl, ?_⟩) (by assumption) ?_; rotate_left; (focus (intro w hSw; (try dsimp only at hSw); go_simp; (try with_reducible rfl))); (try simp only [List.getElem_toArray, List.getElem_cons_zero, List.getElem_cons_succ, Act.put, List.setIfInBounds_toArray, List.set_cons_zero, List.set_cons_succ])); (refine wpAnyH_take (i := 10) (v := ?_) rfl (by kernel_rfl) (by kernel_rfl) (by kernel_rfl) (fun _ _ _ h => h) (Or.inl ⟨by rfl, ?_⟩) (by assumption) ?_; rotate_left; (focus (intro w hSw; (try dsimp only at hSw); go_simp; (try with_reducible rfl))); (try simp only [List.getElem_toArray, List.getElem_cons_zero, List.getElem_cons_succ, Act.put, List.setIfInBounds_toArray, List.set_cons_zero, List.set_cons_succ])); (refine wpAnyH_take (i := 11) (v := ?_) rfl (by kernel_rfl) (by kernel_rfl) (by kernel_rfl) (fun _ _ _ h => h) (Or.inl ⟨by rfl, ?_⟩) (by assumption) ?_; rotate_left; (focus (intro w hSw; (try dsimp only at hSw); go_simp; (try with_reducible rfl))); (try simp only [List.getElem_toArray, List.getElem_cons_zero, List.getElem_cons_succ, Act.put, List.setIfInBounds_toArray, List.set_cons_zero, List.set_cons_succ])); (refine wpAnyH_take (i := 12) (v := ?_) rfl (by kernel_rfl) (by kernel_rfl) (by kernel_rfl) (fun _ _ _ h => h) (Or.inl ⟨by rfl, ?_⟩) (by assumption) ?_; rotate_left; (focus (intro w hSw; (try dsimp only at hSw); go_simp; (try with_reducible rfl))); (try simp only [List.getElem_toArray, List.getElem_cons_zero, List.getElem_cons_succ, Act.put, List.setIfInBounds_toArray, List.set_cons_zero, List.set_cons_succ])); (refine wpAnyH_take (i := 13) (v := ?_) rfl (by kernel_rfl) (by kernel_rfl) (by kernel_rfl) (fun _ _ _ h => h) (Or.inl ⟨by rfl, ?_⟩) (by assumption) ?_; rotate_left; (focus (intro w hSw; (try dsimp only at hSw); go_simp; (try with_reducible rfl))); (try simp only [List.getElem_toArray, List.getElem_cons_zero, List.getElem_cons_succ, Act.put, List.setIfInBounds_toArray, List.set_cons_zero, List.set_cons_succ])); (refine wpAnyH_take (i := 14) (v := ?_) rfl (by kernel_rfl) (by kernel_rfl) (by kernel_rfl) (fun _ _ _ h => h) (Or.inl ⟨by rfl, ?_⟩) (by assumption) ?_; rotate_left; (focus (intro w hSw; (try dsimp only at hSw); go_simp; (try with_reducible rfl))); (try simp only [List.getElem_toArray, List.getElem_cons_zero, List.getElem_cons_succ, Act.put, List.setIfInBounds_toArray, List.set_cons_zero, List.set_cons_succ])); (refine wpAnyH_take (i := 15) (v := ?_) rfl (by kernel_rfl) (by kernel_rfl) (by kernel_rfl) (fun _ _ _ h => h) (Or.inl ⟨by rfl, ?_⟩) (by assumption) ?_; rotate_left; (focus (intro w hSw; (try dsimp only at hSw); go_simp; (try with_reducible rfl))); (try simp only [List.getElem_toArray, List.getElem_cons_zero, List.getElem_cons_succ, Act.put, List.setIfInBounds_toArray, List.set_cons_zero, List.set_cons_succ])); (refine wpAnyH_take (i := 16) (v := ?_) rfl (by kernel_rfl) (by kernel_rfl) (by kernel_rfl) (fun _ _ _ h => h) (Or.inl ⟨by rfl, ?_⟩) (by assumption) ?_; rotate_left; (focus (intro w hSw; (try dsimp only at hSw); go_simp; (try with_reducible rfl))); (try simp only [List.getElem_toArray, List.getElem_cons_zero, List.getElem_cons_succ, Act.put, List.setIfInBounds_toArray, List.set_cons_zero, List.set_cons_succ]))
    refine wpAnyH_ready (rs := [8]) (by kernel_rfl) (by simp) ?_; refine AllReadyH.cons rfl (fun K hK => ?_) AllReadyH.nil; go_simp
    go_at_call 20
    refine (totalOf_any wc.heap.size _ l2 d _ (HLI2.out.go (Nat.le_refl _) (Below.refl _ _).drew) (Nat.le_refl _) HLE2.out.2 HPT2.out HLE2.out.1).mono ?_
    rw [HT2.out]
    rintro e w1 ⟨rfl, hb1⟩
    have HB1 : Hid (Below wc.heap.size wc w1) := (Below.refl _ _).drew.trans hb1
    have hS1 := HSC.out w1 HB1.out
    clear hb1
    refine hK.out _ _ hS1 (fun hHeld => ?_); clear hK K; (try simp only [List.getElem_toArray, List.getElem_cons_zero, List.getElem_cons_succ, Act.put, List.setIfInBounds_toArray, List.set_cons_zero, List.set_cons_succ])
    refine wpAnyH_ready (rs := [17]) (by kernel_rfl) (by simp) ?_; refine AllReadyH.cons rfl (fun K hK => ?_) AllReadyH.nil; go_simp
    go_at_call 20
    refine (totalOf_any wc.heap.size _ l5 d _ (HLI5.out.go (Nat.le_refl _) HB1.out) HB1.out.size HLE5.out.2 HPT5.out HLE5.out.1).mono ?_
    rw [HT5.out]
    rintro e w2 ⟨rfl, hb2⟩
    have HB2 : Hid (Below wc.heap.size wc w2) := bel HB1.out hb2
    have hS2 := HSC.out w2 HB2.out
    clear hb2 hS1
    refine hK.out _ _ hS2 (fun hHeld => ?_); clear hK K; (try simp only [List.getElem_toArray, List.getElem_cons_zero, List.getElem_cons_succ, Act.put, List.setIfInBounds_toArray, List.set_cons_zero, List.set_cons_succ])
    (refine wpAnyH_take (i := 18) (v := ?_) rfl (by kernel_rfl) (by kernel_rfl) (by kernel_rfl) (fun _ _ _ h => h) (Or.inl ⟨by rfl, ?_⟩) (by assumption) ?_; rotate_left; (focus (intro w hSw; (try dsimp only at hSw); go_simp; (try with_reducible rfl))); (try simp only [List.getElem_toArray, List.getElem_cons_zero, List.getElem_cons_succ, Act.put, List.setIfInBounds_toArray, List.set_cons_zero, List.set_cons_succ]))
    have hz2 := (HB2.out.block _ hwR).trans HZR.out
    have x0 := cell_blk hz2 0 rfl
    have x1 := cell_blk hz2 1 rfl
    have y0 := free_blk hz2 0
    have y1 := free_blk hz2 1
    refine wpAnyH_ready (rs := [19]) (by kernel_rfl) (by simp) ?_; refine AllReadyH.cons rfl (fun K hK => ?_) AllReadyH.nil; go_simp
    obtain ⟨w3, hw3, hz3, ho3, hb3⟩ : ∃ w3, (w2.setCell ⟨w.heap.size + 1, 0, none⟩ (.int .i64 (loT S k))).setCell ⟨w.heap.size + 1, 1, none⟩ (.int .i64 (hiT S k)) = w3 ∧ w3.heap[w.heap.size + 1]? = some (.cells #[.int .i64 (loT S k), .int .i64 (hiT S k)] 30) ∧ (∀ j, j ≠ w.heap.size + 1 → w3.heap[j]? = w2.heap[j]?) ∧ Below (w.heap.size + 1) w2 w3 :=
      ⟨_, rfl, blk_set (blk_set hz2 0 _) 1 _, fun j hj => by rw [Below.heap_setCell _ _ _ _ (by exact hj), Below.heap_setCell _ _ _ _ (by exact hj)], ((Below.refl _ w2).setCell (p := ⟨w.heap.size + 1, 0, none⟩) (Nat.le_refl _) _).setCell (p := ⟨w.heap.size + 1, 1, none⟩) (Nat.le_refl _) _⟩
    rw [hw3]
    have hc3 : ∀ b o, b ≠ w.heap.size + 1 → w3.cell? ⟨b, o, none⟩ = w2.cell? ⟨b, o, none⟩ := fun b o hne => World.cell?_of_block (w := w2) (ho3 b hne)
    have hne : ∀ b, ws.heap.size ≤ b → b ≠ w.heap.size + 1 := fun b hb => by omega
    have hS3 : w3.cell? ⟨g6, 3, none⟩ = some (.slice (some ⟨g2, 0, none⟩) S.np c2) ∧ w3.cell? ⟨g2, k * 2 + 1, none⟩ = some (.slice ra2 n2 rc2) ∧ w3.cell? ⟨w.heap.size, 1, none⟩ = some (.int .i64 d) ∧ w3.cell? ⟨g7, 3, none⟩ = some (.slice (some ⟨g5, 0, none⟩) S.np c5) ∧ w3.cell? ⟨g5, k * 2 + 1, none⟩ = some (.slice ra5 n5 rc5) :=
      ⟨(hc3 _ _ (hne _ hg6)).trans hS2.1, (hc3 _ _ (hne _ hl2)).trans hS2.2.1, (hc3 _ _ (by omega)).trans hS2.2.2.1, (hc3 _ _ (hne _ hg7)).trans hS2.2.2.2.1, (hc3 _ _ (hne _ hl5)).trans hS2.2.2.2.2⟩
    have HZ3 := Lib.hid hz3
    have HB3 : Hid (Below w.heap.size w w3) := HB.out.trans ((HBc.out.mono HB.out.size).trans ((HB2.out.mono (by omega)).trans (hb3.mono (by omega))))
    clear hw3 hz3 ho3 hb3 hc3 hne hS2 x0 x1 y0 y1 hz2
    refine hK.out _ _ hS3 (fun hHeld => ?_); clear hK K; (try simp only [List.getElem_toArray, List.getElem_cons_zero, List.getElem_cons_succ, Act.put, List.setIfInBounds_toArray, List.set_cons_zero, List.set_cons_succ])
    refine wpAnyH_done (by kernel_rfl) ?_ _; clear hHeld
    have r0 := cell_blk HZ3.out 0 rfl
    have r1 := cell_blk HZ3.out 1 rfl
    go_wp2_with fail
    exact bodyPost_ret (v := .agg #[.int .i64 (loT S k), .int .i64 (hiT S k)]) (by simp [results, Try.results74, go_sem, r0, r1]) rfl ⟨rfl, HB3.out⟩

end Go.Proofs.Ytffnlimgjnhmpaa
