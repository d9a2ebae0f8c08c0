/-
  JWk: the example of the laws.
-/
import Derived.Test.YtffnlimgjnhmpaaJEx
namespace Go.Proofs.Ytffnlimgjnhmpaa
open Go.RowKit

set_option maxHeartbeats 4000000 in
set_option maxRecDepth 100000 in
theorem example_any (w : World) : Calls Try.prog 54 #[] w fun e w' => ∃ u v, e = .returned (.tuple #[u, v]) ∧ ShowAt w'.heap.size w' u exJ ∧ ShowAt w'.heap.size w' v exK ∧ Below w.heap.size w w' := by
  obtain ⟨wa, hwa, HBa, hsa, hsa1, hza, hza1⟩ := box2 w (.cells #[.int .i64 0, .int .i64 0, .int .i64 0, .slice none 0 0] 24) (.cells #[.int .i64 0, .int .i64 0, .int .i64 0, .slice none 0 0] 24)
  have HZ := Lib.hid (And.intro hza hza1)
  obtain ⟨wb, hwb, HBb, hsb, k0, k1, k2, k3⟩ := allocs4 wa (.cells #[.int .i64 10, .int .i64 12, .int .i64 (-1)] 3) (.cells #[.int .i64 9, .int .i64 11, .int .i64 8] 3) (.cells #[.int .i64 15, .int .i64 (-1), .int .i64 (-1)] 3) (.cells (#[.int .i64 50, .slice (some ⟨wa.heap.size, 0, none⟩) 3 3, .int .i64 60, .slice (some ⟨wa.heap.size + 1, 0, none⟩) 3 3, .int .i64 40, .slice (some ⟨wa.heap.size + 1 + 1, 0, none⟩) 3 3]) 40)
  have HK := Lib.hid (And.intro k0 (And.intro k1 (And.intro k2 k3)))
  have HSB := Lib.hid hsb
  clear k0 k1 k2 k3 hza hza1 hsb
  go_enter Try.func54, Try.ntmps54
  go_upto_region 1 with fail
  (try rw [hwa])
  clear hwa
  have hzb := (HBb.out.block _ hsa).trans HZ.out.1
  have z0 := cell_blk hzb 0 rfl
  have z1 := cell_blk hzb 1 rfl
  have z2 := cell_blk hzb 2 rfl
  have z3 := cell_blk hzb 3 rfl
  have f0 := free_blk hzb 0
  have f1 := free_blk hzb 1
  have f2 := free_blk hzb 2
  have f3 := free_blk hzb 3
  go_upto_region 2 with fail
  obtain ⟨w2, hw2, hz2, ho2, hb2⟩ := put4o hzb (.int .i64 3) (.int .i64 0) (.int .i64 1) (.slice (some ⟨wa.heap.size + 1 + 1 + 1, 0, none⟩) 3 3)
  rw [hw2]
  have HK2 : Hid (w2.heap[wa.heap.size]? = some (.cells #[.int .i64 10, .int .i64 12, .int .i64 (-1)] 3) ∧ w2.heap[wa.heap.size + 1]? = some (.cells #[.int .i64 9, .int .i64 11, .int .i64 8] 3) ∧ w2.heap[wa.heap.size + 1 + 1]? = some (.cells #[.int .i64 15, .int .i64 (-1), .int .i64 (-1)] 3) ∧ w2.heap[wa.heap.size + 1 + 1 + 1]? = some (.cells (#[.int .i64 50, .slice (some ⟨wa.heap.size, 0, none⟩) 3 3, .int .i64 60, .slice (some ⟨wa.heap.size + 1, 0, none⟩) 3 3, .int .i64 40, .slice (some ⟨wa.heap.size + 1 + 1, 0, none⟩) 3 3]) 40)) :=
    ⟨(ho2 _ (by omega)).trans HK.out.1, (ho2 _ (by omega)).trans HK.out.2.1, (ho2 _ (by omega)).trans HK.out.2.2.1, (ho2 _ (by omega)).trans HK.out.2.2.2⟩
  have HZ2 : Hid (w2.heap[w.heap.size]? = some (.cells #[.int .i64 3, .int .i64 0, .int .i64 1, .slice (some ⟨wa.heap.size + 1 + 1 + 1, 0, none⟩) 3 3] 24) ∧ w2.heap[w.heap.size + 1]? = some (.cells #[.int .i64 0, .int .i64 0, .int .i64 0, .slice none 0 0] 24)) :=
    ⟨hz2, (ho2 _ (by omega)).trans ((HBb.out.block _ hsa1).trans HZ.out.2)⟩
  have HB2 : Hid (Below w.heap.size w w2) := HBa.out.trans ((HBb.out.mono HBa.out.size).trans hb2)
  have hs2 : wa.heap.size + 4 ≤ w2.heap.size := by have := hb2.size; have := HSB.out; omega
  clear hwb hw2 hz2 ho2 hb2 hzb z0 z1 z2 z3 f0 f1 f2 f3 HK HZ
  obtain ⟨wc, hwc, HBc, hsc, k0, k1, k2, k3⟩ := allocs4 w2 (.cells #[.int .i64 10, .int .i64 12, .int .i64 6] 3) (.cells #[.int .i64 9, .int .i64 11, .int .i64 8] 3) (.cells #[.int .i64 15, .int .i64 5, .int .i64 7] 3) (.cells (#[.int .i64 50, .slice (some ⟨w2.heap.size, 0, none⟩) 3 3, .int .i64 60, .slice (some ⟨w2.heap.size + 1, 0, none⟩) 3 3, .int .i64 40, .slice (some ⟨w2.heap.size + 1 + 1, 0, none⟩) 3 3]) 40)
  have hzc := (HBc.out.block _ (show w.heap.size + 1 < w2.heap.size by omega)).trans HZ2.out.2
  have z0 := cell_blk hzc 0 rfl
  have z1 := cell_blk hzc 1 rfl
  have z2 := cell_blk hzc 2 rfl
  have z3 := cell_blk hzc 3 rfl
  have f0 := free_blk hzc 0
  have f1 := free_blk hzc 1
  have f2 := free_blk hzc 2
  have f3 := free_blk hzc 3
  go_upto_region 3 with fail
  obtain ⟨w3, hw3, hz3, ho3, hb3⟩ := put4o hzc (.int .i64 3) (.int .i64 0) (.int .i64 1) (.slice (some ⟨w2.heap.size + 1 + 1 + 1, 0, none⟩) 3 3)
  rw [hw3]
  have hsw : w.heap.size < w2.heap.size := by omega
  have hold : ∀ b, b < w2.heap.size → b ≠ w.heap.size + 1 → w3.heap[b]? = w2.heap[b]? := fun b h1 h2 => (ho3 b h2).trans (HBc.out.block b h1)
  have HK3 : Hid ((w3.heap[wa.heap.size]? = some (.cells #[.int .i64 10, .int .i64 12, .int .i64 (-1)] 3) ∧ w3.heap[wa.heap.size + 1]? = some (.cells #[.int .i64 9, .int .i64 11, .int .i64 8] 3) ∧ w3.heap[wa.heap.size + 1 + 1]? = some (.cells #[.int .i64 15, .int .i64 (-1), .int .i64 (-1)] 3) ∧ w3.heap[wa.heap.size + 1 + 1 + 1]? = some (.cells (#[.int .i64 50, .slice (some ⟨wa.heap.size, 0, none⟩) 3 3, .int .i64 60, .slice (some ⟨wa.heap.size + 1, 0, none⟩) 3 3, .int .i64 40, .slice (some ⟨wa.heap.size + 1 + 1, 0, none⟩) 3 3]) 40)) ∧
      w3.heap[w2.heap.size]? = some (.cells #[.int .i64 10, .int .i64 12, .int .i64 6] 3) ∧ w3.heap[w2.heap.size + 1]? = some (.cells #[.int .i64 9, .int .i64 11, .int .i64 8] 3) ∧ w3.heap[w2.heap.size + 1 + 1]? = some (.cells #[.int .i64 15, .int .i64 5, .int .i64 7] 3) ∧ w3.heap[w2.heap.size + 1 + 1 + 1]? = some (.cells (#[.int .i64 50, .slice (some ⟨w2.heap.size, 0, none⟩) 3 3, .int .i64 60, .slice (some ⟨w2.heap.size + 1, 0, none⟩) 3 3, .int .i64 40, .slice (some ⟨w2.heap.size + 1 + 1, 0, none⟩) 3 3]) 40)) :=
    ⟨⟨(hold _ (by omega) (by omega)).trans HK2.out.1, (hold _ (by omega) (by omega)).trans HK2.out.2.1, (hold _ (by omega) (by omega)).trans HK2.out.2.2.1, (hold _ (by omega) (by omega)).trans HK2.out.2.2.2⟩, (ho3 _ (by omega)).trans k0, (ho3 _ (by omega)).trans k1, (ho3 _ (by omega)).trans k2, (ho3 _ (by omega)).trans k3⟩
  have HZ3 : Hid (w3.heap[w.heap.size]? = some (.cells #[.int .i64 3, .int .i64 0, .int .i64 1, .slice (some ⟨wa.heap.size + 1 + 1 + 1, 0, none⟩) 3 3] 24) ∧ w3.heap[w.heap.size + 1]? = some (.cells #[.int .i64 3, .int .i64 0, .int .i64 1, .slice (some ⟨w2.heap.size + 1 + 1 + 1, 0, none⟩) 3 3] 24)) :=
    ⟨(hold _ (by omega) (by omega)).trans HZ2.out.1, hz3⟩
  have HB3 : Hid (Below w.heap.size w w3) := HB2.out.trans ((HBc.out.mono HB2.out.size).trans (hb3.mono (by omega)))
  have hs3 : w2.heap.size + 4 ≤ w3.heap.size := by have := hb3.size; omega
  obtain ⟨A, hA⟩ : ∃ A, wa.heap.size = A := ⟨_, rfl⟩
  obtain ⟨C, hC⟩ : ∃ C, w2.heap.size = C := ⟨_, rfl⟩
  rw [hA] at HK3 HZ3 hs2
  rw [hC] at HK3 HZ3 hs3 hs2 hsw
  rw [hA, hC]
  have hwA : w.heap.size + 2 ≤ A := by omega
  clear hwc hw3 hz3 ho3 hb3 hzc z0 z1 z2 z3 f0 f1 f2 f3 hold k0 k1 k2 k3 HK2 HZ2 hsc HBc HB2
  have HSQ : Hid (∀ W : World, ((W.heap[w.heap.size]? = some (.cells #[.int .i64 3, .int .i64 0, .int .i64 1, .slice (some ⟨A + 1 + 1 + 1, 0, none⟩) 3 3] 24) ∧ W.heap[w.heap.size + 1]? = some (.cells #[.int .i64 3, .int .i64 0, .int .i64 1, .slice (some ⟨C + 1 + 1 + 1, 0, none⟩) 3 3] 24))) → (((W.cell? ⟨w.heap.size, 0, none⟩ = some (.int .i64 3) ∧ W.cell? ⟨w.heap.size, 1, none⟩ = some (.int .i64 0) ∧ W.cell? ⟨w.heap.size, 2, none⟩ = some (.int .i64 1) ∧ W.cell? ⟨w.heap.size, 3, none⟩ = some (.slice (some ⟨A + 1 + 1 + 1, 0, none⟩) 3 3)) ∧ W.cell? ⟨w.heap.size + 1, 0, none⟩ = some (.int .i64 3) ∧ W.cell? ⟨w.heap.size + 1, 1, none⟩ = some (.int .i64 0) ∧ W.cell? ⟨w.heap.size + 1, 2, none⟩ = some (.int .i64 1) ∧ W.cell? ⟨w.heap.size + 1, 3, none⟩ = some (.slice (some ⟨C + 1 + 1 + 1, 0, none⟩) 3 3)))) := fun W h => ⟨⟨cell_blk h.1 0 rfl, cell_blk h.1 1 rfl, cell_blk h.1 2 rfl, cell_blk h.1 3 rfl⟩, cell_blk h.2 0 rfl, cell_blk h.2 1 rfl, cell_blk h.2 2 rfl, cell_blk h.2 3 rfl⟩
  obtain ⟨wd, hwd⟩ : ∃ wd, w3.drew = wd := ⟨_, rfl⟩
  have HZd : Hid ((wd.heap[w.heap.size]? = some (.cells #[.int .i64 3, .int .i64 0, .int .i64 1, .slice (some ⟨A + 1 + 1 + 1, 0, none⟩) 3 3] 24) ∧ wd.heap[w.heap.size + 1]? = some (.cells #[.int .i64 3, .int .i64 0, .int .i64 1, .slice (some ⟨C + 1 + 1 + 1, 0, none⟩) 3 3] 24))) := by rw [← hwd]; exact HZ3.out
  have HBd : Hid (Below w.heap.size w wd) := by rw [← hwd]; exact HB3.out.drew
  have HWD : Hid (wd.heap.size = w3.heap.size) := by rw [← hwd]; rfl
  have HOd : Hid (∀ b : Nat, wd.heap[b]? = w3.heap[b]?) := fun b => by rw [← hwd]; rfl
  have hS0 := HSQ.out wd HZd.out
  refine wp_region_held_drew (S := fun W => ((W.cell? ⟨w.heap.size, 0, none⟩ = some (.int .i64 3) ∧ W.cell? ⟨w.heap.size, 1, none⟩ = some (.int .i64 0) ∧ W.cell? ⟨w.heap.size, 2, none⟩ = some (.int .i64 1) ∧ W.cell? ⟨w.heap.size, 3, none⟩ = some (.slice (some ⟨A + 1 + 1 + 1, 0, none⟩) 3 3)) ∧ W.cell? ⟨w.heap.size + 1, 0, none⟩ = some (.int .i64 3) ∧ W.cell? ⟨w.heap.size + 1, 1, none⟩ = some (.int .i64 0) ∧ W.cell? ⟨w.heap.size + 1, 2, none⟩ = some (.int .i64 1) ∧ W.cell? ⟨w.heap.size + 1, 3, none⟩ = some (.slice (some ⟨C + 1 + 1 + 1, 0, none⟩) 3 3))) (by kernel_rfl) (by rw [hwd]; exact hS0) (fun hHeld => ?_)
  rw [hwd]
  clear hwd
  (refine wpAnyH_take (i := 0) (v := ?_) rfl (by kernel_rfl) (by kernel_rfl) (by kernel_rfl) (fun _ _ _ h => h) (Or.inl ⟨by rfl, ?_⟩) (by assumption) ?_; rotate_left; (focus (intro w hSw; (try dsimp only at hSw); go_simp; (try with_reducible rfl))); (try simp only [List.getElem_toArray, List.getElem_cons_zero, List.getElem_cons_succ, Act.put, List.setIfInBounds_toArray, List.set_cons_zero, List.set_cons_succ])); (refine wpAnyH_take (i := 1) (v := ?_) rfl (by kernel_rfl) (by kernel_rfl) (by kernel_rfl) (fun _ _ _ h => h) (Or.inl ⟨by rfl, ?_⟩) (by assumption) ?_; rotate_left; (focus (intro w hSw; (try dsimp only at hSw); go_simp; (try with_reducible rfl))); (try simp only [List.getElem_toArray, List.getElem_cons_zero, List.getElem_cons_succ, Act.put, List.setIfInBounds_toArray, List.set_cons_zero, List.set_cons_succ]))
  have f0 := free_blk HZd.out.1 0
  have f1 := free_blk HZd.out.1 1
  have f2 := free_blk HZd.out.1 2
  have f3 := free_blk HZd.out.1 3
  refine wpAnyH_ready (rs := [2]) (by kernel_rfl) (by simp) ?_; refine AllReadyH.cons rfl (fun K hK => ?_) AllReadyH.nil; go_simp
  obtain ⟨w5, hw5, hz5, ho5, hb5⟩ := put4o HZd.out.1 (.int .i64 3) (.int .i64 0) (.int .i64 1) (.slice (some ⟨A + 1 + 1 + 1, 0, none⟩) 3 3)
  rw [hw5]
  have hz5' : (w5.heap[w.heap.size]? = some (.cells #[.int .i64 3, .int .i64 0, .int .i64 1, .slice (some ⟨A + 1 + 1 + 1, 0, none⟩) 3 3] 24) ∧ w5.heap[w.heap.size + 1]? = some (.cells #[.int .i64 3, .int .i64 0, .int .i64 1, .slice (some ⟨C + 1 + 1 + 1, 0, none⟩) 3 3] 24)) := ⟨hz5, (ho5 _ (by omega)).trans HZd.out.2⟩
  have HZ5 := Lib.hid hz5'
  clear hw5 f0 f1 f2 f3
  refine hK.out _ _ (HSQ.out w5 hz5') (fun hHeld => ?_)
  clear hK K
  (try simp only [List.getElem_toArray, List.getElem_cons_zero, List.getElem_cons_succ, Act.put, List.setIfInBounds_toArray, List.set_cons_zero, List.set_cons_succ])
  have f0 := free_blk HZ5.out.2 0
  have f1 := free_blk HZ5.out.2 1
  have f2 := free_blk HZ5.out.2 2
  have f3 := free_blk HZ5.out.2 3
  refine wpAnyH_ready (rs := [3]) (by kernel_rfl) (by simp) ?_; refine AllReadyH.cons rfl (fun K hK => ?_) AllReadyH.nil; go_simp
  obtain ⟨w6, hw6, hz6, ho6, hb6⟩ := put4o HZ5.out.2 (.int .i64 3) (.int .i64 0) (.int .i64 1) (.slice (some ⟨C + 1 + 1 + 1, 0, none⟩) 3 3)
  rw [hw6]
  have hz6' : (w6.heap[w.heap.size]? = some (.cells #[.int .i64 3, .int .i64 0, .int .i64 1, .slice (some ⟨A + 1 + 1 + 1, 0, none⟩) 3 3] 24) ∧ w6.heap[w.heap.size + 1]? = some (.cells #[.int .i64 3, .int .i64 0, .int .i64 1, .slice (some ⟨C + 1 + 1 + 1, 0, none⟩) 3 3] 24)) := ⟨(ho6 _ (by omega)).trans HZ5.out.1, hz6⟩
  have hoX : ∀ b : Nat, b ≠ w.heap.size → b ≠ w.heap.size + 1 → w6.heap[b]? = wd.heap[b]? := fun b h1 h2 => (ho6 b h2).trans (ho5 b h1)
  clear hw6 f0 f1 f2 f3
  refine hK.out _ _ (HSQ.out w6 hz6') (fun hHeld => ?_)
  clear hK K
  (try simp only [List.getElem_toArray, List.getElem_cons_zero, List.getElem_cons_succ, Act.put, List.setIfInBounds_toArray, List.set_cons_zero, List.set_cons_succ])
  refine wpAnyH_done (by kernel_rfl) ?_ _; clear hHeld
  have HZf := Lib.hid hz6'
  have HOf : Hid (∀ b : Nat, b ≠ w.heap.size → b ≠ w.heap.size + 1 → w6.heap[b]? = w3.heap[b]?) := fun b h1 h2 => (hoX b h1 h2).trans (HOd.out b)
  have HBf : Hid (Below w.heap.size w w6) := HBd.out.trans ((hb5.mono (by omega)).trans (hb6.mono (by omega)))
  obtain ⟨⟨s0, s1, s2, s3⟩, t0, t1, t2, t3⟩ := HSQ.out w6 HZf.out
  have hs6 : w3.heap.size ≤ w6.heap.size := by have h1 := hb5.size; have h2 := hb6.size; have h3 := HWD.out; omega
  clear hz6' hoX hb5 hb6 hS0
  go_wp2_with fail
  refine bodyPost_ret (v := .tuple #[.agg #[.int .i64 3, .int .i64 0, .int .i64 1, .slice (some ⟨A + 1 + 1 + 1, 0, none⟩) 3 3], .agg #[.int .i64 3, .int .i64 0, .int .i64 1, .slice (some ⟨C + 1 + 1 + 1, 0, none⟩) 3 3]]) (by simp [results, Try.results54, go_sem, s0, s1, s2, s3, t0, t1, t2, t3]) rfl ?_
  have hk : ∀ b, A ≤ b → w6.heap[b]? = w3.heap[b]? := fun b hb => HOf.out b (by omega) (by omega)
  refine ⟨_, _, rfl, ?_, ?_, HBf.out⟩
  · exact ex_show (S := exJ) (b := A) (l0 := [10, 12, -1]) (l1 := [9, 11, 8]) (l2 := [15, -1, -1]) rfl rfl rfl rfl rfl rfl ((hk _ (by omega)).trans HK3.out.1.1) ((hk _ (by omega)).trans HK3.out.1.2.1) ((hk _ (by omega)).trans HK3.out.1.2.2.1) ((hk _ (by omega)).trans HK3.out.1.2.2.2)
  · exact ex_show (S := exK) (b := C) (l0 := [10, 12, 6]) (l1 := [9, 11, 8]) (l2 := [15, 5, 7]) rfl rfl rfl rfl rfl rfl ((hk _ (by omega)).trans HK3.out.2.1) ((hk _ (by omega)).trans HK3.out.2.2.1) ((hk _ (by omega)).trans HK3.out.2.2.2.1) ((hk _ (by omega)).trans HK3.out.2.2.2.2)

end Go.Proofs.Ytffnlimgjnhmpaa
