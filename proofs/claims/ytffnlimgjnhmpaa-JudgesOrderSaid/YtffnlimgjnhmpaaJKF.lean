/-
  JKF: least, most, place, places, prize, better of a jury.
-/
import Derived.Test.YtffnlimgjnhmpaaJKD
import Derived.Test.YtffnlimgjnhmpaaJKE
import Derived.Test.YtffnlimgjnhmpaaJRefG
namespace Go.Proofs.Ytffnlimgjnhmpaa
open Go.RowKit

set_option maxHeartbeats 3200000 in
set_option maxRecDepth 100000 in
theorem kleast_any (N : Nat) (v : Value) (S : JB) (k : Nat) (w : World) (h : ShowAt N w v S) (hR : RdJ S) (hk : k < S.np) :
    Calls Try.prog 83 #[v, .int .i64 k] w fun e w' => e = .returned (.agg #[.int .i64 (loT S k), .int .i64 (S.sz k)]) ∧ Below w.heap.size w w' := by
  obtain ⟨a1, c1, rfl⟩ := h.form
  obtain ⟨ws, hws, HB, hsz, hsz1, hblk, hblk1⟩ := box2 w (.cells #[.int .i64 S.J, .int .i64 S.D, .int .i64 S.Z, .slice a1 S.np c1] 74) (.cells #[.int .i64 0, .int .i64 0] 97)
  have q0 := cell_blk hblk 0 rfl
  have q1 := cell_blk hblk 1 rfl
  have q2 := cell_blk hblk 2 rfl
  have q3 := cell_blk hblk 3 rfl
  have HNZ : Hid (N ≤ w.heap.size) := h.1
  have HBK := Lib.hid (h.go HB.out)
  have HB0 : Hid (Below ws.heap.size ws ws) := Below.refl _ _
  have HNS : Hid (N ≤ ws.heap.size) := HBK.out.1
  have HZ1 := Lib.hid hblk1
  have hlen := h.len
  have HSQ : Hid (∀ W, Below ws.heap.size ws W → (W.cell? ⟨w.heap.size, 0, none⟩ = some (.int .i64 S.J) ∧ W.cell? ⟨w.heap.size, 1, none⟩ = some (.int .i64 S.D) ∧ W.cell? ⟨w.heap.size, 2, none⟩ = some (.int .i64 S.Z) ∧ W.cell? ⟨w.heap.size, 3, none⟩ = some (.slice a1 S.np c1))) := fun W hW => ⟨(hW.cell (p := ⟨w.heap.size, 0, none⟩) hsz).trans q0, (hW.cell (p := ⟨w.heap.size, 1, none⟩) hsz).trans q1, (hW.cell (p := ⟨w.heap.size, 2, none⟩) hsz).trans q2, (hW.cell (p := ⟨w.heap.size, 3, none⟩) hsz).trans q3⟩
  clear hblk hblk1 h
  obtain ⟨A, C, hcap, _, hrows, hcells⟩ := HBK.out.plates.open
  obtain ⟨b, off, rfl, hbN, hrr⟩ := hcells (by omega)
  have d0 := (hrr k hk).1
  have hbw : b < ws.heap.size := by have := HNS.out; omega
  have HR := Lib.hid hR
  obtain ⟨lo, hlo⟩ : ∃ x, loT S k = x := ⟨_, rfl⟩
  obtain ⟨hi, hhi⟩ : ∃ x, hiT S k = x := ⟨_, rfl⟩
  obtain ⟨sz, hsz'⟩ : ∃ x, S.sz k = x := ⟨_, rfl⟩
  rw [hsz'] at d0 ⊢
  have HLO := Lib.hid hlo
  have HHI := Lib.hid hhi
  have HSX : Hid (∀ W, Below ws.heap.size ws W → ((W.cell? ⟨w.heap.size, 0, none⟩ = some (.int .i64 S.J) ∧ W.cell? ⟨w.heap.size, 1, none⟩ = some (.int .i64 S.D) ∧ W.cell? ⟨w.heap.size, 2, none⟩ = some (.int .i64 S.Z) ∧ W.cell? ⟨w.heap.size, 3, none⟩ = some (.slice (some ⟨b, off, none⟩) S.np c1))) ∧ W.cell? ⟨b, off + k * 2, none⟩ = some (.int .i64 sz)) := fun W hW => ⟨HSQ.out W hW, (hW.cell (p := ⟨b, off + k * 2, none⟩) hbw).trans d0⟩
  have hki : (k : Int) < (S.np : Int) := by omega
  have HNW : Hid (b ≠ w.heap.size + 1 ∧ w.heap.size ≠ w.heap.size + 1) := ⟨by have := HNZ.out; omega, by omega⟩
  clear hR q0 q1 q2 q3 hlo hhi hsz' hrr hrows hcells d0
  go_enter Try.func83, Try.ntmps83
  go_upto_region 1 with fail
  clear hws
  have hS0 := HSX.out ws.drew (Below.refl _ _).drew
  refine wp_region_held_drew (S := fun W => ((W.cell? ⟨w.heap.size, 0, none⟩ = some (.int .i64 S.J) ∧ W.cell? ⟨w.heap.size, 1, none⟩ = some (.int .i64 S.D) ∧ W.cell? ⟨w.heap.size, 2, none⟩ = some (.int .i64 S.Z) ∧ W.cell? ⟨w.heap.size, 3, none⟩ = some (.slice (some ⟨b, off, none⟩) S.np c1))) ∧ W.cell? ⟨b, off + k * 2, none⟩ = some (.int .i64 sz)) (by kernel_rfl) hS0 (fun hHeld => ?_)
  (refine wpAnyH_take (i := 0) (v := ?_) rfl (by kernel_rfl) (by kernel_rfl) (by kernel_rfl) (fun _ _ _ h => h) (Or.inl ⟨by rfl, ?_⟩) (by assumption) ?_; rotate_left; (focus (intro w hSw; (try dsimp only at hSw); go_simp; (try with_reducible rfl))); (try simp only [List.getElem_toArray, List.getElem_cons_zero, List.getElem_cons_succ, Act.put, List.setIfInBounds_toArray, List.set_cons_zero, List.set_cons_succ])); (refine wpAnyH_take (i := 1) (v := ?_) rfl (by kernel_rfl) (by kernel_rfl) (by kernel_rfl) (fun _ _ _ h => h) (Or.inl ⟨by rfl, ?_⟩) (by assumption) ?_; rotate_left; (focus (intro w hSw; (try dsimp only at hSw); go_simp; (try with_reducible rfl))); (try simp only [List.getElem_toArray, List.getElem_cons_zero, List.getElem_cons_succ, Act.put, List.setIfInBounds_toArray, List.set_cons_zero, List.set_cons_succ]))
  (refine wpAnyH_take (i := 4) (v := ?_) rfl (by kernel_rfl) (by kernel_rfl) (by kernel_rfl) (fun _ _ _ h => h) (Or.inl ⟨by rfl, ?_⟩) (by assumption) ?_; rotate_left; (focus (intro w hSw; (try dsimp only at hSw); go_simp; (try with_reducible rfl))); (try simp only [List.getElem_toArray, List.getElem_cons_zero, List.getElem_cons_succ, Act.put, List.setIfInBounds_toArray, List.set_cons_zero, List.set_cons_succ])); (refine wpAnyH_take (i := 5) (v := ?_) rfl (by kernel_rfl) (by kernel_rfl) (by kernel_rfl) (fun _ _ _ h => h) (Or.inl ⟨by rfl, ?_⟩) (by assumption) ?_; rotate_left; (focus (intro w hSw; (try dsimp only at hSw); go_simp; (try with_reducible rfl))); (try simp only [List.getElem_toArray, List.getElem_cons_zero, List.getElem_cons_succ, Act.put, List.setIfInBounds_toArray, List.set_cons_zero, List.set_cons_succ])); (refine wpAnyH_take (i := 6) (v := ?_) rfl (by kernel_rfl) (by kernel_rfl) (by kernel_rfl) (fun _ _ _ h => h) (Or.inl ⟨by rfl, ?_⟩) (by assumption) ?_; rotate_left; (focus (intro w hSw; (try dsimp only at hSw); go_simp; (try with_reducible rfl))); (try simp only [List.getElem_toArray, List.getElem_cons_zero, List.getElem_cons_succ, Act.put, List.setIfInBounds_toArray, List.set_cons_zero, List.set_cons_succ])); (refine wpAnyH_take (i := 7) (v := ?_) rfl (by kernel_rfl) (by kernel_rfl) (by kernel_rfl) (fun _ _ _ h => h) (Or.inl ⟨by rfl, ?_⟩) (by assumption) ?_; rotate_left; (focus (intro w hSw; (try dsimp only at hSw); go_simp; (try with_reducible rfl))); (try simp only [List.getElem_toArray, List.getElem_cons_zero, List.getElem_cons_succ, Act.put, List.setIfInBounds_toArray, List.set_cons_zero, List.set_cons_succ])); (refine wpAnyH_take (i := 8) (v := ?_) rfl (by kernel_rfl) (by kernel_rfl) (by kernel_rfl) (fun _ _ _ h => h) (Or.inl ⟨by rfl, ?_⟩) (by assumption) ?_; rotate_left; (focus (intro w hSw; (try dsimp only at hSw); go_simp; (try with_reducible rfl))); (try simp only [List.getElem_toArray, List.getElem_cons_zero, List.getElem_cons_succ, Act.put, List.setIfInBounds_toArray, List.set_cons_zero, List.set_cons_succ])); (refine wpAnyH_take (i := 9) (v := ?_) rfl (by kernel_rfl) (by kernel_rfl) (by kernel_rfl) (fun _ _ _ h => h) (Or.inl ⟨by rfl, ?_⟩) (by assumption) ?_; rotate_left; (focus (intro w hSw; (try dsimp only at hSw); go_simp; (try with_reducible rfl))); (try simp only [List.getElem_toArray, List.getElem_cons_zero, List.getElem_cons_succ, Act.put, List.setIfInBounds_toArray, List.set_cons_zero, List.set_cons_succ])); (refine wpAnyH_take (i := 10) (v := ?_) rfl (by kernel_rfl) (by kernel_rfl) (by kernel_rfl) (fun _ _ _ h => h) (Or.inl ⟨by rfl, ?_⟩) (by assumption) ?_; rotate_left; (focus (intro w hSw; (try dsimp only at hSw); go_simp; (try with_reducible rfl))); (try simp only [List.getElem_toArray, List.getElem_cons_zero, List.getElem_cons_succ, Act.put, List.setIfInBounds_toArray, List.set_cons_zero, List.set_cons_succ]))
  refine wpAnyH_ready (rs := [2]) (by kernel_rfl) (by simp) ?_; refine AllReadyH.cons rfl (fun K hK => ?_) AllReadyH.nil; go_simp
  go_at_call 56
  refine (ktotals_any N _ S k _ (HBK.out.go (Below.refl _ _).drew) HR.out hk).mono ?_
  rw [HLO.out, HHI.out]
  rintro e w1 ⟨rfl, hb1⟩
  have HB1 : Hid (Below ws.heap.size ws w1) := (Below.refl _ _).drew.trans hb1
  have hS1 := HSX.out w1 HB1.out
  clear hb1
  refine hK.out _ _ hS1 (fun hHeld => ?_); clear hK K; (try simp only [List.getElem_toArray, List.getElem_cons_zero, List.getElem_cons_succ, Act.put, List.setIfInBounds_toArray, List.set_cons_zero, List.set_cons_succ])
  refine wpAnyH_ready (rs := [3]) (by kernel_rfl) (by simp) ?_; refine AllReadyH.cons rfl (fun K hK => ?_) AllReadyH.nil; go_simp
  refine hK.out _ _ hS1 (fun hHeld => ?_); clear hK K; (try simp only [List.getElem_toArray, List.getElem_cons_zero, List.getElem_cons_succ, Act.put, List.setIfInBounds_toArray, List.set_cons_zero, List.set_cons_succ])
  (refine wpAnyH_take (i := 11) (v := ?_) rfl (by kernel_rfl) (by kernel_rfl) (by kernel_rfl) (fun _ _ _ h => h) (Or.inl ⟨by rfl, ?_⟩) (by assumption) ?_; rotate_left; (focus (intro w hSw; (try dsimp only at hSw); go_simp; (try with_reducible rfl))); (try simp only [List.getElem_toArray, List.getElem_cons_zero, List.getElem_cons_succ, Act.put, List.setIfInBounds_toArray, List.set_cons_zero, List.set_cons_succ]))
  have hz2 := (HB1.out.block _ hsz1).trans HZ1.out
  have x0 := cell_blk hz2 0 rfl
  have x1 := cell_blk hz2 1 rfl
  have y0 := free_blk hz2 0
  have y1 := free_blk hz2 1
  refine wpAnyH_ready (rs := [12]) (by kernel_rfl) (by simp) ?_; refine AllReadyH.cons rfl (fun K hK => ?_) AllReadyH.nil; go_simp
  obtain ⟨w5, hw5, hz5, ho5, hb5⟩ := put2o hz2 (.int .i64 lo) (.int .i64 sz)
  rw [hw5]
  have hc5 : ∀ b o, b ≠ w.heap.size + 1 → w5.cell? ⟨b, o, none⟩ = w1.cell? ⟨b, o, none⟩ := fun b o hne => World.cell?_of_block (w := w1) (ho5 b hne)
  have hS5 : ((w5.cell? ⟨w.heap.size, 0, none⟩ = some (.int .i64 S.J) ∧ w5.cell? ⟨w.heap.size, 1, none⟩ = some (.int .i64 S.D) ∧ w5.cell? ⟨w.heap.size, 2, none⟩ = some (.int .i64 S.Z) ∧ w5.cell? ⟨w.heap.size, 3, none⟩ = some (.slice (some ⟨b, off, none⟩) S.np c1))) ∧ w5.cell? ⟨b, off + k * 2, none⟩ = some (.int .i64 sz) := ⟨⟨(hc5 _ _ HNW.out.2).trans hS1.1.1, (hc5 _ _ HNW.out.2).trans hS1.1.2.1, (hc5 _ _ HNW.out.2).trans hS1.1.2.2.1, (hc5 _ _ HNW.out.2).trans hS1.1.2.2.2⟩, (hc5 _ _ HNW.out.1).trans hS1.2⟩
  have HZ5 := Lib.hid hz5
  have HB5 : Hid (Below w.heap.size w w5) := HB.out.trans ((HB1.out.mono HB.out.size).trans (hb5.mono (by omega)))
  clear hw5 hz5 ho5 hb5 hc5 hS1 x0 x1 y0 y1 hz2
  refine hK.out _ _ hS5 (fun hHeld => ?_); clear hK K; (try simp only [List.getElem_toArray, List.getElem_cons_zero, List.getElem_cons_succ, Act.put, List.setIfInBounds_toArray, List.set_cons_zero, List.set_cons_succ])
  refine wpAnyH_done (by kernel_rfl) ?_ _; clear hHeld
  have r0 := cell_blk HZ5.out 0 rfl
  have r1 := cell_blk HZ5.out 1 rfl
  go_wp2_with fail
  exact bodyPost_ret (v := .agg #[.int .i64 lo, .int .i64 sz]) (by simp [results, Try.results83, go_sem, r0, r1]) rfl ⟨by first | rw [HLO.out] | rw [HHI.out], HB5.out⟩
set_option maxHeartbeats 3200000 in
set_option maxRecDepth 100000 in
theorem kmost_any (N : Nat) (v : Value) (S : JB) (k : Nat) (w : World) (h : ShowAt N w v S) (hR : RdJ S) (hk : k < S.np) :
    Calls Try.prog 82 #[v, .int .i64 k] w fun e w' => e = .returned (.agg #[.int .i64 (hiT S k), .int .i64 (S.sz k)]) ∧ Below w.heap.size w w' := by
  obtain ⟨a1, c1, rfl⟩ := h.form
  obtain ⟨ws, hws, HB, hsz, hsz1, hblk, hblk1⟩ := box2 w (.cells #[.int .i64 S.J, .int .i64 S.D, .int .i64 S.Z, .slice a1 S.np c1] 74) (.cells #[.int .i64 0, .int .i64 0] 97)
  have q0 := cell_blk hblk 0 rfl
  have q1 := cell_blk hblk 1 rfl
  have q2 := cell_blk hblk 2 rfl
  have q3 := cell_blk hblk 3 rfl
  have HNZ : Hid (N ≤ w.heap.size) := h.1
  have HBK := Lib.hid (h.go HB.out)
  have HB0 : Hid (Below ws.heap.size ws ws) := Below.refl _ _
  have HNS : Hid (N ≤ ws.heap.size) := HBK.out.1
  have HZ1 := Lib.hid hblk1
  have hlen := h.len
  have HSQ : Hid (∀ W, Below ws.heap.size ws W → (W.cell? ⟨w.heap.size, 0, none⟩ = some (.int .i64 S.J) ∧ W.cell? ⟨w.heap.size, 1, none⟩ = some (.int .i64 S.D) ∧ W.cell? ⟨w.heap.size, 2, none⟩ = some (.int .i64 S.Z) ∧ W.cell? ⟨w.heap.size, 3, none⟩ = some (.slice a1 S.np c1))) := fun W hW => ⟨(hW.cell (p := ⟨w.heap.size, 0, none⟩) hsz).trans q0, (hW.cell (p := ⟨w.heap.size, 1, none⟩) hsz).trans q1, (hW.cell (p := ⟨w.heap.size, 2, none⟩) hsz).trans q2, (hW.cell (p := ⟨w.heap.size, 3, none⟩) hsz).trans q3⟩
  clear hblk hblk1 h
  obtain ⟨A, C, hcap, _, hrows, hcells⟩ := HBK.out.plates.open
  obtain ⟨b, off, rfl, hbN, hrr⟩ := hcells (by omega)
  have d0 := (hrr k hk).1
  have hbw : b < ws.heap.size := by have := HNS.out; omega
  have HR := Lib.hid hR
  obtain ⟨lo, hlo⟩ : ∃ x, loT S k = x := ⟨_, rfl⟩
  obtain ⟨hi, hhi⟩ : ∃ x, hiT S k = x := ⟨_, rfl⟩
  obtain ⟨sz, hsz'⟩ : ∃ x, S.sz k = x := ⟨_, rfl⟩
  rw [hsz'] at d0 ⊢
  have HLO := Lib.hid hlo
  have HHI := Lib.hid hhi
  have HSX : Hid (∀ W, Below ws.heap.size ws W → ((W.cell? ⟨w.heap.size, 0, none⟩ = some (.int .i64 S.J) ∧ W.cell? ⟨w.heap.size, 1, none⟩ = some (.int .i64 S.D) ∧ W.cell? ⟨w.heap.size, 2, none⟩ = some (.int .i64 S.Z) ∧ W.cell? ⟨w.heap.size, 3, none⟩ = some (.slice (some ⟨b, off, none⟩) S.np c1))) ∧ W.cell? ⟨b, off + k * 2, none⟩ = some (.int .i64 sz)) := fun W hW => ⟨HSQ.out W hW, (hW.cell (p := ⟨b, off + k * 2, none⟩) hbw).trans d0⟩
  have hki : (k : Int) < (S.np : Int) := by omega
  have HNW : Hid (b ≠ w.heap.size + 1 ∧ w.heap.size ≠ w.heap.size + 1) := ⟨by have := HNZ.out; omega, by omega⟩
  clear hR q0 q1 q2 q3 hlo hhi hsz' hrr hrows hcells d0
  go_enter Try.func82, Try.ntmps82
  go_upto_region 1 with fail
  clear hws
  have hS0 := HSX.out ws.drew (Below.refl _ _).drew
  refine wp_region_held_drew (S := fun W => ((W.cell? ⟨w.heap.size, 0, none⟩ = some (.int .i64 S.J) ∧ W.cell? ⟨w.heap.size, 1, none⟩ = some (.int .i64 S.D) ∧ W.cell? ⟨w.heap.size, 2, none⟩ = some (.int .i64 S.Z) ∧ W.cell? ⟨w.heap.size, 3, none⟩ = some (.slice (some ⟨b, off, none⟩) S.np c1))) ∧ W.cell? ⟨b, off + k * 2, none⟩ = some (.int .i64 sz)) (by kernel_rfl) hS0 (fun hHeld => ?_)
  (refine wpAnyH_take (i := 0) (v := ?_) rfl (by kernel_rfl) (by kernel_rfl) (by kernel_rfl) (fun _ _ _ h => h) (Or.inl ⟨by rfl, ?_⟩) (by assumption) ?_; rotate_left; (focus (intro w hSw; (try dsimp only at hSw); go_simp; (try with_reducible rfl))); (try simp only [List.getElem_toArray, List.getElem_cons_zero, List.getElem_cons_succ, Act.put, List.setIfInBounds_toArray, List.set_cons_zero, List.set_cons_succ])); (refine wpAnyH_take (i := 1) (v := ?_) rfl (by kernel_rfl) (by kernel_rfl) (by kernel_rfl) (fun _ _ _ h => h) (Or.inl ⟨by rfl, ?_⟩) (by assumption) ?_; rotate_left; (focus (intro w hSw; (try dsimp only at hSw); go_simp; (try with_reducible rfl))); (try simp only [List.getElem_toArray, List.getElem_cons_zero, List.getElem_cons_succ, Act.put, List.setIfInBounds_toArray, List.set_cons_zero, List.set_cons_succ]))
  (refine wpAnyH_take (i := 4) (v := ?_) rfl (by kernel_rfl) (by kernel_rfl) (by kernel_rfl) (fun _ _ _ h => h) (Or.inl ⟨by rfl, ?_⟩) (by assumption) ?_; rotate_left; (focus (intro w hSw; (try dsimp only at hSw); go_simp; (try with_reducible rfl))); (try simp only [List.getElem_toArray, List.getElem_cons_zero, List.getElem_cons_succ, Act.put, List.setIfInBounds_toArray, List.set_cons_zero, List.set_cons_succ])); (refine wpAnyH_take (i := 5) (v := ?_) rfl (by kernel_rfl) (by kernel_rfl) (by kernel_rfl) (fun _ _ _ h => h) (Or.inl ⟨by rfl, ?_⟩) (by assumption) ?_; rotate_left; (focus (intro w hSw; (try dsimp only at hSw); go_simp; (try with_reducible rfl))); (try simp only [List.getElem_toArray, List.getElem_cons_zero, List.getElem_cons_succ, Act.put, List.setIfInBounds_toArray, List.set_cons_zero, List.set_cons_succ])); (refine wpAnyH_take (i := 6) (v := ?_) rfl (by kernel_rfl) (by kernel_rfl) (by kernel_rfl) (fun _ _ _ h => h) (Or.inl ⟨by rfl, ?_⟩) (by assumption) ?_; rotate_left; (focus (intro w hSw; (try dsimp only at hSw); go_simp; (try with_reducible rfl))); (try simp only [List.getElem_toArray, List.getElem_cons_zero, List.getElem_cons_succ, Act.put, List.setIfInBounds_toArray, List.set_cons_zero, List.set_cons_succ])); (refine wpAnyH_take (i := 7) (v := ?_) rfl (by kernel_rfl) (by kernel_rfl) (by kernel_rfl) (fun _ _ _ h => h) (Or.inl ⟨by rfl, ?_⟩) (by assumption) ?_; rotate_left; (focus (intro w hSw; (try dsimp only at hSw); go_simp; (try with_reducible rfl))); (try simp only [List.getElem_toArray, List.getElem_cons_zero, List.getElem_cons_succ, Act.put, List.setIfInBounds_toArray, List.set_cons_zero, List.set_cons_succ])); (refine wpAnyH_take (i := 8) (v := ?_) rfl (by kernel_rfl) (by kernel_rfl) (by kernel_rfl) (fun _ _ _ h => h) (Or.inl ⟨by rfl, ?_⟩) (by assumption) ?_; rotate_left; (focus (intro w hSw; (try dsimp only at hSw); go_simp; (try with_reducible rfl))); (try simp only [List.getElem_toArray, List.getElem_cons_zero, List.getElem_cons_succ, Act.put, List.setIfInBounds_toArray, List.set_cons_zero, List.set_cons_succ])); (refine wpAnyH_take (i := 9) (v := ?_) rfl (by kernel_rfl) (by kernel_rfl) (by kernel_rfl) (fun _ _ _ h => h) (Or.inl ⟨by rfl, ?_⟩) (by assumption) ?_; rotate_left; (focus (intro w hSw; (try dsimp only at hSw); go_simp; (try with_reducible rfl))); (try simp only [List.getElem_toArray, List.getElem_cons_zero, List.getElem_cons_succ, Act.put, List.setIfInBounds_toArray, List.set_cons_zero, List.set_cons_succ])); (refine wpAnyH_take (i := 10) (v := ?_) rfl (by kernel_rfl) (by kernel_rfl) (by kernel_rfl) (fun _ _ _ h => h) (Or.inl ⟨by rfl, ?_⟩) (by assumption) ?_; rotate_left; (focus (intro w hSw; (try dsimp only at hSw); go_simp; (try with_reducible rfl))); (try simp only [List.getElem_toArray, List.getElem_cons_zero, List.getElem_cons_succ, Act.put, List.setIfInBounds_toArray, List.set_cons_zero, List.set_cons_succ]))
  refine wpAnyH_ready (rs := [2]) (by kernel_rfl) (by simp) ?_; refine AllReadyH.cons rfl (fun K hK => ?_) AllReadyH.nil; go_simp
  go_at_call 56
  refine (ktotals_any N _ S k _ (HBK.out.go (Below.refl _ _).drew) HR.out hk).mono ?_
  rw [HLO.out, HHI.out]
  rintro e w1 ⟨rfl, hb1⟩
  have HB1 : Hid (Below ws.heap.size ws w1) := (Below.refl _ _).drew.trans hb1
  have hS1 := HSX.out w1 HB1.out
  clear hb1
  refine hK.out _ _ hS1 (fun hHeld => ?_); clear hK K; (try simp only [List.getElem_toArray, List.getElem_cons_zero, List.getElem_cons_succ, Act.put, List.setIfInBounds_toArray, List.set_cons_zero, List.set_cons_succ])
  refine wpAnyH_ready (rs := [3]) (by kernel_rfl) (by simp) ?_; refine AllReadyH.cons rfl (fun K hK => ?_) AllReadyH.nil; go_simp
  refine hK.out _ _ hS1 (fun hHeld => ?_); clear hK K; (try simp only [List.getElem_toArray, List.getElem_cons_zero, List.getElem_cons_succ, Act.put, List.setIfInBounds_toArray, List.set_cons_zero, List.set_cons_succ])
  (refine wpAnyH_take (i := 11) (v := ?_) rfl (by kernel_rfl) (by kernel_rfl) (by kernel_rfl) (fun _ _ _ h => h) (Or.inl ⟨by rfl, ?_⟩) (by assumption) ?_; rotate_left; (focus (intro w hSw; (try dsimp only at hSw); go_simp; (try with_reducible rfl))); (try simp only [List.getElem_toArray, List.getElem_cons_zero, List.getElem_cons_succ, Act.put, List.setIfInBounds_toArray, List.set_cons_zero, List.set_cons_succ]))
  have hz2 := (HB1.out.block _ hsz1).trans HZ1.out
  have x0 := cell_blk hz2 0 rfl
  have x1 := cell_blk hz2 1 rfl
  have y0 := free_blk hz2 0
  have y1 := free_blk hz2 1
  refine wpAnyH_ready (rs := [12]) (by kernel_rfl) (by simp) ?_; refine AllReadyH.cons rfl (fun K hK => ?_) AllReadyH.nil; go_simp
  obtain ⟨w5, hw5, hz5, ho5, hb5⟩ := put2o hz2 (.int .i64 hi) (.int .i64 sz)
  rw [hw5]
  have hc5 : ∀ b o, b ≠ w.heap.size + 1 → w5.cell? ⟨b, o, none⟩ = w1.cell? ⟨b, o, none⟩ := fun b o hne => World.cell?_of_block (w := w1) (ho5 b hne)
  have hS5 : ((w5.cell? ⟨w.heap.size, 0, none⟩ = some (.int .i64 S.J) ∧ w5.cell? ⟨w.heap.size, 1, none⟩ = some (.int .i64 S.D) ∧ w5.cell? ⟨w.heap.size, 2, none⟩ = some (.int .i64 S.Z) ∧ w5.cell? ⟨w.heap.size, 3, none⟩ = some (.slice (some ⟨b, off, none⟩) S.np c1))) ∧ w5.cell? ⟨b, off + k * 2, none⟩ = some (.int .i64 sz) := ⟨⟨(hc5 _ _ HNW.out.2).trans hS1.1.1, (hc5 _ _ HNW.out.2).trans hS1.1.2.1, (hc5 _ _ HNW.out.2).trans hS1.1.2.2.1, (hc5 _ _ HNW.out.2).trans hS1.1.2.2.2⟩, (hc5 _ _ HNW.out.1).trans hS1.2⟩
  have HZ5 := Lib.hid hz5
  have HB5 : Hid (Below w.heap.size w w5) := HB.out.trans ((HB1.out.mono HB.out.size).trans (hb5.mono (by omega)))
  clear hw5 hz5 ho5 hb5 hc5 hS1 x0 x1 y0 y1 hz2
  refine hK.out _ _ hS5 (fun hHeld => ?_); clear hK K; (try simp only [List.getElem_toArray, List.getElem_cons_zero, List.getElem_cons_succ, Act.put, List.setIfInBounds_toArray, List.set_cons_zero, List.set_cons_succ])
  refine wpAnyH_done (by kernel_rfl) ?_ _; clear hHeld
  have r0 := cell_blk HZ5.out 0 rfl
  have r1 := cell_blk HZ5.out 1 rfl
  go_wp2_with fail
  exact bodyPost_ret (v := .agg #[.int .i64 hi, .int .i64 sz]) (by simp [results, Try.results82, go_sem, r0, r1]) rfl ⟨by first | rw [HLO.out] | rw [HHI.out], HB5.out⟩

/-- how many others are better -/
def oth (S : JB) (g : Nat → Int) (p : Nat) (t : Int) (j : Nat) : Bool := decide (j ≠ p) && btr S.sz j p (g j) t
theorem oth_place (S : JB) (g : Nat → Int) (p : Nat) (t : Int) : placeN (upd g p t) S.sz S.np p = cnt S.np (oth S g p t) + 1 := by
  unfold placeN
  rw [cnt_range]
  congr 1
  refine cnt_congr fun j _ => ?_
  unfold oth
  by_cases e : j = p
  · subst e; rw [bet_irr]; simp
  · rw [btr_bet, upd_ne e, upd_at, decide_eq_true e]; rfl
theorem scB_btr (S : JB) (j p : Nat) (a b : Int) : scB a (S.sz j) b (S.sz p) = btr S.sz j p a b := rfl

set_option maxHeartbeats 6400000 in
set_option maxRecDepth 100000 in
theorem placeL_any (N M : Nat) (v u : Value) (S : JB) (p : Nat) (t : Int) (w : World) (h : ShowAt N w v S) (hu : ShowAt M w u S) (hR : RdJ S) (hp : p < S.np) :
    Calls Try.prog 81 #[v, .int .i64 p, .agg #[.int .i64 t, .int .i64 (S.sz p)], .func (.func 83) #[u] #[]] w fun e w' => e = .returned (.int .i64 (placeN (upd (loT S) p t) S.sz S.np p)) ∧ Below w.heap.size w w' := by
  obtain ⟨sz, hsz'⟩ : ∃ x, S.sz p = x := ⟨_, rfl⟩
  have HSZ := Lib.hid hsz'
  obtain ⟨a1, c1, rfl⟩ := h.form
  rw [hsz']
  obtain ⟨ws, hws, HB, hsz, hsz1, hblk, hblk1⟩ := box2 w (.cells #[.int .i64 S.J, .int .i64 S.D, .int .i64 S.Z, .slice a1 S.np c1] 74) (.cells #[.int .i64 t, .int .i64 sz] 97)
  have q0 := cell_blk hblk 0 rfl
  have q1 := cell_blk hblk 1 rfl
  have q2 := cell_blk hblk 2 rfl
  have q3 := cell_blk hblk 3 rfl
  have p0 := cell_blk hblk1 0 rfl
  have p1 := cell_blk hblk1 1 rfl
  have HBU := Lib.hid (hu.go HB.out)
  have HB0 : Hid (Below ws.heap.size ws ws) := Below.refl _ _
  have hlen := h.len
  have HR := Lib.hid hR
  have hn40 : S.np ≤ 40 := hR.rd.np
  have HPL := Lib.hid (oth_place S (loT S) p t)
  clear hblk hblk1 h hu hR hsz'
  go_enter Try.func81, Try.ntmps81
  go_wp2_with fail
  clear hws
  go_loopw [9, 15] (fun c i wr => ∃ k m : Nat, k ≤ S.np ∧ m ≤ k ∧ i = .int .i64 k ∧ c = .int .i64 ((m : Int) + 1) ∧ Hid (m = cnt k (oth S (loT S) p t)) ∧ Hid (Below ws.heap.size ws wr)) (fun _ i _ => S.np - (intOf i).toNat)
  case atStart => exact ⟨0, 0, Nat.zero_le _, Nat.le_refl _, rfl, rfl, rfl, HB0⟩
  case round =>
    obtain ⟨k, m, hk, hmk, rfl, rfl, HM, HBr⟩ := hrel
    by_cases hkn : k < S.np
    · have hki : (k : Int) < (S.np : Int) := by omega
      by_cases hkp : k = p
      · have hkb : ((k : Int) != (p : Int)) = false := by simp [hkp]
        have HO : Hid (oth S (loT S) p t k = false) := by unfold Hid oth; rw [decide_eq_false (by simpa using hkp)]; rfl
        clear hkp
        go_upto_region 5 with fail
        refine wp_region_held_drew (S := fun _ => True) (by kernel_rfl) trivial (fun hHeld => ?_)
        (refine wpAnyH_take (i := 0) (v := ?_) rfl (by kernel_rfl) (by kernel_rfl) (by kernel_rfl) (fun _ _ _ h => h) (Or.inl ⟨by rfl, ?_⟩) (by assumption) ?_; rotate_left; (focus (intro w hSw; (try dsimp only at hSw); go_simp; (try with_reducible rfl))); (try simp only [List.getElem_toArray, List.getElem_cons_zero, List.getElem_cons_succ, Act.put, List.setIfInBounds_toArray, List.set_cons_zero, List.set_cons_succ])); (refine wpAnyH_take (i := 1) (v := ?_) rfl (by kernel_rfl) (by kernel_rfl) (by kernel_rfl) (fun _ _ _ h => h) (Or.inl ⟨by rfl, ?_⟩) (by assumption) ?_; rotate_left; (focus (intro w hSw; (try dsimp only at hSw); go_simp; (try with_reducible rfl))); (try simp only [List.getElem_toArray, List.getElem_cons_zero, List.getElem_cons_succ, Act.put, List.setIfInBounds_toArray, List.set_cons_zero, List.set_cons_succ])); (refine wpAnyH_take (i := 2) (v := ?_) rfl (by kernel_rfl) (by kernel_rfl) (by kernel_rfl) (fun _ _ _ h => h) (Or.inl ⟨by rfl, ?_⟩) (by assumption) ?_; rotate_left; (focus (intro w hSw; (try dsimp only at hSw); go_simp; (try with_reducible rfl))); (try simp only [List.getElem_toArray, List.getElem_cons_zero, List.getElem_cons_succ, Act.put, List.setIfInBounds_toArray, List.set_cons_zero, List.set_cons_succ])); (refine wpAnyH_take (i := 3) (v := ?_) rfl (by kernel_rfl) (by kernel_rfl) (by kernel_rfl) (fun _ _ _ h => h) (Or.inl ⟨by rfl, ?_⟩) (by assumption) ?_; rotate_left; (focus (intro w hSw; (try dsimp only at hSw); go_simp; (try with_reducible rfl))); (try simp only [List.getElem_toArray, List.getElem_cons_zero, List.getElem_cons_succ, Act.put, List.setIfInBounds_toArray, List.set_cons_zero, List.set_cons_succ]))
        (refine wpAnyH_take (i := 4) (v := undef) rfl (by kernel_rfl) (by kernel_rfl) (by kernel_rfl) (fun _ _ _ h => h) (Or.inr ⟨by rfl, rfl⟩) (by assumption) ?_; (try simp only [List.getElem_toArray, List.getElem_cons_zero, List.getElem_cons_succ, Act.put, List.setIfInBounds_toArray, List.set_cons_zero, List.set_cons_succ])); (refine wpAnyH_take (i := 5) (v := undef) rfl (by kernel_rfl) (by kernel_rfl) (by kernel_rfl) (fun _ _ _ h => h) (Or.inr ⟨by rfl, rfl⟩) (by assumption) ?_; (try simp only [List.getElem_toArray, List.getElem_cons_zero, List.getElem_cons_succ, Act.put, List.setIfInBounds_toArray, List.set_cons_zero, List.set_cons_succ])); (refine wpAnyH_take (i := 6) (v := undef) rfl (by kernel_rfl) (by kernel_rfl) (by kernel_rfl) (fun _ _ _ h => h) (Or.inr ⟨by rfl, rfl⟩) (by assumption) ?_; (try simp only [List.getElem_toArray, List.getElem_cons_zero, List.getElem_cons_succ, Act.put, List.setIfInBounds_toArray, List.set_cons_zero, List.set_cons_succ])); (refine wpAnyH_take (i := 7) (v := undef) rfl (by kernel_rfl) (by kernel_rfl) (by kernel_rfl) (fun _ _ _ h => h) (Or.inr ⟨by rfl, rfl⟩) (by assumption) ?_; (try simp only [List.getElem_toArray, List.getElem_cons_zero, List.getElem_cons_succ, Act.put, List.setIfInBounds_toArray, List.set_cons_zero, List.set_cons_succ])); (refine wpAnyH_take (i := 8) (v := undef) rfl (by kernel_rfl) (by kernel_rfl) (by kernel_rfl) (fun _ _ _ h => h) (Or.inr ⟨by rfl, rfl⟩) (by assumption) ?_; (try simp only [List.getElem_toArray, List.getElem_cons_zero, List.getElem_cons_succ, Act.put, List.setIfInBounds_toArray, List.set_cons_zero, List.set_cons_succ]))
        (refine wpAnyH_take (i := 9) (v := ?_) rfl (by kernel_rfl) (by kernel_rfl) (by kernel_rfl) (fun _ _ _ h => h) (Or.inl ⟨by rfl, ?_⟩) (by assumption) ?_; rotate_left; (focus (intro w hSw; (try dsimp only at hSw); go_simp; (try with_reducible rfl))); (try simp only [List.getElem_toArray, List.getElem_cons_zero, List.getElem_cons_succ, Act.put, List.setIfInBounds_toArray, List.set_cons_zero, List.set_cons_succ]))
        refine wpAnyH_done (by kernel_rfl) ?_ _; clear hHeld
        go_wp2_with fail
        go_roundw
        case rel => exact ⟨k + 1, m, by omega, by omega, by go_num, rfl, by unfold Hid; rw [cnt_miss (p := oth S (loT S) p t) HO.out, ← HM.out], HBr.out.drew⟩
        case measure => simp [intOf]; omega
      · have hkb : ((k : Int) != (p : Int)) = true := by simp; omega
        have HO : Hid (oth S (loT S) p t k = scB (loT S k) (S.sz k) t sz) := by unfold Hid oth; rw [decide_eq_true hkp, ← HSZ.out, scB_btr]; rfl
        clear hkp
        obtain ⟨gk, hgk⟩ : ∃ x, loT S k = x := ⟨_, rfl⟩
        obtain ⟨sk, hsk⟩ : ∃ x, S.sz k = x := ⟨_, rfl⟩
        have HGK := Lib.hid hgk
        have HSK := Lib.hid hsk
        rw [hgk, hsk] at HO
        obtain ⟨bb, hbb⟩ : ∃ bb, scB gk sk t sz = bb := ⟨_, rfl⟩
        have HBB := Lib.hid hbb
        rw [hbb] at HO
        clear hgk hsk hbb
        go_upto_region 5 with fail
        have hSP : ∀ W, Below ws.heap.size ws W → (W.cell? ⟨w.heap.size + 1, 0, none⟩ = some (.int .i64 t) ∧ W.cell? ⟨w.heap.size + 1, 1, none⟩ = some (.int .i64 sz)) := fun W hW => ⟨(hW.cell (p := ⟨w.heap.size + 1, 0, none⟩) hsz1).trans p0, (hW.cell (p := ⟨w.heap.size + 1, 1, none⟩) hsz1).trans p1⟩
        have HSP := Lib.hid hSP
        have hS0 := hSP wr.drew HBr.out.drew
        clear hSP
        refine wp_region_held_drew (S := fun W => W.cell? ⟨w.heap.size + 1, 0, none⟩ = some (.int .i64 t) ∧ W.cell? ⟨w.heap.size + 1, 1, none⟩ = some (.int .i64 sz)) (by kernel_rfl) hS0 (fun hHeld => ?_)
        (refine wpAnyH_take (i := 0) (v := ?_) rfl (by kernel_rfl) (by kernel_rfl) (by kernel_rfl) (fun _ _ _ h => h) (Or.inl ⟨by rfl, ?_⟩) (by assumption) ?_; rotate_left; (focus (intro w hSw; (try dsimp only at hSw); go_simp; (try with_reducible rfl))); (try simp only [List.getElem_toArray, List.getElem_cons_zero, List.getElem_cons_succ, Act.put, List.setIfInBounds_toArray, List.set_cons_zero, List.set_cons_succ])); (refine wpAnyH_take (i := 1) (v := ?_) rfl (by kernel_rfl) (by kernel_rfl) (by kernel_rfl) (fun _ _ _ h => h) (Or.inl ⟨by rfl, ?_⟩) (by assumption) ?_; rotate_left; (focus (intro w hSw; (try dsimp only at hSw); go_simp; (try with_reducible rfl))); (try simp only [List.getElem_toArray, List.getElem_cons_zero, List.getElem_cons_succ, Act.put, List.setIfInBounds_toArray, List.set_cons_zero, List.set_cons_succ])); (refine wpAnyH_take (i := 2) (v := ?_) rfl (by kernel_rfl) (by kernel_rfl) (by kernel_rfl) (fun _ _ _ h => h) (Or.inl ⟨by rfl, ?_⟩) (by assumption) ?_; rotate_left; (focus (intro w hSw; (try dsimp only at hSw); go_simp; (try with_reducible rfl))); (try simp only [List.getElem_toArray, List.getElem_cons_zero, List.getElem_cons_succ, Act.put, List.setIfInBounds_toArray, List.set_cons_zero, List.set_cons_succ])); (refine wpAnyH_take (i := 3) (v := ?_) rfl (by kernel_rfl) (by kernel_rfl) (by kernel_rfl) (fun _ _ _ h => h) (Or.inl ⟨by rfl, ?_⟩) (by assumption) ?_; rotate_left; (focus (intro w hSw; (try dsimp only at hSw); go_simp; (try with_reducible rfl))); (try simp only [List.getElem_toArray, List.getElem_cons_zero, List.getElem_cons_succ, Act.put, List.setIfInBounds_toArray, List.set_cons_zero, List.set_cons_succ])); (refine wpAnyH_take (i := 4) (v := ?_) rfl (by kernel_rfl) (by kernel_rfl) (by kernel_rfl) (fun _ _ _ h => h) (Or.inl ⟨by rfl, ?_⟩) (by assumption) ?_; rotate_left; (focus (intro w hSw; (try dsimp only at hSw); go_simp; (try with_reducible rfl))); (try simp only [List.getElem_toArray, List.getElem_cons_zero, List.getElem_cons_succ, Act.put, List.setIfInBounds_toArray, List.set_cons_zero, List.set_cons_succ])); (refine wpAnyH_take (i := 5) (v := ?_) rfl (by kernel_rfl) (by kernel_rfl) (by kernel_rfl) (fun _ _ _ h => h) (Or.inl ⟨by rfl, ?_⟩) (by assumption) ?_; rotate_left; (focus (intro w hSw; (try dsimp only at hSw); go_simp; (try with_reducible rfl))); (try simp only [List.getElem_toArray, List.getElem_cons_zero, List.getElem_cons_succ, Act.put, List.setIfInBounds_toArray, List.set_cons_zero, List.set_cons_succ]))
        (refine wpAnyH_take (i := 7) (v := ?_) rfl (by kernel_rfl) (by kernel_rfl) (by kernel_rfl) (fun _ _ _ h => h) (Or.inl ⟨by rfl, ?_⟩) (by assumption) ?_; rotate_left; (focus (intro w hSw; (try dsimp only at hSw); go_simp; (try with_reducible rfl))); (try simp only [List.getElem_toArray, List.getElem_cons_zero, List.getElem_cons_succ, Act.put, List.setIfInBounds_toArray, List.set_cons_zero, List.set_cons_succ]))
        refine wpAnyH_ready (rs := [6]) (by kernel_rfl) (by simp) ?_; refine AllReadyH.cons rfl (fun K hK => ?_) AllReadyH.nil; go_simp
        go_at_call 83
        refine (kleast_any M _ S k _ (HBU.out.go HBr.out.drew) HR.out hkn).mono ?_
        rw [HGK.out, HSK.out]
        rintro e w1 ⟨rfl, hb1⟩
        have HB1 : Hid (Below ws.heap.size ws w1) := bel HBr.out.drew hb1
        have hS1 := HSP.out w1 HB1.out
        clear hb1
        refine hK.out _ _ hS1 (fun hHeld => ?_); clear hK K; (try simp only [List.getElem_toArray, List.getElem_cons_zero, List.getElem_cons_succ, Act.put, List.setIfInBounds_toArray, List.set_cons_zero, List.set_cons_succ])
        refine wpAnyH_ready (rs := [8]) (by kernel_rfl) (by simp) ?_; refine AllReadyH.cons rfl (fun K hK => ?_) AllReadyH.nil; go_simp
        go_at_call 85
        refine (sbetter_any gk sk t sz _).mono ?_
        rw [HBB.out]
        rintro e w2 ⟨rfl, hb2⟩
        have HB2 : Hid (Below ws.heap.size ws w2) := bel HB1.out hb2
        have hS2 := HSP.out w2 HB2.out
        clear hb2 hS1
        refine hK.out _ _ hS2 (fun hHeld => ?_); clear hK K; (try simp only [List.getElem_toArray, List.getElem_cons_zero, List.getElem_cons_succ, Act.put, List.setIfInBounds_toArray, List.set_cons_zero, List.set_cons_succ])
        (refine wpAnyH_take (i := 9) (v := ?_) rfl (by kernel_rfl) (by kernel_rfl) (by kernel_rfl) (fun _ _ _ h => h) (Or.inl ⟨by rfl, ?_⟩) (by assumption) ?_; rotate_left; (focus (intro w hSw; (try dsimp only at hSw); go_simp; (try with_reducible rfl))); (try simp only [List.getElem_toArray, List.getElem_cons_zero, List.getElem_cons_succ, Act.put, List.setIfInBounds_toArray, List.set_cons_zero, List.set_cons_succ]))
        refine wpAnyH_done (by kernel_rfl) ?_ _; clear hHeld
        clear hS2
        cases bb with
        | true =>
          go_wp2_with fail
          go_roundw
          case rel => exact ⟨k + 1, m + 1, by omega, by omega, by go_num, by go_num, by unfold Hid; rw [cnt_hit (p := oth S (loT S) p t) HO.out, ← HM.out], HB2.out⟩
          case measure => simp [intOf]; omega
        | false =>
          go_wp2_with fail
          go_roundw
          case rel => exact ⟨k + 1, m, by omega, by omega, by go_num, rfl, by unfold Hid; rw [cnt_miss (p := oth S (loT S) p t) HO.out, ← HM.out], HB2.out⟩
          case measure => simp [intOf]; omega
    · have hki : ¬ (k : Int) < (S.np : Int) := by omega
      have hke : k = S.np := by omega
      have HKE := Lib.hid hke
      clear hke
      go_wp2_with fail
      go_ret
      exact ⟨ret_int (by rw [HPL.out, HM.out, HKE.out]; simp), fin HB.out HBr.out⟩
set_option maxHeartbeats 6400000 in
set_option maxRecDepth 100000 in
theorem placeM_any (N M : Nat) (v u : Value) (S : JB) (p : Nat) (t : Int) (w : World) (h : ShowAt N w v S) (hu : ShowAt M w u S) (hR : RdJ S) (hp : p < S.np) :
    Calls Try.prog 81 #[v, .int .i64 p, .agg #[.int .i64 t, .int .i64 (S.sz p)], .func (.func 82) #[u] #[]] w fun e w' => e = .returned (.int .i64 (placeN (upd (hiT S) p t) S.sz S.np p)) ∧ Below w.heap.size w w' := by
  obtain ⟨sz, hsz'⟩ : ∃ x, S.sz p = x := ⟨_, rfl⟩
  have HSZ := Lib.hid hsz'
  obtain ⟨a1, c1, rfl⟩ := h.form
  rw [hsz']
  obtain ⟨ws, hws, HB, hsz, hsz1, hblk, hblk1⟩ := box2 w (.cells #[.int .i64 S.J, .int .i64 S.D, .int .i64 S.Z, .slice a1 S.np c1] 74) (.cells #[.int .i64 t, .int .i64 sz] 97)
  have q0 := cell_blk hblk 0 rfl
  have q1 := cell_blk hblk 1 rfl
  have q2 := cell_blk hblk 2 rfl
  have q3 := cell_blk hblk 3 rfl
  have p0 := cell_blk hblk1 0 rfl
  have p1 := cell_blk hblk1 1 rfl
  have HBU := Lib.hid (hu.go HB.out)
  have HB0 : Hid (Below ws.heap.size ws ws) := Below.refl _ _
  have hlen := h.len
  have HR := Lib.hid hR
  have hn40 : S.np ≤ 40 := hR.rd.np
  have HPL := Lib.hid (oth_place S (hiT S) p t)
  clear hblk hblk1 h hu hR hsz'
  go_enter Try.func81, Try.ntmps81
  go_wp2_with fail
  clear hws
  go_loopw [9, 15] (fun c i wr => ∃ k m : Nat, k ≤ S.np ∧ m ≤ k ∧ i = .int .i64 k ∧ c = .int .i64 ((m : Int) + 1) ∧ Hid (m = cnt k (oth S (hiT S) p t)) ∧ Hid (Below ws.heap.size ws wr)) (fun _ i _ => S.np - (intOf i).toNat)
  case atStart => exact ⟨0, 0, Nat.zero_le _, Nat.le_refl _, rfl, rfl, rfl, HB0⟩
  case round =>
    obtain ⟨k, m, hk, hmk, rfl, rfl, HM, HBr⟩ := hrel
    by_cases hkn : k < S.np
    · have hki : (k : Int) < (S.np : Int) := by omega
      by_cases hkp : k = p
      · have hkb : ((k : Int) != (p : Int)) = false := by simp [hkp]
        have HO : Hid (oth S (hiT S) p t k = false) := by unfold Hid oth; rw [decide_eq_false (by simpa using hkp)]; rfl
        clear hkp
        go_upto_region 5 with fail
        refine wp_region_held_drew (S := fun _ => True) (by kernel_rfl) trivial (fun hHeld => ?_)
        (refine wpAnyH_take (i := 0) (v := ?_) rfl (by kernel_rfl) (by kernel_rfl) (by kernel_rfl) (fun _ _ _ h => h) (Or.inl ⟨by rfl, ?_⟩) (by assumption) ?_; rotate_left; (focus (intro w hSw; (try dsimp only at hSw); go_simp; (try with_reducible rfl))); (try simp only [List.getElem_toArray, List.getElem_cons_zero, List.getElem_cons_succ, Act.put, List.setIfInBounds_toArray, List.set_cons_zero, List.set_cons_succ])); (refine wpAnyH_take (i := 1) (v := ?_) rfl (by kernel_rfl) (by kernel_rfl) (by kernel_rfl) (fun _ _ _ h => h) (Or.inl ⟨by rfl, ?_⟩) (by assumption) ?_; rotate_left; (focus (intro w hSw; (try dsimp only at hSw); go_simp; (try with_reducible rfl))); (try simp only [List.getElem_toArray, List.getElem_cons_zero, List.getElem_cons_succ, Act.put, List.setIfInBounds_toArray, List.set_cons_zero, List.set_cons_succ])); (refine wpAnyH_take (i := 2) (v := ?_) rfl (by kernel_rfl) (by kernel_rfl) (by kernel_rfl) (fun _ _ _ h => h) (Or.inl ⟨by rfl, ?_⟩) (by assumption) ?_; rotate_left; (focus (intro w hSw; (try dsimp only at hSw); go_simp; (try with_reducible rfl))); (try simp only [List.getElem_toArray, List.getElem_cons_zero, List.getElem_cons_succ, Act.put, List.setIfInBounds_toArray, List.set_cons_zero, List.set_cons_succ])); (refine wpAnyH_take (i := 3) (v := ?_) rfl (by kernel_rfl) (by kernel_rfl) (by kernel_rfl) (fun _ _ _ h => h) (Or.inl ⟨by rfl, ?_⟩) (by assumption) ?_; rotate_left; (focus (intro w hSw; (try dsimp only at hSw); go_simp; (try with_reducible rfl))); (try simp only [List.getElem_toArray, List.getElem_cons_zero, List.getElem_cons_succ, Act.put, List.setIfInBounds_toArray, List.set_cons_zero, List.set_cons_succ]))
        (refine wpAnyH_take (i := 4) (v := undef) rfl (by kernel_rfl) (by kernel_rfl) (by kernel_rfl) (fun _ _ _ h => h) (Or.inr ⟨by rfl, rfl⟩) (by assumption) ?_; (try simp only [List.getElem_toArray, List.getElem_cons_zero, List.getElem_cons_succ, Act.put, List.setIfInBounds_toArray, List.set_cons_zero, List.set_cons_succ])); (refine wpAnyH_take (i := 5) (v := undef) rfl (by kernel_rfl) (by kernel_rfl) (by kernel_rfl) (fun _ _ _ h => h) (Or.inr ⟨by rfl, rfl⟩) (by assumption) ?_; (try simp only [List.getElem_toArray, List.getElem_cons_zero, List.getElem_cons_succ, Act.put, List.setIfInBounds_toArray, List.set_cons_zero, List.set_cons_succ])); (refine wpAnyH_take (i := 6) (v := undef) rfl (by kernel_rfl) (by kernel_rfl) (by kernel_rfl) (fun _ _ _ h => h) (Or.inr ⟨by rfl, rfl⟩) (by assumption) ?_; (try simp only [List.getElem_toArray, List.getElem_cons_zero, List.getElem_cons_succ, Act.put, List.setIfInBounds_toArray, List.set_cons_zero, List.set_cons_succ])); (refine wpAnyH_take (i := 7) (v := undef) rfl (by kernel_rfl) (by kernel_rfl) (by kernel_rfl) (fun _ _ _ h => h) (Or.inr ⟨by rfl, rfl⟩) (by assumption) ?_; (try simp only [List.getElem_toArray, List.getElem_cons_zero, List.getElem_cons_succ, Act.put, List.setIfInBounds_toArray, List.set_cons_zero, List.set_cons_succ])); (refine wpAnyH_take (i := 8) (v := undef) rfl (by kernel_rfl) (by kernel_rfl) (by kernel_rfl) (fun _ _ _ h => h) (Or.inr ⟨by rfl, rfl⟩) (by assumption) ?_; (try simp only [List.getElem_toArray, List.getElem_cons_zero, List.getElem_cons_succ, Act.put, List.setIfInBounds_toArray, List.set_cons_zero, List.set_cons_succ]))
        (refine wpAnyH_take (i := 9) (v := ?_) rfl (by kernel_rfl) (by kernel_rfl) (by kernel_rfl) (fun _ _ _ h => h) (Or.inl ⟨by rfl, ?_⟩) (by assumption) ?_; rotate_left; (focus (intro w hSw; (try dsimp only at hSw); go_simp; (try with_reducible rfl))); (try simp only [List.getElem_toArray, List.getElem_cons_zero, List.getElem_cons_succ, Act.put, List.setIfInBounds_toArray, List.set_cons_zero, List.set_cons_succ]))
        refine wpAnyH_done (by kernel_rfl) ?_ _; clear hHeld
        go_wp2_with fail
        go_roundw
        case rel => exact ⟨k + 1, m, by omega, by omega, by go_num, rfl, by unfold Hid; rw [cnt_miss (p := oth S (hiT S) p t) HO.out, ← HM.out], HBr.out.drew⟩
        case measure => simp [intOf]; omega
      · have hkb : ((k : Int) != (p : Int)) = true := by simp; omega
        have HO : Hid (oth S (hiT S) p t k = scB (hiT S k) (S.sz k) t sz) := by unfold Hid oth; rw [decide_eq_true hkp, ← HSZ.out, scB_btr]; rfl
        clear hkp
        obtain ⟨gk, hgk⟩ : ∃ x, hiT S k = x := ⟨_, rfl⟩
        obtain ⟨sk, hsk⟩ : ∃ x, S.sz k = x := ⟨_, rfl⟩
        have HGK := Lib.hid hgk
        have HSK := Lib.hid hsk
        rw [hgk, hsk] at HO
        obtain ⟨bb, hbb⟩ : ∃ bb, scB gk sk t sz = bb := ⟨_, rfl⟩
        have HBB := Lib.hid hbb
        rw [hbb] at HO
        clear hgk hsk hbb
        go_upto_region 5 with fail
        have hSP : ∀ W, Below ws.heap.size ws W → (W.cell? ⟨w.heap.size + 1, 0, none⟩ = some (.int .i64 t) ∧ W.cell? ⟨w.heap.size + 1, 1, none⟩ = some (.int .i64 sz)) := fun W hW => ⟨(hW.cell (p := ⟨w.heap.size + 1, 0, none⟩) hsz1).trans p0, (hW.cell (p := ⟨w.heap.size + 1, 1, none⟩) hsz1).trans p1⟩
        have HSP := Lib.hid hSP
        have hS0 := hSP wr.drew HBr.out.drew
        clear hSP
        refine wp_region_held_drew (S := fun W => W.cell? ⟨w.heap.size + 1, 0, none⟩ = some (.int .i64 t) ∧ W.cell? ⟨w.heap.size + 1, 1, none⟩ = some (.int .i64 sz)) (by kernel_rfl) hS0 (fun hHeld => ?_)
        (refine wpAnyH_take (i := 0) (v := ?_) rfl (by kernel_rfl) (by kernel_rfl) (by kernel_rfl) (fun _ _ _ h => h) (Or.inl ⟨by rfl, ?_⟩) (by assumption) ?_; rotate_left; (focus (intro w hSw; (try dsimp only at hSw); go_simp; (try with_reducible rfl))); (try simp only [List.getElem_toArray, List.getElem_cons_zero, List.getElem_cons_succ, Act.put, List.setIfInBounds_toArray, List.set_cons_zero, List.set_cons_succ])); (refine wpAnyH_take (i := 1) (v := ?_) rfl (by kernel_rfl) (by kernel_rfl) (by kernel_rfl) (fun _ _ _ h => h) (Or.inl ⟨by rfl, ?_⟩) (by assumption) ?_; rotate_left; (focus (intro w hSw; (try dsimp only at hSw); go_simp; (try with_reducible rfl))); (try simp only [List.getElem_toArray, List.getElem_cons_zero, List.getElem_cons_succ, Act.put, List.setIfInBounds_toArray, List.set_cons_zero, List.set_cons_succ])); (refine wpAnyH_take (i := 2) (v := ?_) rfl (by kernel_rfl) (by kernel_rfl) (by kernel_rfl) (fun _ _ _ h => h) (Or.inl ⟨by rfl, ?_⟩) (by assumption) ?_; rotate_left; (focus (intro w hSw; (try dsimp only at hSw); go_simp; (try with_reducible rfl))); (try simp only [List.getElem_toArray, List.getElem_cons_zero, List.getElem_cons_succ, Act.put, List.setIfInBounds_toArray, List.set_cons_zero, List.set_cons_succ])); (refine wpAnyH_take (i := 3) (v := ?_) rfl (by kernel_rfl) (by kernel_rfl) (by kernel_rfl) (fun _ _ _ h => h) (Or.inl ⟨by rfl, ?_⟩) (by assumption) ?_; rotate_left; (focus (intro w hSw; (try dsimp only at hSw); go_simp; (try with_reducible rfl))); (try simp only [List.getElem_toArray, List.getElem_cons_zero, List.getElem_cons_succ, Act.put, List.setIfInBounds_toArray, List.set_cons_zero, List.set_cons_succ])); (refine wpAnyH_take (i := 4) (v := ?_) rfl (by kernel_rfl) (by kernel_rfl) (by kernel_rfl) (fun _ _ _ h => h) (Or.inl ⟨by rfl, ?_⟩) (by assumption) ?_; rotate_left; (focus (intro w hSw; (try dsimp only at hSw); go_simp; (try with_reducible rfl))); (try simp only [List.getElem_toArray, List.getElem_cons_zero, List.getElem_cons_succ, Act.put, List.setIfInBounds_toArray, List.set_cons_zero, List.set_cons_succ])); (refine wpAnyH_take (i := 5) (v := ?_) rfl (by kernel_rfl) (by kernel_rfl) (by kernel_rfl) (fun _ _ _ h => h) (Or.inl ⟨by rfl, ?_⟩) (by assumption) ?_; rotate_left; (focus (intro w hSw; (try dsimp only at hSw); go_simp; (try with_reducible rfl))); (try simp only [List.getElem_toArray, List.getElem_cons_zero, List.getElem_cons_succ, Act.put, List.setIfInBounds_toArray, List.set_cons_zero, List.set_cons_succ]))
        (refine wpAnyH_take (i := 7) (v := ?_) rfl (by kernel_rfl) (by kernel_rfl) (by kernel_rfl) (fun _ _ _ h => h) (Or.inl ⟨by rfl, ?_⟩) (by assumption) ?_; rotate_left; (focus (intro w hSw; (try dsimp only at hSw); go_simp; (try with_reducible rfl))); (try simp only [List.getElem_toArray, List.getElem_cons_zero, List.getElem_cons_succ, Act.put, List.setIfInBounds_toArray, List.set_cons_zero, List.set_cons_succ]))
        refine wpAnyH_ready (rs := [6]) (by kernel_rfl) (by simp) ?_; refine AllReadyH.cons rfl (fun K hK => ?_) AllReadyH.nil; go_simp
        go_at_call 82
        refine (kmost_any M _ S k _ (HBU.out.go HBr.out.drew) HR.out hkn).mono ?_
        rw [HGK.out, HSK.out]
        rintro e w1 ⟨rfl, hb1⟩
        have HB1 : Hid (Below ws.heap.size ws w1) := bel HBr.out.drew hb1
        have hS1 := HSP.out w1 HB1.out
        clear hb1
        refine hK.out _ _ hS1 (fun hHeld => ?_); clear hK K; (try simp only [List.getElem_toArray, List.getElem_cons_zero, List.getElem_cons_succ, Act.put, List.setIfInBounds_toArray, List.set_cons_zero, List.set_cons_succ])
        refine wpAnyH_ready (rs := [8]) (by kernel_rfl) (by simp) ?_; refine AllReadyH.cons rfl (fun K hK => ?_) AllReadyH.nil; go_simp
        go_at_call 85
        refine (sbetter_any gk sk t sz _).mono ?_
        rw [HBB.out]
        rintro e w2 ⟨rfl, hb2⟩
        have HB2 : Hid (Below ws.heap.size ws w2) := bel HB1.out hb2
        have hS2 := HSP.out w2 HB2.out
        clear hb2 hS1
        refine hK.out _ _ hS2 (fun hHeld => ?_); clear hK K; (try simp only [List.getElem_toArray, List.getElem_cons_zero, List.getElem_cons_succ, Act.put, List.setIfInBounds_toArray, List.set_cons_zero, List.set_cons_succ])
        (refine wpAnyH_take (i := 9) (v := ?_) rfl (by kernel_rfl) (by kernel_rfl) (by kernel_rfl) (fun _ _ _ h => h) (Or.inl ⟨by rfl, ?_⟩) (by assumption) ?_; rotate_left; (focus (intro w hSw; (try dsimp only at hSw); go_simp; (try with_reducible rfl))); (try simp only [List.getElem_toArray, List.getElem_cons_zero, List.getElem_cons_succ, Act.put, List.setIfInBounds_toArray, List.set_cons_zero, List.set_cons_succ]))
        refine wpAnyH_done (by kernel_rfl) ?_ _; clear hHeld
        clear hS2
        cases bb with
        | true =>
          go_wp2_with fail
          go_roundw
          case rel => exact ⟨k + 1, m + 1, by omega, by omega, by go_num, by go_num, by unfold Hid; rw [cnt_hit (p := oth S (hiT S) p t) HO.out, ← HM.out], HB2.out⟩
          case measure => simp [intOf]; omega
        | false =>
          go_wp2_with fail
          go_roundw
          case rel => exact ⟨k + 1, m, by omega, by omega, by go_num, rfl, by unfold Hid; rw [cnt_miss (p := oth S (hiT S) p t) HO.out, ← HM.out], HB2.out⟩
          case measure => simp [intOf]; omega
    · have hki : ¬ (k : Int) < (S.np : Int) := by omega
      have hke : k = S.np := by omega
      have HKE := Lib.hid hke
      clear hke
      go_wp2_with fail
      go_ret
      exact ⟨ret_int (by rw [HPL.out, HM.out, HKE.out]; simp), fin HB.out HBr.out⟩


set_option maxHeartbeats 6400000 in
set_option maxRecDepth 100000 in
theorem kplaces_any (N : Nat) (v : Value) (S : JB) (k : Nat) (w : World) (h : ShowAt N w v S) (hR : RdJ S) (hk : k < S.np) :
    Calls Try.prog 57 #[v, .int .i64 k] w fun e w' => e = .returned (.agg #[.int .i64 (plLo S k), .int .i64 (plHi S k)]) ∧ Below w.heap.size w w' := by
  obtain ⟨a1, c1, rfl⟩ := h.form
  obtain ⟨ws, hws, HB, hsz, hsz1, hblk, hblk1⟩ := box2 w (.cells #[.int .i64 S.J, .int .i64 S.D, .int .i64 S.Z, .slice a1 S.np c1] 74) (.cells #[.int .i64 0, .int .i64 0] 30)
  have q0 := cell_blk hblk 0 rfl
  have q1 := cell_blk hblk 1 rfl
  have q2 := cell_blk hblk 2 rfl
  have q3 := cell_blk hblk 3 rfl
  have HNZ : Hid (N ≤ w.heap.size) := h.1
  have HBK := Lib.hid (h.go HB.out)
  have HB0 : Hid (Below ws.heap.size ws ws) := Below.refl _ _
  have HNS : Hid (N ≤ ws.heap.size) := HBK.out.1
  have HZ1 := Lib.hid hblk1
  have hlen := h.len
  have HSQ : Hid (∀ W, Below ws.heap.size ws W → (W.cell? ⟨w.heap.size, 0, none⟩ = some (.int .i64 S.J) ∧ W.cell? ⟨w.heap.size, 1, none⟩ = some (.int .i64 S.D) ∧ W.cell? ⟨w.heap.size, 2, none⟩ = some (.int .i64 S.Z) ∧ W.cell? ⟨w.heap.size, 3, none⟩ = some (.slice a1 S.np c1))) := fun W hW => ⟨(hW.cell (p := ⟨w.heap.size, 0, none⟩) hsz).trans q0, (hW.cell (p := ⟨w.heap.size, 1, none⟩) hsz).trans q1, (hW.cell (p := ⟨w.heap.size, 2, none⟩) hsz).trans q2, (hW.cell (p := ⟨w.heap.size, 3, none⟩) hsz).trans q3⟩
  clear hblk hblk1 h
  have HR := Lib.hid hR
  obtain ⟨lo, hlo⟩ : ∃ x, loT S k = x := ⟨_, rfl⟩
  obtain ⟨hi, hhi⟩ : ∃ x, hiT S k = x := ⟨_, rfl⟩
  obtain ⟨pl, hpl⟩ : ∃ x, plLo S k = x := ⟨_, rfl⟩
  obtain ⟨ph, hph⟩ : ∃ x, plHi S k = x := ⟨_, rfl⟩
  have HLO := Lib.hid hlo
  have HHI := Lib.hid hhi
  have HPL : Hid (placeN (upd (loT S) k hi) S.sz S.np k = pl) := by unfold Hid; rw [← hpl, ← hhi]; rfl
  have HPH : Hid (placeN (upd (hiT S) k lo) S.sz S.np k = ph) := by unfold Hid; rw [← hph, ← hlo]; rfl
  rw [hpl, hph]
  clear hR q0 q1 q2 q3 hlo hhi hpl hph
  go_enter Try.func57, Try.ntmps57
  go_upto_region 1 with fail
  clear hws
  have hS0 := HSQ.out ws.drew (Below.refl _ _).drew
  refine wp_region_held_drew (S := fun W => (W.cell? ⟨w.heap.size, 0, none⟩ = some (.int .i64 S.J) ∧ W.cell? ⟨w.heap.size, 1, none⟩ = some (.int .i64 S.D) ∧ W.cell? ⟨w.heap.size, 2, none⟩ = some (.int .i64 S.Z) ∧ W.cell? ⟨w.heap.size, 3, none⟩ = some (.slice a1 S.np c1))) (by kernel_rfl) hS0 (fun hHeld => ?_)
  (refine wpAnyH_take (i := 0) (v := ?_) rfl (by kernel_rfl) (by kernel_rfl) (by kernel_rfl) (fun _ _ _ h => h) (Or.inl ⟨by rfl, ?_⟩) (by assumption) ?_; rotate_left; (focus (intro w hSw; (try dsimp only at hSw); go_simp; (try with_reducible rfl))); (try simp only [List.getElem_toArray, List.getElem_cons_zero, List.getElem_cons_succ, Act.put, List.setIfInBounds_toArray, List.set_cons_zero, List.set_cons_succ])); (refine wpAnyH_take (i := 1) (v := ?_) rfl (by kernel_rfl) (by kernel_rfl) (by kernel_rfl) (fun _ _ _ h => h) (Or.inl ⟨by rfl, ?_⟩) (by assumption) ?_; rotate_left; (focus (intro w hSw; (try dsimp only at hSw); go_simp; (try with_reducible rfl))); (try simp only [List.getElem_toArray, List.getElem_cons_zero, List.getElem_cons_succ, Act.put, List.setIfInBounds_toArray, List.set_cons_zero, List.set_cons_succ])); (refine wpAnyH_take (i := 2) (v := ?_) rfl (by kernel_rfl) (by kernel_rfl) (by kernel_rfl) (fun _ _ _ h => h) (Or.inl ⟨by rfl, ?_⟩) (by assumption) ?_; rotate_left; (focus (intro w hSw; (try dsimp only at hSw); go_simp; (try with_reducible rfl))); (try simp only [List.getElem_toArray, List.getElem_cons_zero, List.getElem_cons_succ, Act.put, List.setIfInBounds_toArray, List.set_cons_zero, List.set_cons_succ])); (refine wpAnyH_take (i := 3) (v := ?_) rfl (by kernel_rfl) (by kernel_rfl) (by kernel_rfl) (fun _ _ _ h => h) (Or.inl ⟨by rfl, ?_⟩) (by assumption) ?_; rotate_left; (focus (intro w hSw; (try dsimp only at hSw); go_simp; (try with_reducible rfl))); (try simp only [List.getElem_toArray, List.getElem_cons_zero, List.getElem_cons_succ, Act.put, List.setIfInBounds_toArray, List.set_cons_zero, List.set_cons_succ]))
  (refine wpAnyH_take (i := 5) (v := ?_) rfl (by kernel_rfl) (by kernel_rfl) (by kernel_rfl) (fun _ _ _ h => h) (Or.inl ⟨by rfl, ?_⟩) (by assumption) ?_; rotate_left; (focus (intro w hSw; (try dsimp only at hSw); go_simp; (try with_reducible rfl))); (try simp only [List.getElem_toArray, List.getElem_cons_zero, List.getElem_cons_succ, Act.put, List.setIfInBounds_toArray, List.set_cons_zero, List.set_cons_succ])); (refine wpAnyH_take (i := 6) (v := ?_) rfl (by kernel_rfl) (by kernel_rfl) (by kernel_rfl) (fun _ _ _ h => h) (Or.inl ⟨by rfl, ?_⟩) (by assumption) ?_; rotate_left; (focus (intro w hSw; (try dsimp only at hSw); go_simp; (try with_reducible rfl))); (try simp only [List.getElem_toArray, List.getElem_cons_zero, List.getElem_cons_succ, Act.put, List.setIfInBounds_toArray, List.set_cons_zero, List.set_cons_succ]))
  (refine wpAnyH_take (i := 8) (v := ?_) rfl (by kernel_rfl) (by kernel_rfl) (by kernel_rfl) (fun _ _ _ h => h) (Or.inl ⟨by rfl, ?_⟩) (by assumption) ?_; rotate_left; (focus (intro w hSw; (try dsimp only at hSw); go_simp; (try with_reducible rfl))); (try simp only [List.getElem_toArray, List.getElem_cons_zero, List.getElem_cons_succ, Act.put, List.setIfInBounds_toArray, List.set_cons_zero, List.set_cons_succ])); (refine wpAnyH_take (i := 9) (v := ?_) rfl (by kernel_rfl) (by kernel_rfl) (by kernel_rfl) (fun _ _ _ h => h) (Or.inl ⟨by rfl, ?_⟩) (by assumption) ?_; rotate_left; (focus (intro w hSw; (try dsimp only at hSw); go_simp; (try with_reducible rfl))); (try simp only [List.getElem_toArray, List.getElem_cons_zero, List.getElem_cons_succ, Act.put, List.setIfInBounds_toArray, List.set_cons_zero, List.set_cons_succ])); (refine wpAnyH_take (i := 10) (v := ?_) rfl (by kernel_rfl) (by kernel_rfl) (by kernel_rfl) (fun _ _ _ h => h) (Or.inl ⟨by rfl, ?_⟩) (by assumption) ?_; rotate_left; (focus (intro w hSw; (try dsimp only at hSw); go_simp; (try with_reducible rfl))); (try simp only [List.getElem_toArray, List.getElem_cons_zero, List.getElem_cons_succ, Act.put, List.setIfInBounds_toArray, List.set_cons_zero, List.set_cons_succ])); (refine wpAnyH_take (i := 11) (v := ?_) rfl (by kernel_rfl) (by kernel_rfl) (by kernel_rfl) (fun _ _ _ h => h) (Or.inl ⟨by rfl, ?_⟩) (by assumption) ?_; rotate_left; (focus (intro w hSw; (try dsimp only at hSw); go_simp; (try with_reducible rfl))); (try simp only [List.getElem_toArray, List.getElem_cons_zero, List.getElem_cons_succ, Act.put, List.setIfInBounds_toArray, List.set_cons_zero, List.set_cons_succ]))
  (refine wpAnyH_take (i := 13) (v := ?_) rfl (by kernel_rfl) (by kernel_rfl) (by kernel_rfl) (fun _ _ _ h => h) (Or.inl ⟨by rfl, ?_⟩) (by assumption) ?_; rotate_left; (focus (intro w hSw; (try dsimp only at hSw); go_simp; (try with_reducible rfl))); (try simp only [List.getElem_toArray, List.getElem_cons_zero, List.getElem_cons_succ, Act.put, List.setIfInBounds_toArray, List.set_cons_zero, List.set_cons_succ])); (refine wpAnyH_take (i := 14) (v := ?_) rfl (by kernel_rfl) (by kernel_rfl) (by kernel_rfl) (fun _ _ _ h => h) (Or.inl ⟨by rfl, ?_⟩) (by assumption) ?_; rotate_left; (focus (intro w hSw; (try dsimp only at hSw); go_simp; (try with_reducible rfl))); (try simp only [List.getElem_toArray, List.getElem_cons_zero, List.getElem_cons_succ, Act.put, List.setIfInBounds_toArray, List.set_cons_zero, List.set_cons_succ]))
  refine wpAnyH_ready (rs := [4]) (by kernel_rfl) (by simp) ?_; refine AllReadyH.cons rfl (fun K hK => ?_) AllReadyH.nil; go_simp
  go_at_call 82
  refine (kmost_any N _ S k _ (HBK.out.go (Below.refl _ _).drew) HR.out hk).mono ?_
  rw [HHI.out]
  rintro e w1 ⟨rfl, hb1⟩
  have HB1 : Hid (Below ws.heap.size ws w1) := (Below.refl _ _).drew.trans hb1
  have hS1 := HSQ.out w1 HB1.out
  clear hb1
  refine hK.out _ _ hS1 (fun hHeld => ?_); clear hK K; (try simp only [List.getElem_toArray, List.getElem_cons_zero, List.getElem_cons_succ, Act.put, List.setIfInBounds_toArray, List.set_cons_zero, List.set_cons_succ])
  refine wpAnyH_ready (rs := [7]) (by kernel_rfl) (by simp) ?_; refine AllReadyH.cons rfl (fun K hK => ?_) AllReadyH.nil; go_simp
  go_at_call 81
  refine (placeL_any N N _ _ S k hi _ (HBK.out.go HB1.out) (HBK.out.go HB1.out) HR.out hk).mono ?_
  rw [HPL.out]
  rintro e w2 ⟨rfl, hb2⟩
  have HB2 : Hid (Below ws.heap.size ws w2) := bel HB1.out hb2
  have hS2 := HSQ.out w2 HB2.out
  clear hb2 hS1
  refine hK.out _ _ hS2 (fun hHeld => ?_); clear hK K; (try simp only [List.getElem_toArray, List.getElem_cons_zero, List.getElem_cons_succ, Act.put, List.setIfInBounds_toArray, List.set_cons_zero, List.set_cons_succ])
  refine wpAnyH_ready (rs := [12]) (by kernel_rfl) (by simp) ?_; refine AllReadyH.cons rfl (fun K hK => ?_) AllReadyH.nil; go_simp
  go_at_call 83
  refine (kleast_any N _ S k _ (HBK.out.go HB2.out) HR.out hk).mono ?_
  rw [HLO.out]
  rintro e w3 ⟨rfl, hb3⟩
  have HB3 : Hid (Below ws.heap.size ws w3) := bel HB2.out hb3
  have hS3 := HSQ.out w3 HB3.out
  clear hb3 hS2
  refine hK.out _ _ hS3 (fun hHeld => ?_); clear hK K; (try simp only [List.getElem_toArray, List.getElem_cons_zero, List.getElem_cons_succ, Act.put, List.setIfInBounds_toArray, List.set_cons_zero, List.set_cons_succ])
  refine wpAnyH_ready (rs := [15]) (by kernel_rfl) (by simp) ?_; refine AllReadyH.cons rfl (fun K hK => ?_) AllReadyH.nil; go_simp
  go_at_call 81
  refine (placeM_any N N _ _ S k lo _ (HBK.out.go HB3.out) (HBK.out.go HB3.out) HR.out hk).mono ?_
  rw [HPH.out]
  rintro e w4 ⟨rfl, hb4⟩
  have HB4 : Hid (Below ws.heap.size ws w4) := bel HB3.out hb4
  have hSz := HSQ.out w4 HB4.out
  clear hb4 hS3
  refine hK.out _ _ hSz (fun hHeld => ?_); clear hK K; (try simp only [List.getElem_toArray, List.getElem_cons_zero, List.getElem_cons_succ, Act.put, List.setIfInBounds_toArray, List.set_cons_zero, List.set_cons_succ])
  (refine wpAnyH_take (i := 16) (v := ?_) rfl (by kernel_rfl) (by kernel_rfl) (by kernel_rfl) (fun _ _ _ h => h) (Or.inl ⟨by rfl, ?_⟩) (by assumption) ?_; rotate_left; (focus (intro w hSw; (try dsimp only at hSw); go_simp; (try with_reducible rfl))); (try simp only [List.getElem_toArray, List.getElem_cons_zero, List.getElem_cons_succ, Act.put, List.setIfInBounds_toArray, List.set_cons_zero, List.set_cons_succ]))
  have hz2 := (HB4.out.block _ hsz1).trans HZ1.out
  have x0 := cell_blk hz2 0 rfl
  have x1 := cell_blk hz2 1 rfl
  have y0 := free_blk hz2 0
  have y1 := free_blk hz2 1
  refine wpAnyH_ready (rs := [17]) (by kernel_rfl) (by simp) ?_; refine AllReadyH.cons rfl (fun K hK => ?_) AllReadyH.nil; go_simp
  obtain ⟨w5, hw5, hz5, ho5, hb5⟩ := put2o hz2 (.int .i64 pl) (.int .i64 ph)
  rw [hw5]
  have hc5 : ∀ b o, b ≠ w.heap.size + 1 → w5.cell? ⟨b, o, none⟩ = w4.cell? ⟨b, o, none⟩ := fun b o hne => World.cell?_of_block (w := w4) (ho5 b hne)
  have hne : w.heap.size ≠ w.heap.size + 1 := by omega
  have hS5 : (w5.cell? ⟨w.heap.size, 0, none⟩ = some (.int .i64 S.J) ∧ w5.cell? ⟨w.heap.size, 1, none⟩ = some (.int .i64 S.D) ∧ w5.cell? ⟨w.heap.size, 2, none⟩ = some (.int .i64 S.Z) ∧ w5.cell? ⟨w.heap.size, 3, none⟩ = some (.slice a1 S.np c1)) := ⟨(hc5 _ _ hne).trans hSz.1, (hc5 _ _ hne).trans hSz.2.1, (hc5 _ _ hne).trans hSz.2.2.1, (hc5 _ _ hne).trans hSz.2.2.2⟩
  have HZ5 := Lib.hid hz5
  have HB5 : Hid (Below w.heap.size w w5) := HB.out.trans ((HB4.out.mono HB.out.size).trans (hb5.mono (by omega)))
  clear hw5 hz5 ho5 hb5 hc5 hne hSz x0 x1 y0 y1 hz2
  refine hK.out _ _ hS5 (fun hHeld => ?_); clear hK K; (try simp only [List.getElem_toArray, List.getElem_cons_zero, List.getElem_cons_succ, Act.put, List.setIfInBounds_toArray, List.set_cons_zero, List.set_cons_succ])
  refine wpAnyH_done (by kernel_rfl) ?_ _; clear hHeld
  have r0 := cell_blk HZ5.out 0 rfl
  have r1 := cell_blk HZ5.out 1 rfl
  go_wp2_with fail
  exact bodyPost_ret (v := .agg #[.int .i64 pl, .int .i64 ph]) (by simp [results, Try.results57, go_sem, r0, r1]) rfl ⟨rfl, HB5.out⟩

theorem known_eq (a b : Bool) (k : Int) (w : World) (h : (if a = true then 1 else if b = true then 3 else 2) = k) : Calls Try.prog 84 #[.bool a, .bool b] w fun e w' => e = .returned (.int .i64 k) ∧ w' = w := by
  rw [← h]; exact known_any a b w
theorem prz_known (S : JB) (k : Nat) : prz S k = if decide ((plHi S k : Int) ≤ S.Z) then 1 else if decide ((plLo S k : Int) ≤ S.Z) then 3 else 2 := by
  unfold prz
  by_cases h1 : (plHi S k : Int) ≤ S.Z
  · rw [if_pos h1, if_pos (decide_eq_true h1)]
  · have h1' : decide ((plHi S k : Int) ≤ S.Z) = false := decide_eq_false h1
    rw [if_neg h1, h1']
    by_cases h2 : S.Z < (plLo S k : Int)
    · rw [if_pos h2, decide_eq_false (show ¬ (plLo S k : Int) ≤ S.Z by omega)]; rfl
    · rw [if_neg h2, decide_eq_true (show (plLo S k : Int) ≤ S.Z by omega)]; rfl

set_option maxHeartbeats 3200000 in
set_option maxRecDepth 100000 in
theorem kprize_any (N : Nat) (v : Value) (S : JB) (k : Nat) (w : World) (h : ShowAt N w v S) (hR : RdJ S) (hk : k < S.np) :
    Calls Try.prog 58 #[v, .int .i64 k] w fun e w' => e = .returned (.int .i64 (prz S k)) ∧ Below w.heap.size w w' := by
  obtain ⟨a1, c1, rfl⟩ := h.form
  obtain ⟨ws, hws, HB, hsz, hblk⟩ := box1 w (.cells #[.int .i64 S.J, .int .i64 S.D, .int .i64 S.Z, .slice a1 S.np c1] 74)
  have q0 := cell_blk hblk 0 rfl
  have q1 := cell_blk hblk 1 rfl
  have q2 := cell_blk hblk 2 rfl
  have q3 := cell_blk hblk 3 rfl
  have HNZ : Hid (N ≤ w.heap.size) := h.1
  have HBK := Lib.hid (h.go HB.out)
  have HB0 : Hid (Below ws.heap.size ws ws) := Below.refl _ _
  have HNS : Hid (N ≤ ws.heap.size) := HBK.out.1
  have hlen := h.len
  clear hblk h
  have HR := Lib.hid hR
  obtain ⟨lo, hlo⟩ : ∃ n, plLo S k = n := ⟨_, rfl⟩
  obtain ⟨hi, hhi⟩ : ∃ n, plHi S k = n := ⟨_, rfl⟩
  have HLO := Lib.hid hlo
  have HHI := Lib.hid hhi
  have HPZ : Hid (prz S k = if decide ((hi : Int) ≤ S.Z) then 1 else if decide ((lo : Int) ≤ S.Z) then 3 else 2) := by unfold Hid; rw [prz_known, hlo, hhi]
  clear hR hlo hhi
  go_enter Try.func58, Try.ntmps58
  go_upto_region 2 with (go_at_call 57; refine (kplaces_any N _ S k _ HBK.out HR.out hk).mono ?_; rw [HLO.out, HHI.out]; rintro e w1 ⟨rfl, hb1⟩; have HB1 : Hid (Below ws.heap.size ws w1) := hb1; clear hb1; obtain ⟨wb, hwb, HBb, hszb, hblkb⟩ := box1 w1 (.cells #[.int .i64 0, .int .i64 0] 30); have HZb := Lib.hid hblkb; have z0 := cell_blk hblkb 0 rfl; have z1 := cell_blk hblkb 1 rfl; have y0 := free_blk hblkb 0; have y1 := free_blk hblkb 1; clear hblkb)
  obtain ⟨w2, hw2, hz2, ho2, hb2⟩ := put2o HZb.out (.int .i64 lo) (.int .i64 hi)
  rw [hw2]
  have x0 := cell_blk hz2 0 rfl
  have x1 := cell_blk hz2 1 rfl
  have HBx : Hid (Below w1.heap.size w1 w2) := HBb.out.trans hb2
  have HB2 : Hid (Below ws.heap.size ws w2) := bel HB1.out HBx.out
  have r2 := (HB2.out.cell (p := ⟨w.heap.size, 2, none⟩) hsz).trans q2
  clear hw2 hz2 ho2 hb2 z0 z1 y0 y1 hwb
  obtain ⟨bh, hbh⟩ : ∃ b, decide ((hi : Int) ≤ S.Z) = b := ⟨_, rfl⟩
  obtain ⟨bl, hbl⟩ : ∃ b, decide ((lo : Int) ≤ S.Z) = b := ⟨_, rfl⟩
  rw [hbh, hbl] at HPZ
  obtain ⟨kn, hkn⟩ : ∃ kn : Int, (if bh = true then 1 else if bl = true then 3 else 2) = kn := ⟨_, rfl⟩
  have HKN := Lib.hid hkn
  clear hkn
  go_wp2_with (go_at_call 84; refine (known_eq bh bl kn _ HKN.out).mono ?_; rintro e w3 ⟨rfl, hw3⟩; rw [hw3]; clear hw3)
  go_ret
  exact ⟨ret_int (by rw [HPZ.out]; exact HKN.out.symm), fin HB.out HB2.out⟩

set_option maxHeartbeats 6400000 in
set_option maxRecDepth 100000 in
theorem kbetter_any (N : Nat) (v : Value) (S : JB) (i j : Nat) (w : World) (h : ShowAt N w v S) (hR : RdJ S) (hi : i < S.np) (hj : j < S.np) :
    Calls Try.prog 60 #[v, .int .i64 i, .int .i64 j] w fun e w' => e = .returned (.int .i64 (kno S i j)) ∧ Below w.heap.size w w' := by
  obtain ⟨a1, c1, rfl⟩ := h.form
  obtain ⟨ws, hws, HB, hsz, hblk⟩ := box1 w (.cells #[.int .i64 S.J, .int .i64 S.D, .int .i64 S.Z, .slice a1 S.np c1] 74)
  have q0 := cell_blk hblk 0 rfl
  have q1 := cell_blk hblk 1 rfl
  have q2 := cell_blk hblk 2 rfl
  have q3 := cell_blk hblk 3 rfl
  have HNZ : Hid (N ≤ w.heap.size) := h.1
  have HBK := Lib.hid (h.go HB.out)
  have HB0 : Hid (Below ws.heap.size ws ws) := Below.refl _ _
  have HNS : Hid (N ≤ ws.heap.size) := HBK.out.1
  have hlen := h.len
  clear hblk h
  have HSQ : Hid (∀ W, Below ws.heap.size ws W → (W.cell? ⟨w.heap.size, 0, none⟩ = some (.int .i64 S.J) ∧ W.cell? ⟨w.heap.size, 1, none⟩ = some (.int .i64 S.D) ∧ W.cell? ⟨w.heap.size, 2, none⟩ = some (.int .i64 S.Z) ∧ W.cell? ⟨w.heap.size, 3, none⟩ = some (.slice a1 S.np c1))) := fun W hW => ⟨(hW.cell (p := ⟨w.heap.size, 0, none⟩) hsz).trans q0, (hW.cell (p := ⟨w.heap.size, 1, none⟩) hsz).trans q1, (hW.cell (p := ⟨w.heap.size, 2, none⟩) hsz).trans q2, (hW.cell (p := ⟨w.heap.size, 3, none⟩) hsz).trans q3⟩
  have HR := Lib.hid hR
  obtain ⟨b1, hb1⟩ : ∃ b, scB (loT S i) (S.sz i) (hiT S j) (S.sz j) = b := ⟨_, rfl⟩
  obtain ⟨b2, hb2⟩ : ∃ b, scB (hiT S i) (S.sz i) (loT S j) (S.sz j) = b := ⟨_, rfl⟩
  have HB1 := Lib.hid hb1
  have HB2 := Lib.hid hb2
  have HKN : Hid (kno S i j = if b1 then 1 else if b2 then 3 else 2) := by unfold Hid; rw [← hb1, ← hb2]; rfl
  clear hR q0 q1 q2 q3 hb1 hb2
  go_enter Try.func60, Try.ntmps60
  go_upto_region 1 with fail
  clear hws
  have hS0 := HSQ.out ws.drew (Below.refl _ _).drew
  refine wp_region_held_drew (S := fun W => (W.cell? ⟨w.heap.size, 0, none⟩ = some (.int .i64 S.J) ∧ W.cell? ⟨w.heap.size, 1, none⟩ = some (.int .i64 S.D) ∧ W.cell? ⟨w.heap.size, 2, none⟩ = some (.int .i64 S.Z) ∧ W.cell? ⟨w.heap.size, 3, none⟩ = some (.slice a1 S.np c1))) (by kernel_rfl) hS0 (fun hHeld => ?_)
  (refine wpAnyH_take (i := 0) (v := ?_) rfl (by kernel_rfl) (by kernel_rfl) (by kernel_rfl) (fun _ _ _ h => h) (Or.inl ⟨by rfl, ?_⟩) (by assumption) ?_; rotate_left; (focus (intro w hSw; (try dsimp only at hSw); go_simp; (try with_reducible rfl))); (try simp only [List.getElem_toArray, List.getElem_cons_zero, List.getElem_cons_succ, Act.put, List.setIfInBounds_toArray, List.set_cons_zero, List.set_cons_succ])); (refine wpAnyH_take (i := 1) (v := ?_) rfl (by kernel_rfl) (by kernel_rfl) (by kernel_rfl) (fun _ _ _ h => h) (Or.inl ⟨by rfl, ?_⟩) (by assumption) ?_; rotate_left; (focus (intro w hSw; (try dsimp only at hSw); go_simp; (try with_reducible rfl))); (try simp only [List.getElem_toArray, List.getElem_cons_zero, List.getElem_cons_succ, Act.put, List.setIfInBounds_toArray, List.set_cons_zero, List.set_cons_succ]))
  (refine wpAnyH_take (i := 3) (v := ?_) rfl (by kernel_rfl) (by kernel_rfl) (by kernel_rfl) (fun _ _ _ h => h) (Or.inl ⟨by rfl, ?_⟩) (by assumption) ?_; rotate_left; (focus (intro w hSw; (try dsimp only at hSw); go_simp; (try with_reducible rfl))); (try simp only [List.getElem_toArray, List.getElem_cons_zero, List.getElem_cons_succ, Act.put, List.setIfInBounds_toArray, List.set_cons_zero, List.set_cons_succ])); (refine wpAnyH_take (i := 4) (v := ?_) rfl (by kernel_rfl) (by kernel_rfl) (by kernel_rfl) (fun _ _ _ h => h) (Or.inl ⟨by rfl, ?_⟩) (by assumption) ?_; rotate_left; (focus (intro w hSw; (try dsimp only at hSw); go_simp; (try with_reducible rfl))); (try simp only [List.getElem_toArray, List.getElem_cons_zero, List.getElem_cons_succ, Act.put, List.setIfInBounds_toArray, List.set_cons_zero, List.set_cons_succ]))
  refine wpAnyH_ready (rs := [2]) (by kernel_rfl) (by simp) ?_; refine AllReadyH.cons rfl (fun K hK => ?_) AllReadyH.nil; go_simp
  go_at_call 83
  refine (kleast_any N _ S i _ (HBK.out.go (Below.refl _ _).drew) HR.out hi).mono ?_
  rintro e w1 ⟨rfl, hb1⟩
  have HC1 : Hid (Below ws.heap.size ws w1) := (Below.refl _ _).drew.trans hb1
  have hS1 := HSQ.out w1 HC1.out
  clear hb1
  refine hK.out _ _ hS1 (fun hHeld => ?_); clear hK K; (try simp only [List.getElem_toArray, List.getElem_cons_zero, List.getElem_cons_succ, Act.put, List.setIfInBounds_toArray, List.set_cons_zero, List.set_cons_succ])
  refine wpAnyH_ready (rs := [5]) (by kernel_rfl) (by simp) ?_; refine AllReadyH.cons rfl (fun K hK => ?_) AllReadyH.nil; go_simp
  go_at_call 82
  refine (kmost_any N _ S j _ (HBK.out.go HC1.out) HR.out hj).mono ?_
  rintro e w2 ⟨rfl, hb2⟩
  have HC2 : Hid (Below ws.heap.size ws w2) := bel HC1.out hb2
  have hS2 := HSQ.out w2 HC2.out
  clear hb2 hS1
  refine hK.out _ _ hS2 (fun hHeld => ?_); clear hK K; (try simp only [List.getElem_toArray, List.getElem_cons_zero, List.getElem_cons_succ, Act.put, List.setIfInBounds_toArray, List.set_cons_zero, List.set_cons_succ])
  refine wpAnyH_ready (rs := [6]) (by kernel_rfl) (by simp) ?_; refine AllReadyH.cons rfl (fun K hK => ?_) AllReadyH.nil; go_simp
  go_at_call 85
  refine (sbetter_any _ _ _ _ _).mono ?_
  rw [HB1.out]
  rintro e w3 ⟨rfl, hb3⟩
  have HC3 : Hid (Below ws.heap.size ws w3) := bel HC2.out hb3
  have hS3 := HSQ.out w3 HC3.out
  clear hb3 hS2
  refine hK.out _ _ hS3 (fun hHeld => ?_); clear hK K; (try simp only [List.getElem_toArray, List.getElem_cons_zero, List.getElem_cons_succ, Act.put, List.setIfInBounds_toArray, List.set_cons_zero, List.set_cons_succ])
  (refine wpAnyH_take (i := 7) (v := ?_) rfl (by kernel_rfl) (by kernel_rfl) (by kernel_rfl) (fun _ _ _ h => h) (Or.inl ⟨by rfl, ?_⟩) (by assumption) ?_; rotate_left; (focus (intro w hSw; (try dsimp only at hSw); go_simp; (try with_reducible rfl))); (try simp only [List.getElem_toArray, List.getElem_cons_zero, List.getElem_cons_succ, Act.put, List.setIfInBounds_toArray, List.set_cons_zero, List.set_cons_succ]))
  refine wpAnyH_done (by kernel_rfl) ?_ _; clear hHeld
  clear hS3
  go_upto_region 2 with fail
  have hT0 := HSQ.out w3.drew HC3.out.drew
  refine wp_region_held_drew (S := fun W => (W.cell? ⟨w.heap.size, 0, none⟩ = some (.int .i64 S.J) ∧ W.cell? ⟨w.heap.size, 1, none⟩ = some (.int .i64 S.D) ∧ W.cell? ⟨w.heap.size, 2, none⟩ = some (.int .i64 S.Z) ∧ W.cell? ⟨w.heap.size, 3, none⟩ = some (.slice a1 S.np c1))) (by kernel_rfl) hT0 (fun hHeld => ?_)
  (refine wpAnyH_take (i := 0) (v := ?_) rfl (by kernel_rfl) (by kernel_rfl) (by kernel_rfl) (fun _ _ _ h => h) (Or.inl ⟨by rfl, ?_⟩) (by assumption) ?_; rotate_left; (focus (intro w hSw; (try dsimp only at hSw); go_simp; (try with_reducible rfl))); (try simp only [List.getElem_toArray, List.getElem_cons_zero, List.getElem_cons_succ, Act.put, List.setIfInBounds_toArray, List.set_cons_zero, List.set_cons_succ])); (refine wpAnyH_take (i := 1) (v := ?_) rfl (by kernel_rfl) (by kernel_rfl) (by kernel_rfl) (fun _ _ _ h => h) (Or.inl ⟨by rfl, ?_⟩) (by assumption) ?_; rotate_left; (focus (intro w hSw; (try dsimp only at hSw); go_simp; (try with_reducible rfl))); (try simp only [List.getElem_toArray, List.getElem_cons_zero, List.getElem_cons_succ, Act.put, List.setIfInBounds_toArray, List.set_cons_zero, List.set_cons_succ]))
  (refine wpAnyH_take (i := 3) (v := ?_) rfl (by kernel_rfl) (by kernel_rfl) (by kernel_rfl) (fun _ _ _ h => h) (Or.inl ⟨by rfl, ?_⟩) (by assumption) ?_; rotate_left; (focus (intro w hSw; (try dsimp only at hSw); go_simp; (try with_reducible rfl))); (try simp only [List.getElem_toArray, List.getElem_cons_zero, List.getElem_cons_succ, Act.put, List.setIfInBounds_toArray, List.set_cons_zero, List.set_cons_succ])); (refine wpAnyH_take (i := 4) (v := ?_) rfl (by kernel_rfl) (by kernel_rfl) (by kernel_rfl) (fun _ _ _ h => h) (Or.inl ⟨by rfl, ?_⟩) (by assumption) ?_; rotate_left; (focus (intro w hSw; (try dsimp only at hSw); go_simp; (try with_reducible rfl))); (try simp only [List.getElem_toArray, List.getElem_cons_zero, List.getElem_cons_succ, Act.put, List.setIfInBounds_toArray, List.set_cons_zero, List.set_cons_succ]))
  refine wpAnyH_ready (rs := [2]) (by kernel_rfl) (by simp) ?_; refine AllReadyH.cons rfl (fun K hK => ?_) AllReadyH.nil; go_simp
  go_at_call 82
  refine (kmost_any N _ S i _ (HBK.out.go HC3.out.drew) HR.out hi).mono ?_
  rintro e w4 ⟨rfl, hb4⟩
  have HC4 : Hid (Below ws.heap.size ws w4) := HC3.out.drew.trans (hb4.mono HC3.out.drew.size)
  have hS4 := HSQ.out w4 HC4.out
  clear hb4 hT0
  refine hK.out _ _ hS4 (fun hHeld => ?_); clear hK K; (try simp only [List.getElem_toArray, List.getElem_cons_zero, List.getElem_cons_succ, Act.put, List.setIfInBounds_toArray, List.set_cons_zero, List.set_cons_succ])
  refine wpAnyH_ready (rs := [5]) (by kernel_rfl) (by simp) ?_; refine AllReadyH.cons rfl (fun K hK => ?_) AllReadyH.nil; go_simp
  go_at_call 83
  refine (kleast_any N _ S j _ (HBK.out.go HC4.out) HR.out hj).mono ?_
  rintro e w5 ⟨rfl, hb5⟩
  have HC5 : Hid (Below ws.heap.size ws w5) := bel HC4.out hb5
  have hS5 := HSQ.out w5 HC5.out
  clear hb5 hS4
  refine hK.out _ _ hS5 (fun hHeld => ?_); clear hK K; (try simp only [List.getElem_toArray, List.getElem_cons_zero, List.getElem_cons_succ, Act.put, List.setIfInBounds_toArray, List.set_cons_zero, List.set_cons_succ])
  refine wpAnyH_ready (rs := [6]) (by kernel_rfl) (by simp) ?_; refine AllReadyH.cons rfl (fun K hK => ?_) AllReadyH.nil; go_simp
  go_at_call 85
  refine (sbetter_any _ _ _ _ _).mono ?_
  rw [HB2.out]
  rintro e w6 ⟨rfl, hb6⟩
  have HC6 : Hid (Below ws.heap.size ws w6) := bel HC5.out hb6
  have hS6 := HSQ.out w6 HC6.out
  clear hb6 hS5
  refine hK.out _ _ hS6 (fun hHeld => ?_); clear hK K; (try simp only [List.getElem_toArray, List.getElem_cons_zero, List.getElem_cons_succ, Act.put, List.setIfInBounds_toArray, List.set_cons_zero, List.set_cons_succ])
  (refine wpAnyH_take (i := 7) (v := ?_) rfl (by kernel_rfl) (by kernel_rfl) (by kernel_rfl) (fun _ _ _ h => h) (Or.inl ⟨by rfl, ?_⟩) (by assumption) ?_; rotate_left; (focus (intro w hSw; (try dsimp only at hSw); go_simp; (try with_reducible rfl))); (try simp only [List.getElem_toArray, List.getElem_cons_zero, List.getElem_cons_succ, Act.put, List.setIfInBounds_toArray, List.set_cons_zero, List.set_cons_succ]))
  refine wpAnyH_done (by kernel_rfl) ?_ _; clear hHeld
  clear hS6
  obtain ⟨kn, hkn⟩ : ∃ kn : Int, (if b1 = true then 1 else if b2 = true then 3 else 2) = kn := ⟨_, rfl⟩
  rw [hkn] at HKN
  have HKB := Lib.hid hkn
  clear hkn
  go_wp2_with (go_at_call 84; refine (known_eq b1 b2 kn _ HKB.out).mono ?_; rintro e w7 ⟨rfl, hw7⟩; rw [hw7]; clear hw7)
  go_ret
  exact ⟨ret_int HKN.out.symm, fin HB.out HC6.out⟩

end Go.Proofs.Ytffnlimgjnhmpaa
