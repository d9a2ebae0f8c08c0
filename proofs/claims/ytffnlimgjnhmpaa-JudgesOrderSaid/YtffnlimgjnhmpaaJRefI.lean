/-
  JRefH: prize, Total, Place, Prize of the reference.
  JRefI: Prize and Better of the reference.
-/
import Derived.Test.YtffnlimgjnhmpaaJRefG
namespace Go.Proofs.Ytffnlimgjnhmpaa
open Go.RowKit

/-- a number, or 0 with an error -/
def sp (er x : Int) : Int := if er = 0 then x else 0
def spL (er : Int) (l : List Int) : List Int := if er = 0 then l else []
theorem sp_ok (x : Int) : sp 0 x = x := rfl
theorem sp_no {er : Int} (h : er ≠ 0) (x : Int) : sp er x = 0 := if_neg h
theorem spL_ok (l : List Int) : spL 0 l = l := rfl
theorem spL_no {er : Int} (h : er ≠ 0) (l : List Int) : spL er l = [] := if_neg h
theorem errA_ok {ok is : Bool} (h : errA ok is = 0) : ok = true ∧ is = true := by
  unfold errA at h; cases ok <;> cases is <;> simp_all
theorem errC_ok {ok is cl : Bool} (h : errC ok is cl = 0) : ok = true ∧ is = true ∧ cl = true := by
  unfold errC at h; cases ok <;> cases is <;> cases cl <;> simp_all

set_option maxHeartbeats 3200000 in
set_option maxRecDepth 100000 in
theorem prize_any (N : Nat) (v : Value) (S : JB) (k : Nat) (w : World) (h : ShowAt N w v S) (hR : RdS S) (hk : k < S.np) :
    Calls Try.prog 77 #[v, .int .i64 k] w fun e w' => e = .returned (.int .i64 (prz S k)) ∧ Below w.heap.size w w' := by
  obtain ⟨a1, c1, rfl⟩ := h.form
  obtain ⟨ws, hws, HB, hsz, hblk⟩ := box1 w (.cells #[.int .i64 S.J, .int .i64 S.D, .int .i64 S.Z, .slice a1 S.np c1] 24)
  have q0 := cell_blk hblk 0 rfl
  have q1 := cell_blk hblk 1 rfl
  have q2 := cell_blk hblk 2 rfl
  have q3 := cell_blk hblk 3 rfl
  have HNZ : Hid (N ≤ w.heap.size) := h.1
  have HBK := Lib.hid (h.go HB.out)
  have HB0 : Hid (Below ws.heap.size ws ws) := Below.refl _ _
  have HNS : Hid (N ≤ ws.heap.size) := HBK.out.1
  have hlen := h.len
  clear hblk h
  have HR := Lib.hid hR
  obtain ⟨lo, hlo⟩ : ∃ n, plLo S k = n := ⟨_, rfl⟩
  obtain ⟨hi, hhi⟩ : ∃ n, plHi S k = n := ⟨_, rfl⟩
  have HLO := Lib.hid hlo
  have HHI := Lib.hid hhi
  have HPZ : Hid (prz S k = if (hi : Int) ≤ S.Z then 1 else if S.Z < (lo : Int) then 2 else 3) := by unfold Hid prz; rw [hlo, hhi]
  clear hR hlo hhi
  by_cases h1 : (hi : Int) ≤ S.Z
  · (go_enter Try.func77, Try.ntmps77; go_upto_region 2 with (go_at_call 76; refine (places_any N _ S k _ HBK.out HR.out hk).mono ?_; rw [HLO.out, HHI.out]; rintro e w1 ⟨rfl, hb1⟩; ((try clear c0); have HB1 := Lib.hid (bel HB0.out hb1); have c1 := (old_of HB1.out).1; clear hb1); obtain ⟨wb, hwb, HBb, hszb, hblkb⟩ := box1 w1 (.cells #[.int .i64 0, .int .i64 0] 30); have HZb := Lib.hid hblkb; have z0 := cell_blk hblkb 0 rfl; have z1 := cell_blk hblkb 1 rfl; have y0 := free_blk hblkb 0; have y1 := free_blk hblkb 1; clear hblkb); obtain ⟨w2, hw2, hz2, ho2, hb2⟩ := put2o HZb.out (.int .i64 lo) (.int .i64 hi); rw [hw2]; have x0 := cell_blk hz2 0 rfl; have x1 := cell_blk hz2 1 rfl; have HBx : Hid (Below w1.heap.size w1 w2) := HBb.out.trans hb2; have HB2 : Hid (Below ws.heap.size ws w2) := bel HB1.out HBx.out; have r2 := (HB2.out.cell (p := ⟨w.heap.size, 2, none⟩) hsz).trans q2; clear hw2 hz2 ho2 hb2 z0 z1 y0 y1 hwb c1; go_wp2_with fail; go_ret; exact ⟨ret_int (by rw [HPZ.out]; rw [if_pos h1]), fin HB.out HB2.out⟩)
  · by_cases h2 : S.Z < (lo : Int)
    · (go_enter Try.func77, Try.ntmps77; go_upto_region 2 with (go_at_call 76; refine (places_any N _ S k _ HBK.out HR.out hk).mono ?_; rw [HLO.out, HHI.out]; rintro e w1 ⟨rfl, hb1⟩; ((try clear c0); have HB1 := Lib.hid (bel HB0.out hb1); have c1 := (old_of HB1.out).1; clear hb1); obtain ⟨wb, hwb, HBb, hszb, hblkb⟩ := box1 w1 (.cells #[.int .i64 0, .int .i64 0] 30); have HZb := Lib.hid hblkb; have z0 := cell_blk hblkb 0 rfl; have z1 := cell_blk hblkb 1 rfl; have y0 := free_blk hblkb 0; have y1 := free_blk hblkb 1; clear hblkb); obtain ⟨w2, hw2, hz2, ho2, hb2⟩ := put2o HZb.out (.int .i64 lo) (.int .i64 hi); rw [hw2]; have x0 := cell_blk hz2 0 rfl; have x1 := cell_blk hz2 1 rfl; have HBx : Hid (Below w1.heap.size w1 w2) := HBb.out.trans hb2; have HB2 : Hid (Below ws.heap.size ws w2) := bel HB1.out HBx.out; have r2 := (HB2.out.cell (p := ⟨w.heap.size, 2, none⟩) hsz).trans q2; clear hw2 hz2 ho2 hb2 z0 z1 y0 y1 hwb c1; go_wp2_with fail; go_ret; exact ⟨ret_int (by rw [HPZ.out]; rw [if_neg (show ¬ (hi : Int) ≤ S.Z by omega), if_pos h2]), fin HB.out HB2.out⟩)
    · (go_enter Try.func77, Try.ntmps77; go_upto_region 2 with (go_at_call 76; refine (places_any N _ S k _ HBK.out HR.out hk).mono ?_; rw [HLO.out, HHI.out]; rintro e w1 ⟨rfl, hb1⟩; ((try clear c0); have HB1 := Lib.hid (bel HB0.out hb1); have c1 := (old_of HB1.out).1; clear hb1); obtain ⟨wb, hwb, HBb, hszb, hblkb⟩ := box1 w1 (.cells #[.int .i64 0, .int .i64 0] 30); have HZb := Lib.hid hblkb; have z0 := cell_blk hblkb 0 rfl; have z1 := cell_blk hblkb 1 rfl; have y0 := free_blk hblkb 0; have y1 := free_blk hblkb 1; clear hblkb); obtain ⟨w2, hw2, hz2, ho2, hb2⟩ := put2o HZb.out (.int .i64 lo) (.int .i64 hi); rw [hw2]; have x0 := cell_blk hz2 0 rfl; have x1 := cell_blk hz2 1 rfl; have HBx : Hid (Below w1.heap.size w1 w2) := HBb.out.trans hb2; have HB2 : Hid (Below ws.heap.size ws w2) := bel HB1.out HBx.out; have r2 := (HB2.out.cell (p := ⟨w.heap.size, 2, none⟩) hsz).trans q2; clear hw2 hz2 ho2 hb2 z0 z1 y0 y1 hwb c1; go_wp2_with fail; go_ret; exact ⟨ret_int (by rw [HPZ.out]; rw [if_neg (show ¬ (hi : Int) ≤ S.Z by omega), if_neg (show ¬ S.Z < (lo : Int) by omega)]), fin HB.out HB2.out⟩)

set_option maxHeartbeats 6400000 in
set_option maxRecDepth 100000 in
theorem rTotal_any (N : Nat) (v : Value) (S : JB) (a er : Int) (w : World) (h : ShowAt N w v S) (her : errA (okS S) (inN a S.np) = er) :
    Calls Try.prog 45 #[v, .int .i64 a] w fun e w' => e = .returned (.tuple #[.agg #[.int .i64 (sp er (loT S a.toNat)), .int .i64 (sp er (hiT S a.toNat))], .int .i64 er]) ∧ Below w.heap.size w w' := by
  obtain ⟨a1, c1, rfl⟩ := h.form
  obtain ⟨ws, hws, HB, hsz, hsz1, hblk, hblk1⟩ := box2 w (.cells #[.int .i64 S.J, .int .i64 S.D, .int .i64 S.Z, .slice a1 S.np c1] 24) (.cells #[.int .i64 0, .int .i64 0] 30)
  have q0 := cell_blk hblk 0 rfl
  have q1 := cell_blk hblk 1 rfl
  have q2 := cell_blk hblk 2 rfl
  have q3 := cell_blk hblk 3 rfl
  have HNZ : Hid (N ≤ w.heap.size) := h.1
  have HBK := Lib.hid (h.go HB.out)
  have HB0 : Hid (Below ws.heap.size ws ws) := Below.refl _ _
  have HNS : Hid (N ≤ ws.heap.size) := HBK.out.1
  have HZ1 := Lib.hid hblk1
  have hlen := h.len
  have HSQ : Hid (∀ W, Below ws.heap.size ws W → (W.cell? ⟨w.heap.size, 0, none⟩ = some (.int .i64 S.J) ∧ W.cell? ⟨w.heap.size, 1, none⟩ = some (.int .i64 S.D) ∧ W.cell? ⟨w.heap.size, 2, none⟩ = some (.int .i64 S.Z) ∧ W.cell? ⟨w.heap.size, 3, none⟩ = some (.slice a1 S.np c1))) := fun W hW => ⟨(hW.cell (p := ⟨w.heap.size, 0, none⟩) hsz).trans q0, (hW.cell (p := ⟨w.heap.size, 1, none⟩) hsz).trans q1, (hW.cell (p := ⟨w.heap.size, 2, none⟩) hsz).trans q2, (hW.cell (p := ⟨w.heap.size, 3, none⟩) hsz).trans q3⟩
  clear hblk hblk1 h
  have HER := Lib.hid her
  clear q0 q1 q2 q3
  by_cases h0 : er = 0
  · obtain ⟨hok, hin⟩ := errA_ok (her.trans h0)
    obtain ⟨k, rfl, hk⟩ := inN_nat hin
    have HRD := Lib.hid (okS_good hok).rd
    obtain ⟨lo, hlo⟩ : ∃ lo : Int, ((loT S k : Int) : Int) = lo := ⟨_, rfl⟩
    obtain ⟨hi, hhi⟩ : ∃ hi : Int, ((hiT S k : Int) : Int) = hi := ⟨_, rfl⟩
    have HLO := Lib.hid hlo
    have HHI := Lib.hid hhi
    have HSL : Hid (sp er (loT S (k : Int).toNat) = lo) := by rw [h0, Int.toNat_natCast]; unfold Hid; rw [sp_ok]; exact hlo
    have HSH : Hid (sp er (hiT S (k : Int).toNat) = hi) := by rw [h0, Int.toNat_natCast]; unfold Hid; rw [sp_ok]; exact hhi
    have HE0 := Lib.hid h0
    have hne : (er != 0) = false := by rw [h0]; rfl
    clear her h0 hok hin hlo hhi
    go_enter Try.func45, Try.ntmps45
    go_upto_region 1 with fail
    clear hws
    have hS0 := HSQ.out ws.drew (Below.refl _ _).drew
    refine wp_region_held_drew (S := fun W => (W.cell? ⟨w.heap.size, 0, none⟩ = some (.int .i64 S.J) ∧ W.cell? ⟨w.heap.size, 1, none⟩ = some (.int .i64 S.D) ∧ W.cell? ⟨w.heap.size, 2, none⟩ = some (.int .i64 S.Z) ∧ W.cell? ⟨w.heap.size, 3, none⟩ = some (.slice a1 S.np c1))) (by kernel_rfl) hS0 (fun hHeld => ?_)
    (refine wpAnyH_take (i := 0) (v := ?_) rfl (by kernel_rfl) (by kernel_rfl) (by kernel_rfl) (fun _ _ _ h => h) (Or.inl ⟨by rfl, ?_⟩) (by assumption) ?_; rotate_left; (focus (intro w hSw; (try dsimp only at hSw); go_simp; (try with_reducible rfl))); (try simp only [List.getElem_toArray, List.getElem_cons_zero, List.getElem_cons_succ, Act.put, List.setIfInBounds_toArray, List.set_cons_zero, List.set_cons_succ])); (refine wpAnyH_take (i := 1) (v := ?_) rfl (by kernel_rfl) (by kernel_rfl) (by kernel_rfl) (fun _ _ _ h => h) (Or.inl ⟨by rfl, ?_⟩) (by assumption) ?_; rotate_left; (focus (intro w hSw; (try dsimp only at hSw); go_simp; (try with_reducible rfl))); (try simp only [List.getElem_toArray, List.getElem_cons_zero, List.getElem_cons_succ, Act.put, List.setIfInBounds_toArray, List.set_cons_zero, List.set_cons_succ])); (refine wpAnyH_take (i := 2) (v := ?_) rfl (by kernel_rfl) (by kernel_rfl) (by kernel_rfl) (fun _ _ _ h => h) (Or.inl ⟨by rfl, ?_⟩) (by assumption) ?_; rotate_left; (focus (intro w hSw; (try dsimp only at hSw); go_simp; (try with_reducible rfl))); (try simp only [List.getElem_toArray, List.getElem_cons_zero, List.getElem_cons_succ, Act.put, List.setIfInBounds_toArray, List.set_cons_zero, List.set_cons_succ]))
    refine wpAnyH_ready (rs := [3]) (by kernel_rfl) (by simp) ?_; refine AllReadyH.cons rfl (fun K hK => ?_) AllReadyH.nil; go_simp
    go_at_call 36; refine (isPlate_any N _ S k _ (HBK.out.go (Below.refl _ _).drew)).mono ?_
    rintro e w1 ⟨rfl, hb1⟩
    have HB1 : Hid (Below ws.heap.size ws w1) := (Below.refl _ _).drew.trans hb1
    have hS1 := HSQ.out w1 HB1.out
    clear hb1
    refine hK.out _ _ hS1 (fun hHeld => ?_); clear hK K; (try simp only [List.getElem_toArray, List.getElem_cons_zero, List.getElem_cons_succ, Act.put, List.setIfInBounds_toArray, List.set_cons_zero, List.set_cons_succ])
    refine wpAnyH_ready (rs := [4]) (by kernel_rfl) (by simp) ?_; refine AllReadyH.cons rfl (fun K hK => ?_) AllReadyH.nil; go_simp
    go_at_call 73; refine (ask_any N _ S _ _ (HBK.out.go HB1.out)).mono ?_; rw [HER.out]
    rintro e w2 ⟨rfl, hb2⟩
    have HB2 : Hid (Below ws.heap.size ws w2) := bel HB1.out hb2
    have hS2 := HSQ.out w2 HB2.out
    clear hb2 hS1
    refine hK.out _ _ hS2 (fun hHeld => ?_); clear hK K; (try simp only [List.getElem_toArray, List.getElem_cons_zero, List.getElem_cons_succ, Act.put, List.setIfInBounds_toArray, List.set_cons_zero, List.set_cons_succ])
    (refine wpAnyH_take (i := 5) (v := ?_) rfl (by kernel_rfl) (by kernel_rfl) (by kernel_rfl) (fun _ _ _ h => h) (Or.inl ⟨by rfl, ?_⟩) (by assumption) ?_; rotate_left; (focus (intro w hSw; (try dsimp only at hSw); go_simp; (try with_reducible rfl))); (try simp only [List.getElem_toArray, List.getElem_cons_zero, List.getElem_cons_succ, Act.put, List.setIfInBounds_toArray, List.set_cons_zero, List.set_cons_succ]))
    refine wpAnyH_done (by kernel_rfl) ?_ _; clear hHeld
    obtain ⟨r0, r1, r2, r3⟩ := hS2
    go_upto_region 4 with fail
    have HZ2 := Lib.hid ((HB2.out.block _ hsz1).trans HZ1.out)
    have hsz2 : w.heap.size + 1 < w2.heap.size := Nat.lt_of_lt_of_le hsz1 HB2.out.size
    go_wp2_with (go_at_call 74; refine (totals_any N _ S k _ (HBK.out.go HB2.out) HRD.out hk).mono ?_; rw [HLO.out, HHI.out]; rintro e w3 ⟨rfl, hb3⟩; have hz3 := (hb3.block _ hsz2).trans HZ2.out; have HZ3 := Lib.hid hz3; have x0 := cell_blk hz3 0 rfl; have x1 := cell_blk hz3 1 rfl; have y0 := free_blk hz3 0; have y1 := free_blk hz3 1; have HB3 : Hid (Below ws.heap.size ws w3) := bel HB2.out hb3; clear hb3 hz3)
    obtain ⟨w4, hw4, hz4, ho4, hb4⟩ := put2o HZ3.out (.int .i64 lo) (.int .i64 hi)
    rw [hw4]
    have s0 := cell_blk hz4 0 rfl
    have s1 := cell_blk hz4 1 rfl
    exact bodyPost_ret (v := .tuple #[.agg #[.int .i64 lo, .int .i64 hi], .int .i64 0]) (by simp [results, Try.results45, go_sem, s0, s1]) rfl ⟨by rw [HSL.out, HSH.out, HE0.out], HB.out.trans ((HB3.out.mono HB.out.size).trans (hb4.mono (by omega)))⟩
  · have HSL : Hid (sp er (loT S a.toNat) = 0) := sp_no h0 _
    have HSH : Hid (sp er (hiT S a.toNat) = 0) := sp_no h0 _
    have hne : (er != 0) = true := by simpa using h0
    clear her h0
    go_enter Try.func45, Try.ntmps45
    go_upto_region 1 with fail
    clear hws
    have hS0 := HSQ.out ws.drew (Below.refl _ _).drew
    refine wp_region_held_drew (S := fun W => (W.cell? ⟨w.heap.size, 0, none⟩ = some (.int .i64 S.J) ∧ W.cell? ⟨w.heap.size, 1, none⟩ = some (.int .i64 S.D) ∧ W.cell? ⟨w.heap.size, 2, none⟩ = some (.int .i64 S.Z) ∧ W.cell? ⟨w.heap.size, 3, none⟩ = some (.slice a1 S.np c1))) (by kernel_rfl) hS0 (fun hHeld => ?_)
    (refine wpAnyH_take (i := 0) (v := ?_) rfl (by kernel_rfl) (by kernel_rfl) (by kernel_rfl) (fun _ _ _ h => h) (Or.inl ⟨by rfl, ?_⟩) (by assumption) ?_; rotate_left; (focus (intro w hSw; (try dsimp only at hSw); go_simp; (try with_reducible rfl))); (try simp only [List.getElem_toArray, List.getElem_cons_zero, List.getElem_cons_succ, Act.put, List.setIfInBounds_toArray, List.set_cons_zero, List.set_cons_succ])); (refine wpAnyH_take (i := 1) (v := ?_) rfl (by kernel_rfl) (by kernel_rfl) (by kernel_rfl) (fun _ _ _ h => h) (Or.inl ⟨by rfl, ?_⟩) (by assumption) ?_; rotate_left; (focus (intro w hSw; (try dsimp only at hSw); go_simp; (try with_reducible rfl))); (try simp only [List.getElem_toArray, List.getElem_cons_zero, List.getElem_cons_succ, Act.put, List.setIfInBounds_toArray, List.set_cons_zero, List.set_cons_succ])); (refine wpAnyH_take (i := 2) (v := ?_) rfl (by kernel_rfl) (by kernel_rfl) (by kernel_rfl) (fun _ _ _ h => h) (Or.inl ⟨by rfl, ?_⟩) (by assumption) ?_; rotate_left; (focus (intro w hSw; (try dsimp only at hSw); go_simp; (try with_reducible rfl))); (try simp only [List.getElem_toArray, List.getElem_cons_zero, List.getElem_cons_succ, Act.put, List.setIfInBounds_toArray, List.set_cons_zero, List.set_cons_succ]))
    refine wpAnyH_ready (rs := [3]) (by kernel_rfl) (by simp) ?_; refine AllReadyH.cons rfl (fun K hK => ?_) AllReadyH.nil; go_simp
    go_at_call 36; refine (isPlate_any N _ S a _ (HBK.out.go (Below.refl _ _).drew)).mono ?_
    rintro e w1 ⟨rfl, hb1⟩
    have HB1 : Hid (Below ws.heap.size ws w1) := (Below.refl _ _).drew.trans hb1
    have hS1 := HSQ.out w1 HB1.out
    clear hb1
    refine hK.out _ _ hS1 (fun hHeld => ?_); clear hK K; (try simp only [List.getElem_toArray, List.getElem_cons_zero, List.getElem_cons_succ, Act.put, List.setIfInBounds_toArray, List.set_cons_zero, List.set_cons_succ])
    refine wpAnyH_ready (rs := [4]) (by kernel_rfl) (by simp) ?_; refine AllReadyH.cons rfl (fun K hK => ?_) AllReadyH.nil; go_simp
    go_at_call 73; refine (ask_any N _ S _ _ (HBK.out.go HB1.out)).mono ?_; rw [HER.out]
    rintro e w2 ⟨rfl, hb2⟩
    have HB2 : Hid (Below ws.heap.size ws w2) := bel HB1.out hb2
    have hS2 := HSQ.out w2 HB2.out
    clear hb2 hS1
    refine hK.out _ _ hS2 (fun hHeld => ?_); clear hK K; (try simp only [List.getElem_toArray, List.getElem_cons_zero, List.getElem_cons_succ, Act.put, List.setIfInBounds_toArray, List.set_cons_zero, List.set_cons_succ])
    (refine wpAnyH_take (i := 5) (v := ?_) rfl (by kernel_rfl) (by kernel_rfl) (by kernel_rfl) (fun _ _ _ h => h) (Or.inl ⟨by rfl, ?_⟩) (by assumption) ?_; rotate_left; (focus (intro w hSw; (try dsimp only at hSw); go_simp; (try with_reducible rfl))); (try simp only [List.getElem_toArray, List.getElem_cons_zero, List.getElem_cons_succ, Act.put, List.setIfInBounds_toArray, List.set_cons_zero, List.set_cons_succ]))
    refine wpAnyH_done (by kernel_rfl) ?_ _; clear hHeld
    obtain ⟨r0, r1, r2, r3⟩ := hS2
    have hz2 := (HB2.out.block _ hsz1).trans HZ1.out
    have HZ2 := Lib.hid hz2
    have x0 := cell_blk hz2 0 rfl
    have x1 := cell_blk hz2 1 rfl
    have y0 := free_blk hz2 0
    have y1 := free_blk hz2 1
    clear hz2
    go_wp2_with fail
    obtain ⟨w4, hw4, hz4, ho4, hb4⟩ := put2o HZ2.out (.int .i64 0) (.int .i64 0)
    rw [hw4]
    have s0 := cell_blk hz4 0 rfl
    have s1 := cell_blk hz4 1 rfl
    exact bodyPost_ret (v := .tuple #[.agg #[.int .i64 0, .int .i64 0], .int .i64 er]) (by simp [results, Try.results45, go_sem, s0, s1]) rfl ⟨by rw [HSL.out, HSH.out], HB.out.trans ((HB2.out.mono HB.out.size).trans (hb4.mono (by omega)))⟩
set_option maxHeartbeats 6400000 in
set_option maxRecDepth 100000 in
theorem rPlace_any (N : Nat) (v : Value) (S : JB) (a er : Int) (w : World) (h : ShowAt N w v S) (her : errA (okS S) (inN a S.np) = er) :
    Calls Try.prog 48 #[v, .int .i64 a] w fun e w' => e = .returned (.tuple #[.agg #[.int .i64 (sp er (plLo S a.toNat)), .int .i64 (sp er (plHi S a.toNat))], .int .i64 er]) ∧ Below w.heap.size w w' := by
  obtain ⟨a1, c1, rfl⟩ := h.form
  obtain ⟨ws, hws, HB, hsz, hsz1, hblk, hblk1⟩ := box2 w (.cells #[.int .i64 S.J, .int .i64 S.D, .int .i64 S.Z, .slice a1 S.np c1] 24) (.cells #[.int .i64 0, .int .i64 0] 30)
  have q0 := cell_blk hblk 0 rfl
  have q1 := cell_blk hblk 1 rfl
  have q2 := cell_blk hblk 2 rfl
  have q3 := cell_blk hblk 3 rfl
  have HNZ : Hid (N ≤ w.heap.size) := h.1
  have HBK := Lib.hid (h.go HB.out)
  have HB0 : Hid (Below ws.heap.size ws ws) := Below.refl _ _
  have HNS : Hid (N ≤ ws.heap.size) := HBK.out.1
  have HZ1 := Lib.hid hblk1
  have hlen := h.len
  have HSQ : Hid (∀ W, Below ws.heap.size ws W → (W.cell? ⟨w.heap.size, 0, none⟩ = some (.int .i64 S.J) ∧ W.cell? ⟨w.heap.size, 1, none⟩ = some (.int .i64 S.D) ∧ W.cell? ⟨w.heap.size, 2, none⟩ = some (.int .i64 S.Z) ∧ W.cell? ⟨w.heap.size, 3, none⟩ = some (.slice a1 S.np c1))) := fun W hW => ⟨(hW.cell (p := ⟨w.heap.size, 0, none⟩) hsz).trans q0, (hW.cell (p := ⟨w.heap.size, 1, none⟩) hsz).trans q1, (hW.cell (p := ⟨w.heap.size, 2, none⟩) hsz).trans q2, (hW.cell (p := ⟨w.heap.size, 3, none⟩) hsz).trans q3⟩
  clear hblk hblk1 h
  have HER := Lib.hid her
  clear q0 q1 q2 q3
  by_cases h0 : er = 0
  · obtain ⟨hok, hin⟩ := errA_ok (her.trans h0)
    obtain ⟨k, rfl, hk⟩ := inN_nat hin
    have HRD := Lib.hid (okS_good hok).rd
    obtain ⟨lo, hlo⟩ : ∃ lo : Int, ((plLo S k : Nat) : Int) = lo := ⟨_, rfl⟩
    obtain ⟨hi, hhi⟩ : ∃ hi : Int, ((plHi S k : Nat) : Int) = hi := ⟨_, rfl⟩
    have HLO := Lib.hid hlo
    have HHI := Lib.hid hhi
    have HSL : Hid (sp er (plLo S (k : Int).toNat) = lo) := by rw [h0, Int.toNat_natCast]; unfold Hid; rw [sp_ok]; exact hlo
    have HSH : Hid (sp er (plHi S (k : Int).toNat) = hi) := by rw [h0, Int.toNat_natCast]; unfold Hid; rw [sp_ok]; exact hhi
    have HE0 := Lib.hid h0
    have hne : (er != 0) = false := by rw [h0]; rfl
    clear her h0 hok hin hlo hhi
    go_enter Try.func48, Try.ntmps48
    go_upto_region 1 with fail
    clear hws
    have hS0 := HSQ.out ws.drew (Below.refl _ _).drew
    refine wp_region_held_drew (S := fun W => (W.cell? ⟨w.heap.size, 0, none⟩ = some (.int .i64 S.J) ∧ W.cell? ⟨w.heap.size, 1, none⟩ = some (.int .i64 S.D) ∧ W.cell? ⟨w.heap.size, 2, none⟩ = some (.int .i64 S.Z) ∧ W.cell? ⟨w.heap.size, 3, none⟩ = some (.slice a1 S.np c1))) (by kernel_rfl) hS0 (fun hHeld => ?_)
    (refine wpAnyH_take (i := 0) (v := ?_) rfl (by kernel_rfl) (by kernel_rfl) (by kernel_rfl) (fun _ _ _ h => h) (Or.inl ⟨by rfl, ?_⟩) (by assumption) ?_; rotate_left; (focus (intro w hSw; (try dsimp only at hSw); go_simp; (try with_reducible rfl))); (try simp only [List.getElem_toArray, List.getElem_cons_zero, List.getElem_cons_succ, Act.put, List.setIfInBounds_toArray, List.set_cons_zero, List.set_cons_succ])); (refine wpAnyH_take (i := 1) (v := ?_) rfl (by kernel_rfl) (by kernel_rfl) (by kernel_rfl) (fun _ _ _ h => h) (Or.inl ⟨by rfl, ?_⟩) (by assumption) ?_; rotate_left; (focus (intro w hSw; (try dsimp only at hSw); go_simp; (try with_reducible rfl))); (try simp only [List.getElem_toArray, List.getElem_cons_zero, List.getElem_cons_succ, Act.put, List.setIfInBounds_toArray, List.set_cons_zero, List.set_cons_succ])); (refine wpAnyH_take (i := 2) (v := ?_) rfl (by kernel_rfl) (by kernel_rfl) (by kernel_rfl) (fun _ _ _ h => h) (Or.inl ⟨by rfl, ?_⟩) (by assumption) ?_; rotate_left; (focus (intro w hSw; (try dsimp only at hSw); go_simp; (try with_reducible rfl))); (try simp only [List.getElem_toArray, List.getElem_cons_zero, List.getElem_cons_succ, Act.put, List.setIfInBounds_toArray, List.set_cons_zero, List.set_cons_succ]))
    refine wpAnyH_ready (rs := [3]) (by kernel_rfl) (by simp) ?_; refine AllReadyH.cons rfl (fun K hK => ?_) AllReadyH.nil; go_simp
    go_at_call 36; refine (isPlate_any N _ S k _ (HBK.out.go (Below.refl _ _).drew)).mono ?_
    rintro e w1 ⟨rfl, hb1⟩
    have HB1 : Hid (Below ws.heap.size ws w1) := (Below.refl _ _).drew.trans hb1
    have hS1 := HSQ.out w1 HB1.out
    clear hb1
    refine hK.out _ _ hS1 (fun hHeld => ?_); clear hK K; (try simp only [List.getElem_toArray, List.getElem_cons_zero, List.getElem_cons_succ, Act.put, List.setIfInBounds_toArray, List.set_cons_zero, List.set_cons_succ])
    refine wpAnyH_ready (rs := [4]) (by kernel_rfl) (by simp) ?_; refine AllReadyH.cons rfl (fun K hK => ?_) AllReadyH.nil; go_simp
    go_at_call 73; refine (ask_any N _ S _ _ (HBK.out.go HB1.out)).mono ?_; rw [HER.out]
    rintro e w2 ⟨rfl, hb2⟩
    have HB2 : Hid (Below ws.heap.size ws w2) := bel HB1.out hb2
    have hS2 := HSQ.out w2 HB2.out
    clear hb2 hS1
    refine hK.out _ _ hS2 (fun hHeld => ?_); clear hK K; (try simp only [List.getElem_toArray, List.getElem_cons_zero, List.getElem_cons_succ, Act.put, List.setIfInBounds_toArray, List.set_cons_zero, List.set_cons_succ])
    (refine wpAnyH_take (i := 5) (v := ?_) rfl (by kernel_rfl) (by kernel_rfl) (by kernel_rfl) (fun _ _ _ h => h) (Or.inl ⟨by rfl, ?_⟩) (by assumption) ?_; rotate_left; (focus (intro w hSw; (try dsimp only at hSw); go_simp; (try with_reducible rfl))); (try simp only [List.getElem_toArray, List.getElem_cons_zero, List.getElem_cons_succ, Act.put, List.setIfInBounds_toArray, List.set_cons_zero, List.set_cons_succ]))
    refine wpAnyH_done (by kernel_rfl) ?_ _; clear hHeld
    obtain ⟨r0, r1, r2, r3⟩ := hS2
    go_upto_region 4 with fail
    have HZ2 := Lib.hid ((HB2.out.block _ hsz1).trans HZ1.out)
    have hsz2 : w.heap.size + 1 < w2.heap.size := Nat.lt_of_lt_of_le hsz1 HB2.out.size
    go_wp2_with (go_at_call 76; refine (places_any N _ S k _ (HBK.out.go HB2.out) HRD.out hk).mono ?_; rw [HLO.out, HHI.out]; rintro e w3 ⟨rfl, hb3⟩; have hz3 := (hb3.block _ hsz2).trans HZ2.out; have HZ3 := Lib.hid hz3; have x0 := cell_blk hz3 0 rfl; have x1 := cell_blk hz3 1 rfl; have y0 := free_blk hz3 0; have y1 := free_blk hz3 1; have HB3 : Hid (Below ws.heap.size ws w3) := bel HB2.out hb3; clear hb3 hz3)
    obtain ⟨w4, hw4, hz4, ho4, hb4⟩ := put2o HZ3.out (.int .i64 lo) (.int .i64 hi)
    rw [hw4]
    have s0 := cell_blk hz4 0 rfl
    have s1 := cell_blk hz4 1 rfl
    exact bodyPost_ret (v := .tuple #[.agg #[.int .i64 lo, .int .i64 hi], .int .i64 0]) (by simp [results, Try.results48, go_sem, s0, s1]) rfl ⟨by rw [HSL.out, HSH.out, HE0.out], HB.out.trans ((HB3.out.mono HB.out.size).trans (hb4.mono (by omega)))⟩
  · have HSL : Hid (sp er (plLo S a.toNat) = 0) := sp_no h0 _
    have HSH : Hid (sp er (plHi S a.toNat) = 0) := sp_no h0 _
    have hne : (er != 0) = true := by simpa using h0
    clear her h0
    go_enter Try.func48, Try.ntmps48
    go_upto_region 1 with fail
    clear hws
    have hS0 := HSQ.out ws.drew (Below.refl _ _).drew
    refine wp_region_held_drew (S := fun W => (W.cell? ⟨w.heap.size, 0, none⟩ = some (.int .i64 S.J) ∧ W.cell? ⟨w.heap.size, 1, none⟩ = some (.int .i64 S.D) ∧ W.cell? ⟨w.heap.size, 2, none⟩ = some (.int .i64 S.Z) ∧ W.cell? ⟨w.heap.size, 3, none⟩ = some (.slice a1 S.np c1))) (by kernel_rfl) hS0 (fun hHeld => ?_)
    (refine wpAnyH_take (i := 0) (v := ?_) rfl (by kernel_rfl) (by kernel_rfl) (by kernel_rfl) (fun _ _ _ h => h) (Or.inl ⟨by rfl, ?_⟩) (by assumption) ?_; rotate_left; (focus (intro w hSw; (try dsimp only at hSw); go_simp; (try with_reducible rfl))); (try simp only [List.getElem_toArray, List.getElem_cons_zero, List.getElem_cons_succ, Act.put, List.setIfInBounds_toArray, List.set_cons_zero, List.set_cons_succ])); (refine wpAnyH_take (i := 1) (v := ?_) rfl (by kernel_rfl) (by kernel_rfl) (by kernel_rfl) (fun _ _ _ h => h) (Or.inl ⟨by rfl, ?_⟩) (by assumption) ?_; rotate_left; (focus (intro w hSw; (try dsimp only at hSw); go_simp; (try with_reducible rfl))); (try simp only [List.getElem_toArray, List.getElem_cons_zero, List.getElem_cons_succ, Act.put, List.setIfInBounds_toArray, List.set_cons_zero, List.set_cons_succ])); (refine wpAnyH_take (i := 2) (v := ?_) rfl (by kernel_rfl) (by kernel_rfl) (by kernel_rfl) (fun _ _ _ h => h) (Or.inl ⟨by rfl, ?_⟩) (by assumption) ?_; rotate_left; (focus (intro w hSw; (try dsimp only at hSw); go_simp; (try with_reducible rfl))); (try simp only [List.getElem_toArray, List.getElem_cons_zero, List.getElem_cons_succ, Act.put, List.setIfInBounds_toArray, List.set_cons_zero, List.set_cons_succ]))
    refine wpAnyH_ready (rs := [3]) (by kernel_rfl) (by simp) ?_; refine AllReadyH.cons rfl (fun K hK => ?_) AllReadyH.nil; go_simp
    go_at_call 36; refine (isPlate_any N _ S a _ (HBK.out.go (Below.refl _ _).drew)).mono ?_
    rintro e w1 ⟨rfl, hb1⟩
    have HB1 : Hid (Below ws.heap.size ws w1) := (Below.refl _ _).drew.trans hb1
    have hS1 := HSQ.out w1 HB1.out
    clear hb1
    refine hK.out _ _ hS1 (fun hHeld => ?_); clear hK K; (try simp only [List.getElem_toArray, List.getElem_cons_zero, List.getElem_cons_succ, Act.put, List.setIfInBounds_toArray, List.set_cons_zero, List.set_cons_succ])
    refine wpAnyH_ready (rs := [4]) (by kernel_rfl) (by simp) ?_; refine AllReadyH.cons rfl (fun K hK => ?_) AllReadyH.nil; go_simp
    go_at_call 73; refine (ask_any N _ S _ _ (HBK.out.go HB1.out)).mono ?_; rw [HER.out]
    rintro e w2 ⟨rfl, hb2⟩
    have HB2 : Hid (Below ws.heap.size ws w2) := bel HB1.out hb2
    have hS2 := HSQ.out w2 HB2.out
    clear hb2 hS1
    refine hK.out _ _ hS2 (fun hHeld => ?_); clear hK K; (try simp only [List.getElem_toArray, List.getElem_cons_zero, List.getElem_cons_succ, Act.put, List.setIfInBounds_toArray, List.set_cons_zero, List.set_cons_succ])
    (refine wpAnyH_take (i := 5) (v := ?_) rfl (by kernel_rfl) (by kernel_rfl) (by kernel_rfl) (fun _ _ _ h => h) (Or.inl ⟨by rfl, ?_⟩) (by assumption) ?_; rotate_left; (focus (intro w hSw; (try dsimp only at hSw); go_simp; (try with_reducible rfl))); (try simp only [List.getElem_toArray, List.getElem_cons_zero, List.getElem_cons_succ, Act.put, List.setIfInBounds_toArray, List.set_cons_zero, List.set_cons_succ]))
    refine wpAnyH_done (by kernel_rfl) ?_ _; clear hHeld
    obtain ⟨r0, r1, r2, r3⟩ := hS2
    have hz2 := (HB2.out.block _ hsz1).trans HZ1.out
    have HZ2 := Lib.hid hz2
    have x0 := cell_blk hz2 0 rfl
    have x1 := cell_blk hz2 1 rfl
    have y0 := free_blk hz2 0
    have y1 := free_blk hz2 1
    clear hz2
    go_wp2_with fail
    obtain ⟨w4, hw4, hz4, ho4, hb4⟩ := put2o HZ2.out (.int .i64 0) (.int .i64 0)
    rw [hw4]
    have s0 := cell_blk hz4 0 rfl
    have s1 := cell_blk hz4 1 rfl
    exact bodyPost_ret (v := .tuple #[.agg #[.int .i64 0, .int .i64 0], .int .i64 er]) (by simp [results, Try.results48, go_sem, s0, s1]) rfl ⟨by rw [HSL.out, HSH.out], HB.out.trans ((HB2.out.mono HB.out.size).trans (hb4.mono (by omega)))⟩
end Go.Proofs.Ytffnlimgjnhmpaa

namespace Go.Proofs.Ytffnlimgjnhmpaa
open Go.RowKit

set_option maxHeartbeats 6400000 in
set_option maxRecDepth 100000 in
theorem rPrize_any (N : Nat) (v : Value) (S : JB) (a er : Int) (w : World) (h : ShowAt N w v S) (her : errA (okS S) (inN a S.np) = er) :
    Calls Try.prog 49 #[v, .int .i64 a] w fun e w' => e = .returned (.tuple #[.int .i64 (sp er (prz S a.toNat)), .int .i64 er]) ∧ Below w.heap.size w w' := by
  obtain ⟨a1, c1, rfl⟩ := h.form
  obtain ⟨ws, hws, HB, hsz, hblk⟩ := box1 w (.cells #[.int .i64 S.J, .int .i64 S.D, .int .i64 S.Z, .slice a1 S.np c1] 24)
  have q0 := cell_blk hblk 0 rfl
  have q1 := cell_blk hblk 1 rfl
  have q2 := cell_blk hblk 2 rfl
  have q3 := cell_blk hblk 3 rfl
  have HNZ : Hid (N ≤ w.heap.size) := h.1
  have HBK := Lib.hid (h.go HB.out)
  have HB0 : Hid (Below ws.heap.size ws ws) := Below.refl _ _
  have HNS : Hid (N ≤ ws.heap.size) := HBK.out.1
  have hlen := h.len
  clear hblk h
  have HER := Lib.hid her
  have HSQ : Hid (∀ W, Below ws.heap.size ws W → (W.cell? ⟨w.heap.size, 0, none⟩ = some (.int .i64 S.J) ∧ W.cell? ⟨w.heap.size, 1, none⟩ = some (.int .i64 S.D) ∧ W.cell? ⟨w.heap.size, 2, none⟩ = some (.int .i64 S.Z) ∧ W.cell? ⟨w.heap.size, 3, none⟩ = some (.slice a1 S.np c1))) := fun W hW => ⟨(hW.cell (p := ⟨w.heap.size, 0, none⟩) hsz).trans q0, (hW.cell (p := ⟨w.heap.size, 1, none⟩) hsz).trans q1, (hW.cell (p := ⟨w.heap.size, 2, none⟩) hsz).trans q2, (hW.cell (p := ⟨w.heap.size, 3, none⟩) hsz).trans q3⟩
  clear q0 q1 q2 q3
  by_cases h0 : er = 0
  · obtain ⟨hok, hin⟩ := errA_ok (her.trans h0)
    obtain ⟨k, rfl, hk⟩ := inN_nat hin
    have HRD := Lib.hid (okS_good hok).rd
    obtain ⟨pz, hpz⟩ : ∃ lo : Int, prz S k = lo := ⟨_, rfl⟩
    have HPZ := Lib.hid hpz
    have HSP : Hid (sp er (prz S (k : Int).toNat) = pz) := by rw [h0, Int.toNat_natCast]; unfold Hid; rw [sp_ok]; exact hpz
    have HE0 := Lib.hid h0
    have hne : (er != 0) = false := by rw [h0]; rfl
    clear her h0 hok hin hpz
    go_enter Try.func49, Try.ntmps49
    go_upto_region 1 with fail
    clear hws
    have hS0 := HSQ.out ws.drew (Below.refl _ _).drew
    refine wp_region_held_drew (S := fun W => (W.cell? ⟨w.heap.size, 0, none⟩ = some (.int .i64 S.J) ∧ W.cell? ⟨w.heap.size, 1, none⟩ = some (.int .i64 S.D) ∧ W.cell? ⟨w.heap.size, 2, none⟩ = some (.int .i64 S.Z) ∧ W.cell? ⟨w.heap.size, 3, none⟩ = some (.slice a1 S.np c1))) (by kernel_rfl) hS0 (fun hHeld => ?_)
    (refine wpAnyH_take (i := 0) (v := ?_) rfl (by kernel_rfl) (by kernel_rfl) (by kernel_rfl) (fun _ _ _ h => h) (Or.inl ⟨by rfl, ?_⟩) (by assumption) ?_; rotate_left; (focus (intro w hSw; (try dsimp only at hSw); go_simp; (try with_reducible rfl))); (try simp only [List.getElem_toArray, List.getElem_cons_zero, List.getElem_cons_succ, Act.put, List.setIfInBounds_toArray, List.set_cons_zero, List.set_cons_succ])); (refine wpAnyH_take (i := 1) (v := ?_) rfl (by kernel_rfl) (by kernel_rfl) (by kernel_rfl) (fun _ _ _ h => h) (Or.inl ⟨by rfl, ?_⟩) (by assumption) ?_; rotate_left; (focus (intro w hSw; (try dsimp only at hSw); go_simp; (try with_reducible rfl))); (try simp only [List.getElem_toArray, List.getElem_cons_zero, List.getElem_cons_succ, Act.put, List.setIfInBounds_toArray, List.set_cons_zero, List.set_cons_succ])); (refine wpAnyH_take (i := 2) (v := ?_) rfl (by kernel_rfl) (by kernel_rfl) (by kernel_rfl) (fun _ _ _ h => h) (Or.inl ⟨by rfl, ?_⟩) (by assumption) ?_; rotate_left; (focus (intro w hSw; (try dsimp only at hSw); go_simp; (try with_reducible rfl))); (try simp only [List.getElem_toArray, List.getElem_cons_zero, List.getElem_cons_succ, Act.put, List.setIfInBounds_toArray, List.set_cons_zero, List.set_cons_succ]))
    refine wpAnyH_ready (rs := [3]) (by kernel_rfl) (by simp) ?_; refine AllReadyH.cons rfl (fun K hK => ?_) AllReadyH.nil; go_simp
    go_at_call 36; refine (isPlate_any N _ S k _ (HBK.out.go (Below.refl _ _).drew)).mono ?_
    rintro e w1 ⟨rfl, hb1⟩
    have HB1 : Hid (Below ws.heap.size ws w1) := (Below.refl _ _).drew.trans hb1
    have hS1 := HSQ.out w1 HB1.out
    clear hb1
    refine hK.out _ _ hS1 (fun hHeld => ?_); clear hK K; (try simp only [List.getElem_toArray, List.getElem_cons_zero, List.getElem_cons_succ, Act.put, List.setIfInBounds_toArray, List.set_cons_zero, List.set_cons_succ])
    refine wpAnyH_ready (rs := [4]) (by kernel_rfl) (by simp) ?_; refine AllReadyH.cons rfl (fun K hK => ?_) AllReadyH.nil; go_simp
    go_at_call 73; refine (ask_any N _ S _ _ (HBK.out.go HB1.out)).mono ?_; rw [HER.out]
    rintro e w2 ⟨rfl, hb2⟩
    have HB2 : Hid (Below ws.heap.size ws w2) := bel HB1.out hb2
    have hS2 := HSQ.out w2 HB2.out
    clear hb2 hS1
    refine hK.out _ _ hS2 (fun hHeld => ?_); clear hK K; (try simp only [List.getElem_toArray, List.getElem_cons_zero, List.getElem_cons_succ, Act.put, List.setIfInBounds_toArray, List.set_cons_zero, List.set_cons_succ])
    (refine wpAnyH_take (i := 5) (v := ?_) rfl (by kernel_rfl) (by kernel_rfl) (by kernel_rfl) (fun _ _ _ h => h) (Or.inl ⟨by rfl, ?_⟩) (by assumption) ?_; rotate_left; (focus (intro w hSw; (try dsimp only at hSw); go_simp; (try with_reducible rfl))); (try simp only [List.getElem_toArray, List.getElem_cons_zero, List.getElem_cons_succ, Act.put, List.setIfInBounds_toArray, List.set_cons_zero, List.set_cons_succ]))
    refine wpAnyH_done (by kernel_rfl) ?_ _; clear hHeld
    obtain ⟨r0, r1, r2, r3⟩ := hS2
    go_wp2_with (go_at_call 77; refine (prize_any N _ S k _ (HBK.out.go HB2.out) HRD.out hk).mono ?_; rw [HPZ.out]; rintro e w3 ⟨rfl, hb3⟩; have HB3 : Hid (Below ws.heap.size ws w3) := bel HB2.out hb3; clear hb3)
    go_ret2
    exact ⟨by rw [HSP.out, HE0.out]; rfl, fin HB.out HB3.out⟩
  · have HSP : Hid (sp er (prz S a.toNat) = 0) := sp_no h0 _
    have hne : (er != 0) = true := by simpa using h0
    clear her h0
    go_enter Try.func49, Try.ntmps49
    go_upto_region 1 with fail
    clear hws
    have hS0 := HSQ.out ws.drew (Below.refl _ _).drew
    refine wp_region_held_drew (S := fun W => (W.cell? ⟨w.heap.size, 0, none⟩ = some (.int .i64 S.J) ∧ W.cell? ⟨w.heap.size, 1, none⟩ = some (.int .i64 S.D) ∧ W.cell? ⟨w.heap.size, 2, none⟩ = some (.int .i64 S.Z) ∧ W.cell? ⟨w.heap.size, 3, none⟩ = some (.slice a1 S.np c1))) (by kernel_rfl) hS0 (fun hHeld => ?_)
    (refine wpAnyH_take (i := 0) (v := ?_) rfl (by kernel_rfl) (by kernel_rfl) (by kernel_rfl) (fun _ _ _ h => h) (Or.inl ⟨by rfl, ?_⟩) (by assumption) ?_; rotate_left; (focus (intro w hSw; (try dsimp only at hSw); go_simp; (try with_reducible rfl))); (try simp only [List.getElem_toArray, List.getElem_cons_zero, List.getElem_cons_succ, Act.put, List.setIfInBounds_toArray, List.set_cons_zero, List.set_cons_succ])); (refine wpAnyH_take (i := 1) (v := ?_) rfl (by kernel_rfl) (by kernel_rfl) (by kernel_rfl) (fun _ _ _ h => h) (Or.inl ⟨by rfl, ?_⟩) (by assumption) ?_; rotate_left; (focus (intro w hSw; (try dsimp only at hSw); go_simp; (try with_reducible rfl))); (try simp only [List.getElem_toArray, List.getElem_cons_zero, List.getElem_cons_succ, Act.put, List.setIfInBounds_toArray, List.set_cons_zero, List.set_cons_succ])); (refine wpAnyH_take (i := 2) (v := ?_) rfl (by kernel_rfl) (by kernel_rfl) (by kernel_rfl) (fun _ _ _ h => h) (Or.inl ⟨by rfl, ?_⟩) (by assumption) ?_; rotate_left; (focus (intro w hSw; (try dsimp only at hSw); go_simp; (try with_reducible rfl))); (try simp only [List.getElem_toArray, List.getElem_cons_zero, List.getElem_cons_succ, Act.put, List.setIfInBounds_toArray, List.set_cons_zero, List.set_cons_succ]))
    refine wpAnyH_ready (rs := [3]) (by kernel_rfl) (by simp) ?_; refine AllReadyH.cons rfl (fun K hK => ?_) AllReadyH.nil; go_simp
    go_at_call 36; refine (isPlate_any N _ S a _ (HBK.out.go (Below.refl _ _).drew)).mono ?_
    rintro e w1 ⟨rfl, hb1⟩
    have HB1 : Hid (Below ws.heap.size ws w1) := (Below.refl _ _).drew.trans hb1
    have hS1 := HSQ.out w1 HB1.out
    clear hb1
    refine hK.out _ _ hS1 (fun hHeld => ?_); clear hK K; (try simp only [List.getElem_toArray, List.getElem_cons_zero, List.getElem_cons_succ, Act.put, List.setIfInBounds_toArray, List.set_cons_zero, List.set_cons_succ])
    refine wpAnyH_ready (rs := [4]) (by kernel_rfl) (by simp) ?_; refine AllReadyH.cons rfl (fun K hK => ?_) AllReadyH.nil; go_simp
    go_at_call 73; refine (ask_any N _ S _ _ (HBK.out.go HB1.out)).mono ?_; rw [HER.out]
    rintro e w2 ⟨rfl, hb2⟩
    have HB2 : Hid (Below ws.heap.size ws w2) := bel HB1.out hb2
    have hS2 := HSQ.out w2 HB2.out
    clear hb2 hS1
    refine hK.out _ _ hS2 (fun hHeld => ?_); clear hK K; (try simp only [List.getElem_toArray, List.getElem_cons_zero, List.getElem_cons_succ, Act.put, List.setIfInBounds_toArray, List.set_cons_zero, List.set_cons_succ])
    (refine wpAnyH_take (i := 5) (v := ?_) rfl (by kernel_rfl) (by kernel_rfl) (by kernel_rfl) (fun _ _ _ h => h) (Or.inl ⟨by rfl, ?_⟩) (by assumption) ?_; rotate_left; (focus (intro w hSw; (try dsimp only at hSw); go_simp; (try with_reducible rfl))); (try simp only [List.getElem_toArray, List.getElem_cons_zero, List.getElem_cons_succ, Act.put, List.setIfInBounds_toArray, List.set_cons_zero, List.set_cons_succ]))
    refine wpAnyH_done (by kernel_rfl) ?_ _; clear hHeld
    obtain ⟨r0, r1, r2, r3⟩ := hS2
    go_wp2_with fail
    go_ret2
    exact ⟨by rw [HSP.out]; rfl, fin HB.out HB2.out⟩

/-- two plates of the show? -/
def two (S : JB) (a b : Int) : Bool := (inN a S.np && inN b S.np) && (a != b)
theorem bet_lo (S : JB) {i j : Nat} (h : j ≠ i) : bet (totI (filS S i 0 20)) S.sz i j = btr S.sz i j (loT S i) (hiT S j) := by
  rw [totI_hi]; unfold bet btr; rw [upd_at, upd_ne h]
theorem bet_hi (S : JB) {i j : Nat} (h : j ≠ i) : bet (totI (filS S i 20 0)) S.sz i j = btr S.sz i j (hiT S i) (loT S j) := by
  rw [totI_lo]; unfold bet btr; rw [upd_at, upd_ne h]


set_option maxHeartbeats 6400000 in
set_option maxRecDepth 100000 in
theorem rBetter_any (N : Nat) (v : Value) (S : JB) (a b er : Int) (w : World) (h : ShowAt N w v S) (her : errA (okS S) (two S a b) = er) :
    Calls Try.prog 46 #[v, .int .i64 a, .int .i64 b] w fun e w' => e = .returned (.tuple #[.int .i64 (sp er (kno S a.toNat b.toNat)), .int .i64 er]) ∧ Below w.heap.size w w' := by
  obtain ⟨a1, c1, rfl⟩ := h.form
  obtain ⟨ws, hws, HB, hsz, hblk⟩ := box1 w (.cells #[.int .i64 S.J, .int .i64 S.D, .int .i64 S.Z, .slice a1 S.np c1] 24)
  have q0 := cell_blk hblk 0 rfl
  have q1 := cell_blk hblk 1 rfl
  have q2 := cell_blk hblk 2 rfl
  have q3 := cell_blk hblk 3 rfl
  have HNZ : Hid (N ≤ w.heap.size) := h.1
  have HBK := Lib.hid (h.go HB.out)
  have HB0 : Hid (Below ws.heap.size ws ws) := Below.refl _ _
  have HNS : Hid (N ≤ ws.heap.size) := HBK.out.1
  have hlen := h.len
  clear hblk h
  have HSQ : Hid (∀ W, Below ws.heap.size ws W → (W.cell? ⟨w.heap.size, 0, none⟩ = some (.int .i64 S.J) ∧ W.cell? ⟨w.heap.size, 1, none⟩ = some (.int .i64 S.D) ∧ W.cell? ⟨w.heap.size, 2, none⟩ = some (.int .i64 S.Z) ∧ W.cell? ⟨w.heap.size, 3, none⟩ = some (.slice a1 S.np c1))) := fun W hW => ⟨(hW.cell (p := ⟨w.heap.size, 0, none⟩) hsz).trans q0, (hW.cell (p := ⟨w.heap.size, 1, none⟩) hsz).trans q1, (hW.cell (p := ⟨w.heap.size, 2, none⟩) hsz).trans q2, (hW.cell (p := ⟨w.heap.size, 3, none⟩) hsz).trans q3⟩
  clear q0 q1 q2 q3
  cases hia : inN a S.np with
  | false =>
    have HIA := Lib.hid hia
    have hd : two S a b = false := by unfold two; rw [hia]; rfl
    rw [hd] at her
    have h0 : er ≠ 0 := by rw [← her]; exact errA_no (by simp)
    have HER := Lib.hid her
    have HSP : Hid (sp er (kno S a.toNat b.toNat) = 0) := sp_no h0 _
    have hne : (er != 0) = true := by simpa using h0
    clear her h0 hia hd
    go_enter Try.func46, Try.ntmps46
    go_upto_region 1 with fail
    clear hws
    have hS0 := HSQ.out ws.drew (Below.refl _ _).drew
    refine wp_region_held_drew (S := fun W => (W.cell? ⟨w.heap.size, 0, none⟩ = some (.int .i64 S.J) ∧ W.cell? ⟨w.heap.size, 1, none⟩ = some (.int .i64 S.D) ∧ W.cell? ⟨w.heap.size, 2, none⟩ = some (.int .i64 S.Z) ∧ W.cell? ⟨w.heap.size, 3, none⟩ = some (.slice a1 S.np c1))) (by kernel_rfl) hS0 (fun hHeld => ?_)
    (refine wpAnyH_take (i := 0) (v := ?_) rfl (by kernel_rfl) (by kernel_rfl) (by kernel_rfl) (fun _ _ _ h => h) (Or.inl ⟨by rfl, ?_⟩) (by assumption) ?_; rotate_left; (focus (intro w hSw; (try dsimp only at hSw); go_simp; (try with_reducible rfl))); (try simp only [List.getElem_toArray, List.getElem_cons_zero, List.getElem_cons_succ, Act.put, List.setIfInBounds_toArray, List.set_cons_zero, List.set_cons_succ])); (refine wpAnyH_take (i := 1) (v := ?_) rfl (by kernel_rfl) (by kernel_rfl) (by kernel_rfl) (fun _ _ _ h => h) (Or.inl ⟨by rfl, ?_⟩) (by assumption) ?_; rotate_left; (focus (intro w hSw; (try dsimp only at hSw); go_simp; (try with_reducible rfl))); (try simp only [List.getElem_toArray, List.getElem_cons_zero, List.getElem_cons_succ, Act.put, List.setIfInBounds_toArray, List.set_cons_zero, List.set_cons_succ])); (refine wpAnyH_take (i := 2) (v := ?_) rfl (by kernel_rfl) (by kernel_rfl) (by kernel_rfl) (fun _ _ _ h => h) (Or.inl ⟨by rfl, ?_⟩) (by assumption) ?_; rotate_left; (focus (intro w hSw; (try dsimp only at hSw); go_simp; (try with_reducible rfl))); (try simp only [List.getElem_toArray, List.getElem_cons_zero, List.getElem_cons_succ, Act.put, List.setIfInBounds_toArray, List.set_cons_zero, List.set_cons_succ]))
    refine wpAnyH_ready (rs := [3]) (by kernel_rfl) (by simp) ?_; refine AllReadyH.cons rfl (fun K hK => ?_) AllReadyH.nil; go_simp
    go_at_call 36
    refine (isPlate_any N _ S a _ (HBK.out.go (Below.refl _ _).drew)).mono ?_
    rw [HIA.out]
    rintro e w1 ⟨rfl, hb1⟩
    have HB1 : Hid (Below ws.heap.size ws w1) := (Below.refl _ _).drew.trans hb1
    have hS1 := HSQ.out w1 HB1.out
    clear hb1
    refine hK.out _ _ hS1 (fun hHeld => ?_); clear hK K; (try simp only [List.getElem_toArray, List.getElem_cons_zero, List.getElem_cons_succ, Act.put, List.setIfInBounds_toArray, List.set_cons_zero, List.set_cons_succ])
    (refine wpAnyH_take (i := 4) (v := ?_) rfl (by kernel_rfl) (by kernel_rfl) (by kernel_rfl) (fun _ _ _ h => h) (Or.inl ⟨by rfl, ?_⟩) (by assumption) ?_; rotate_left; (focus (intro w hSw; (try dsimp only at hSw); go_simp; (try with_reducible rfl))); (try simp only [List.getElem_toArray, List.getElem_cons_zero, List.getElem_cons_succ, Act.put, List.setIfInBounds_toArray, List.set_cons_zero, List.set_cons_succ]))
    (refine wpAnyH_take (i := 5) (v := undef) rfl (by kernel_rfl) (by kernel_rfl) (by kernel_rfl) (fun _ _ _ h => h) (Or.inr ⟨by rfl, rfl⟩) (by assumption) ?_; (try simp only [List.getElem_toArray, List.getElem_cons_zero, List.getElem_cons_succ, Act.put, List.setIfInBounds_toArray, List.set_cons_zero, List.set_cons_succ])); (refine wpAnyH_take (i := 6) (v := undef) rfl (by kernel_rfl) (by kernel_rfl) (by kernel_rfl) (fun _ _ _ h => h) (Or.inr ⟨by rfl, rfl⟩) (by assumption) ?_; (try simp only [List.getElem_toArray, List.getElem_cons_zero, List.getElem_cons_succ, Act.put, List.setIfInBounds_toArray, List.set_cons_zero, List.set_cons_succ])); (refine wpAnyH_take (i := 7) (v := undef) rfl (by kernel_rfl) (by kernel_rfl) (by kernel_rfl) (fun _ _ _ h => h) (Or.inr ⟨by rfl, rfl⟩) (by assumption) ?_; (try simp only [List.getElem_toArray, List.getElem_cons_zero, List.getElem_cons_succ, Act.put, List.setIfInBounds_toArray, List.set_cons_zero, List.set_cons_succ]))
    (refine wpAnyH_take (i := 8) (v := ?_) rfl (by kernel_rfl) (by kernel_rfl) (by kernel_rfl) (fun _ _ _ h => h) (Or.inl ⟨by rfl, ?_⟩) (by assumption) ?_; rotate_left; (focus (intro w hSw; (try dsimp only at hSw); go_simp; (try with_reducible rfl))); (try simp only [List.getElem_toArray, List.getElem_cons_zero, List.getElem_cons_succ, Act.put, List.setIfInBounds_toArray, List.set_cons_zero, List.set_cons_succ])); (refine wpAnyH_take (i := 9) (v := ?_) rfl (by kernel_rfl) (by kernel_rfl) (by kernel_rfl) (fun _ _ _ h => h) (Or.inl ⟨by rfl, ?_⟩) (by assumption) ?_; rotate_left; (focus (intro w hSw; (try dsimp only at hSw); go_simp; (try with_reducible rfl))); (try simp only [List.getElem_toArray, List.getElem_cons_zero, List.getElem_cons_succ, Act.put, List.setIfInBounds_toArray, List.set_cons_zero, List.set_cons_succ]))
    (refine wpAnyH_take (i := 10) (v := undef) rfl (by kernel_rfl) (by kernel_rfl) (by kernel_rfl) (fun _ _ _ h => h) (Or.inr ⟨by rfl, rfl⟩) (by assumption) ?_; (try simp only [List.getElem_toArray, List.getElem_cons_zero, List.getElem_cons_succ, Act.put, List.setIfInBounds_toArray, List.set_cons_zero, List.set_cons_succ])); (refine wpAnyH_take (i := 11) (v := undef) rfl (by kernel_rfl) (by kernel_rfl) (by kernel_rfl) (fun _ _ _ h => h) (Or.inr ⟨by rfl, rfl⟩) (by assumption) ?_; (try simp only [List.getElem_toArray, List.getElem_cons_zero, List.getElem_cons_succ, Act.put, List.setIfInBounds_toArray, List.set_cons_zero, List.set_cons_succ])); (refine wpAnyH_take (i := 12) (v := undef) rfl (by kernel_rfl) (by kernel_rfl) (by kernel_rfl) (fun _ _ _ h => h) (Or.inr ⟨by rfl, rfl⟩) (by assumption) ?_; (try simp only [List.getElem_toArray, List.getElem_cons_zero, List.getElem_cons_succ, Act.put, List.setIfInBounds_toArray, List.set_cons_zero, List.set_cons_succ]))
    (refine wpAnyH_take (i := 13) (v := ?_) rfl (by kernel_rfl) (by kernel_rfl) (by kernel_rfl) (fun _ _ _ h => h) (Or.inl ⟨by rfl, ?_⟩) (by assumption) ?_; rotate_left; (focus (intro w hSw; (try dsimp only at hSw); go_simp; (try with_reducible rfl))); (try simp only [List.getElem_toArray, List.getElem_cons_zero, List.getElem_cons_succ, Act.put, List.setIfInBounds_toArray, List.set_cons_zero, List.set_cons_succ]))
    refine wpAnyH_ready (rs := [14]) (by kernel_rfl) (by simp) ?_; refine AllReadyH.cons rfl (fun K hK => ?_) AllReadyH.nil; go_simp
    go_at_call 73
    refine (ask_any N _ S _ _ (HBK.out.go HB1.out)).mono ?_
    rw [HER.out]
    rintro e w3 ⟨rfl, hb3⟩
    have HB3 : Hid (Below ws.heap.size ws w3) := bel HB1.out hb3
    have hS3 := HSQ.out w3 HB3.out
    clear hb3 hS1
    refine hK.out _ _ hS3 (fun hHeld => ?_); clear hK K; (try simp only [List.getElem_toArray, List.getElem_cons_zero, List.getElem_cons_succ, Act.put, List.setIfInBounds_toArray, List.set_cons_zero, List.set_cons_succ])
    (refine wpAnyH_take (i := 15) (v := ?_) rfl (by kernel_rfl) (by kernel_rfl) (by kernel_rfl) (fun _ _ _ h => h) (Or.inl ⟨by rfl, ?_⟩) (by assumption) ?_; rotate_left; (focus (intro w hSw; (try dsimp only at hSw); go_simp; (try with_reducible rfl))); (try simp only [List.getElem_toArray, List.getElem_cons_zero, List.getElem_cons_succ, Act.put, List.setIfInBounds_toArray, List.set_cons_zero, List.set_cons_succ]))
    refine wpAnyH_done (by kernel_rfl) ?_ _; clear hHeld
    obtain ⟨r0, r1, r2, r3⟩ := hS3
    go_wp2_with fail
    go_ret2
    exact ⟨by rw [HSP.out]; rfl, fin HB.out HB3.out⟩
  | true =>
  have HIA := Lib.hid hia
  cases hib : inN b S.np with
  | false =>
    have HIB := Lib.hid hib
    have hd : two S a b = false := by unfold two; rw [hia, hib]; rfl
    rw [hd] at her
    have h0 : er ≠ 0 := by rw [← her]; exact errA_no (by simp)
    have HER := Lib.hid her
    have HSP : Hid (sp er (kno S a.toNat b.toNat) = 0) := sp_no h0 _
    have hne : (er != 0) = true := by simpa using h0
    clear her h0 hia hib hd
    go_enter Try.func46, Try.ntmps46
    go_upto_region 1 with fail
    clear hws
    have hS0 := HSQ.out ws.drew (Below.refl _ _).drew
    refine wp_region_held_drew (S := fun W => (W.cell? ⟨w.heap.size, 0, none⟩ = some (.int .i64 S.J) ∧ W.cell? ⟨w.heap.size, 1, none⟩ = some (.int .i64 S.D) ∧ W.cell? ⟨w.heap.size, 2, none⟩ = some (.int .i64 S.Z) ∧ W.cell? ⟨w.heap.size, 3, none⟩ = some (.slice a1 S.np c1))) (by kernel_rfl) hS0 (fun hHeld => ?_)
    (refine wpAnyH_take (i := 0) (v := ?_) rfl (by kernel_rfl) (by kernel_rfl) (by kernel_rfl) (fun _ _ _ h => h) (Or.inl ⟨by rfl, ?_⟩) (by assumption) ?_; rotate_left; (focus (intro w hSw; (try dsimp only at hSw); go_simp; (try with_reducible rfl))); (try simp only [List.getElem_toArray, List.getElem_cons_zero, List.getElem_cons_succ, Act.put, List.setIfInBounds_toArray, List.set_cons_zero, List.set_cons_succ])); (refine wpAnyH_take (i := 1) (v := ?_) rfl (by kernel_rfl) (by kernel_rfl) (by kernel_rfl) (fun _ _ _ h => h) (Or.inl ⟨by rfl, ?_⟩) (by assumption) ?_; rotate_left; (focus (intro w hSw; (try dsimp only at hSw); go_simp; (try with_reducible rfl))); (try simp only [List.getElem_toArray, List.getElem_cons_zero, List.getElem_cons_succ, Act.put, List.setIfInBounds_toArray, List.set_cons_zero, List.set_cons_succ])); (refine wpAnyH_take (i := 2) (v := ?_) rfl (by kernel_rfl) (by kernel_rfl) (by kernel_rfl) (fun _ _ _ h => h) (Or.inl ⟨by rfl, ?_⟩) (by assumption) ?_; rotate_left; (focus (intro w hSw; (try dsimp only at hSw); go_simp; (try with_reducible rfl))); (try simp only [List.getElem_toArray, List.getElem_cons_zero, List.getElem_cons_succ, Act.put, List.setIfInBounds_toArray, List.set_cons_zero, List.set_cons_succ]))
    refine wpAnyH_ready (rs := [3]) (by kernel_rfl) (by simp) ?_; refine AllReadyH.cons rfl (fun K hK => ?_) AllReadyH.nil; go_simp
    go_at_call 36
    refine (isPlate_any N _ S a _ (HBK.out.go (Below.refl _ _).drew)).mono ?_
    rw [HIA.out]
    rintro e w1 ⟨rfl, hb1⟩
    have HB1 : Hid (Below ws.heap.size ws w1) := (Below.refl _ _).drew.trans hb1
    have hS1 := HSQ.out w1 HB1.out
    clear hb1
    refine hK.out _ _ hS1 (fun hHeld => ?_); clear hK K; (try simp only [List.getElem_toArray, List.getElem_cons_zero, List.getElem_cons_succ, Act.put, List.setIfInBounds_toArray, List.set_cons_zero, List.set_cons_succ])
    (refine wpAnyH_take (i := 4) (v := ?_) rfl (by kernel_rfl) (by kernel_rfl) (by kernel_rfl) (fun _ _ _ h => h) (Or.inl ⟨by rfl, ?_⟩) (by assumption) ?_; rotate_left; (focus (intro w hSw; (try dsimp only at hSw); go_simp; (try with_reducible rfl))); (try simp only [List.getElem_toArray, List.getElem_cons_zero, List.getElem_cons_succ, Act.put, List.setIfInBounds_toArray, List.set_cons_zero, List.set_cons_succ]))
    (refine wpAnyH_take (i := 5) (v := ?_) rfl (by kernel_rfl) (by kernel_rfl) (by kernel_rfl) (fun _ _ _ h => h) (Or.inl ⟨by rfl, ?_⟩) (by assumption) ?_; rotate_left; (focus (intro w hSw; (try dsimp only at hSw); go_simp; (try with_reducible rfl))); (try simp only [List.getElem_toArray, List.getElem_cons_zero, List.getElem_cons_succ, Act.put, List.setIfInBounds_toArray, List.set_cons_zero, List.set_cons_succ])); (refine wpAnyH_take (i := 6) (v := ?_) rfl (by kernel_rfl) (by kernel_rfl) (by kernel_rfl) (fun _ _ _ h => h) (Or.inl ⟨by rfl, ?_⟩) (by assumption) ?_; rotate_left; (focus (intro w hSw; (try dsimp only at hSw); go_simp; (try with_reducible rfl))); (try simp only [List.getElem_toArray, List.getElem_cons_zero, List.getElem_cons_succ, Act.put, List.setIfInBounds_toArray, List.set_cons_zero, List.set_cons_succ]))
    refine wpAnyH_ready (rs := [7]) (by kernel_rfl) (by simp) ?_; refine AllReadyH.cons rfl (fun K hK => ?_) AllReadyH.nil; go_simp
    go_at_call 36
    refine (isPlate_any N _ S b _ (HBK.out.go HB1.out)).mono ?_
    rw [HIB.out]
    rintro e w2 ⟨rfl, hb2⟩
    have HB2 : Hid (Below ws.heap.size ws w2) := bel HB1.out hb2
    have hS2 := HSQ.out w2 HB2.out
    clear hb2 hS1
    refine hK.out _ _ hS2 (fun hHeld => ?_); clear hK K; (try simp only [List.getElem_toArray, List.getElem_cons_zero, List.getElem_cons_succ, Act.put, List.setIfInBounds_toArray, List.set_cons_zero, List.set_cons_succ])
    (refine wpAnyH_take (i := 8) (v := ?_) rfl (by kernel_rfl) (by kernel_rfl) (by kernel_rfl) (fun _ _ _ h => h) (Or.inl ⟨by rfl, ?_⟩) (by assumption) ?_; rotate_left; (focus (intro w hSw; (try dsimp only at hSw); go_simp; (try with_reducible rfl))); (try simp only [List.getElem_toArray, List.getElem_cons_zero, List.getElem_cons_succ, Act.put, List.setIfInBounds_toArray, List.set_cons_zero, List.set_cons_succ])); (refine wpAnyH_take (i := 9) (v := ?_) rfl (by kernel_rfl) (by kernel_rfl) (by kernel_rfl) (fun _ _ _ h => h) (Or.inl ⟨by rfl, ?_⟩) (by assumption) ?_; rotate_left; (focus (intro w hSw; (try dsimp only at hSw); go_simp; (try with_reducible rfl))); (try simp only [List.getElem_toArray, List.getElem_cons_zero, List.getElem_cons_succ, Act.put, List.setIfInBounds_toArray, List.set_cons_zero, List.set_cons_succ]))
    (refine wpAnyH_take (i := 10) (v := undef) rfl (by kernel_rfl) (by kernel_rfl) (by kernel_rfl) (fun _ _ _ h => h) (Or.inr ⟨by rfl, rfl⟩) (by assumption) ?_; (try simp only [List.getElem_toArray, List.getElem_cons_zero, List.getElem_cons_succ, Act.put, List.setIfInBounds_toArray, List.set_cons_zero, List.set_cons_succ])); (refine wpAnyH_take (i := 11) (v := undef) rfl (by kernel_rfl) (by kernel_rfl) (by kernel_rfl) (fun _ _ _ h => h) (Or.inr ⟨by rfl, rfl⟩) (by assumption) ?_; (try simp only [List.getElem_toArray, List.getElem_cons_zero, List.getElem_cons_succ, Act.put, List.setIfInBounds_toArray, List.set_cons_zero, List.set_cons_succ])); (refine wpAnyH_take (i := 12) (v := undef) rfl (by kernel_rfl) (by kernel_rfl) (by kernel_rfl) (fun _ _ _ h => h) (Or.inr ⟨by rfl, rfl⟩) (by assumption) ?_; (try simp only [List.getElem_toArray, List.getElem_cons_zero, List.getElem_cons_succ, Act.put, List.setIfInBounds_toArray, List.set_cons_zero, List.set_cons_succ]))
    (refine wpAnyH_take (i := 13) (v := ?_) rfl (by kernel_rfl) (by kernel_rfl) (by kernel_rfl) (fun _ _ _ h => h) (Or.inl ⟨by rfl, ?_⟩) (by assumption) ?_; rotate_left; (focus (intro w hSw; (try dsimp only at hSw); go_simp; (try with_reducible rfl))); (try simp only [List.getElem_toArray, List.getElem_cons_zero, List.getElem_cons_succ, Act.put, List.setIfInBounds_toArray, List.set_cons_zero, List.set_cons_succ]))
    refine wpAnyH_ready (rs := [14]) (by kernel_rfl) (by simp) ?_; refine AllReadyH.cons rfl (fun K hK => ?_) AllReadyH.nil; go_simp
    go_at_call 73
    refine (ask_any N _ S _ _ (HBK.out.go HB2.out)).mono ?_
    rw [HER.out]
    rintro e w3 ⟨rfl, hb3⟩
    have HB3 : Hid (Below ws.heap.size ws w3) := bel HB2.out hb3
    have hS3 := HSQ.out w3 HB3.out
    clear hb3 hS2
    refine hK.out _ _ hS3 (fun hHeld => ?_); clear hK K; (try simp only [List.getElem_toArray, List.getElem_cons_zero, List.getElem_cons_succ, Act.put, List.setIfInBounds_toArray, List.set_cons_zero, List.set_cons_succ])
    (refine wpAnyH_take (i := 15) (v := ?_) rfl (by kernel_rfl) (by kernel_rfl) (by kernel_rfl) (fun _ _ _ h => h) (Or.inl ⟨by rfl, ?_⟩) (by assumption) ?_; rotate_left; (focus (intro w hSw; (try dsimp only at hSw); go_simp; (try with_reducible rfl))); (try simp only [List.getElem_toArray, List.getElem_cons_zero, List.getElem_cons_succ, Act.put, List.setIfInBounds_toArray, List.set_cons_zero, List.set_cons_succ]))
    refine wpAnyH_done (by kernel_rfl) ?_ _; clear hHeld
    obtain ⟨r0, r1, r2, r3⟩ := hS3
    go_wp2_with fail
    go_ret2
    exact ⟨by rw [HSP.out]; rfl, fin HB.out HB3.out⟩
  | true =>
  have HIB := Lib.hid hib
  obtain ⟨bb, hbb⟩ : ∃ bb, (a != b) = bb := ⟨_, rfl⟩
  have hd : two S a b = bb := by unfold two; rw [hia, hib, hbb]; rfl
  rw [hd] at her
  have HER := Lib.hid her
  by_cases h0 : er = 0
  · obtain ⟨hok, hbt⟩ := errA_ok (her.trans h0)
    have hne : (er != 0) = false := by rw [h0]; rfl
    obtain ⟨i, rfl, hi⟩ := inN_nat hia
    obtain ⟨j, rfl, hj⟩ := inN_nat hib
    have hij : j ≠ i := by rw [hbt] at hbb; intro e; subst e; simp at hbb
    have HRD := Lib.hid (okS_good hok).rd
    have HR1 := Lib.hid (HRD.out.fil (p := i) (own := 0) (oth := 20) (by omega) (by omega))
    have HR2 := Lib.hid (HRD.out.fil (p := i) (own := 20) (oth := 0) (by omega) (by omega))
    have HNP := Lib.hid HRD.out.np
    have HL := Lib.hid (fun i hi => (HRD.out.len i hi).2)
    have HLS : Hid (∀ own oth k, k < S.np → ((filS S i own oth).pts k).length ≤ 1000) := fun own oth k hk => by
      have := HL.out k hk
      simp only [filS, fil_len]; omega
    have HNS2 : Hid (∀ own oth, (filS S i own oth).np ≤ 1000) := fun own oth => by have := HNP.out; simp only [filS]; omega
    obtain ⟨b1, hb1⟩ : ∃ b1, btr S.sz i j (loT S i) (hiT S j) = b1 := ⟨_, rfl⟩
    obtain ⟨b2, hb2⟩ : ∃ b2, btr S.sz i j (hiT S i) (loT S j) = b2 := ⟨_, rfl⟩
    have HT1 : Hid (bet (totI (filS S i 0 20)) (filS S i 0 20).sz i j = b1) := (bet_lo S hij).trans hb1
    have HT2 : Hid (bet (totI (filS S i 20 0)) (filS S i 20 0).sz i j = b2) := (bet_hi S hij).trans hb2
    have HKN : Hid (sp er (kno S (i : Int).toNat (j : Int).toNat) = if b1 = true then 1 else if b2 = true then 3 else 2) := by
      rw [h0, Int.toNat_natCast, Int.toNat_natCast]
      unfold Hid
      rw [sp_ok]
      unfold kno
      rw [hb1, hb2]
    have HE0 := Lib.hid h0
    clear her h0 hia hib hd hok hbt hb1 hb2 hij
    go_enter Try.func46, Try.ntmps46
    go_upto_region 1 with fail
    clear hws
    obtain ⟨a, ha⟩ : ∃ a : Int, (i : Int) = a := ⟨_, rfl⟩
    obtain ⟨b, hb⟩ : ∃ b : Int, (j : Int) = b := ⟨_, rfl⟩
    have HA := Lib.hid ha
    have HB' := Lib.hid hb
    rw [ha] at HIA hbb ⊢
    rw [hb] at HIB hbb ⊢
    clear ha hb
    have hS0 := HSQ.out ws.drew (Below.refl _ _).drew
    refine wp_region_held_drew (S := fun W => (W.cell? ⟨w.heap.size, 0, none⟩ = some (.int .i64 S.J) ∧ W.cell? ⟨w.heap.size, 1, none⟩ = some (.int .i64 S.D) ∧ W.cell? ⟨w.heap.size, 2, none⟩ = some (.int .i64 S.Z) ∧ W.cell? ⟨w.heap.size, 3, none⟩ = some (.slice a1 S.np c1))) (by kernel_rfl) hS0 (fun hHeld => ?_)
    (refine wpAnyH_take (i := 0) (v := ?_) rfl (by kernel_rfl) (by kernel_rfl) (by kernel_rfl) (fun _ _ _ h => h) (Or.inl ⟨by rfl, ?_⟩) (by assumption) ?_; rotate_left; (focus (intro w hSw; (try dsimp only at hSw); go_simp; (try with_reducible rfl))); (try simp only [List.getElem_toArray, List.getElem_cons_zero, List.getElem_cons_succ, Act.put, List.setIfInBounds_toArray, List.set_cons_zero, List.set_cons_succ])); (refine wpAnyH_take (i := 1) (v := ?_) rfl (by kernel_rfl) (by kernel_rfl) (by kernel_rfl) (fun _ _ _ h => h) (Or.inl ⟨by rfl, ?_⟩) (by assumption) ?_; rotate_left; (focus (intro w hSw; (try dsimp only at hSw); go_simp; (try with_reducible rfl))); (try simp only [List.getElem_toArray, List.getElem_cons_zero, List.getElem_cons_succ, Act.put, List.setIfInBounds_toArray, List.set_cons_zero, List.set_cons_succ])); (refine wpAnyH_take (i := 2) (v := ?_) rfl (by kernel_rfl) (by kernel_rfl) (by kernel_rfl) (fun _ _ _ h => h) (Or.inl ⟨by rfl, ?_⟩) (by assumption) ?_; rotate_left; (focus (intro w hSw; (try dsimp only at hSw); go_simp; (try with_reducible rfl))); (try simp only [List.getElem_toArray, List.getElem_cons_zero, List.getElem_cons_succ, Act.put, List.setIfInBounds_toArray, List.set_cons_zero, List.set_cons_succ]))
    refine wpAnyH_ready (rs := [3]) (by kernel_rfl) (by simp) ?_; refine AllReadyH.cons rfl (fun K hK => ?_) AllReadyH.nil; go_simp
    go_at_call 36
    refine (isPlate_any N _ S a _ (HBK.out.go (Below.refl _ _).drew)).mono ?_
    rw [HIA.out]
    rintro e w1 ⟨rfl, hb1⟩
    have HB1 : Hid (Below ws.heap.size ws w1) := (Below.refl _ _).drew.trans hb1
    have hS1 := HSQ.out w1 HB1.out
    clear hb1
    refine hK.out _ _ hS1 (fun hHeld => ?_); clear hK K; (try simp only [List.getElem_toArray, List.getElem_cons_zero, List.getElem_cons_succ, Act.put, List.setIfInBounds_toArray, List.set_cons_zero, List.set_cons_succ])
    (refine wpAnyH_take (i := 4) (v := ?_) rfl (by kernel_rfl) (by kernel_rfl) (by kernel_rfl) (fun _ _ _ h => h) (Or.inl ⟨by rfl, ?_⟩) (by assumption) ?_; rotate_left; (focus (intro w hSw; (try dsimp only at hSw); go_simp; (try with_reducible rfl))); (try simp only [List.getElem_toArray, List.getElem_cons_zero, List.getElem_cons_succ, Act.put, List.setIfInBounds_toArray, List.set_cons_zero, List.set_cons_succ]))
    (refine wpAnyH_take (i := 5) (v := ?_) rfl (by kernel_rfl) (by kernel_rfl) (by kernel_rfl) (fun _ _ _ h => h) (Or.inl ⟨by rfl, ?_⟩) (by assumption) ?_; rotate_left; (focus (intro w hSw; (try dsimp only at hSw); go_simp; (try with_reducible rfl))); (try simp only [List.getElem_toArray, List.getElem_cons_zero, List.getElem_cons_succ, Act.put, List.setIfInBounds_toArray, List.set_cons_zero, List.set_cons_succ])); (refine wpAnyH_take (i := 6) (v := ?_) rfl (by kernel_rfl) (by kernel_rfl) (by kernel_rfl) (fun _ _ _ h => h) (Or.inl ⟨by rfl, ?_⟩) (by assumption) ?_; rotate_left; (focus (intro w hSw; (try dsimp only at hSw); go_simp; (try with_reducible rfl))); (try simp only [List.getElem_toArray, List.getElem_cons_zero, List.getElem_cons_succ, Act.put, List.setIfInBounds_toArray, List.set_cons_zero, List.set_cons_succ]))
    refine wpAnyH_ready (rs := [7]) (by kernel_rfl) (by simp) ?_; refine AllReadyH.cons rfl (fun K hK => ?_) AllReadyH.nil; go_simp
    go_at_call 36
    refine (isPlate_any N _ S b _ (HBK.out.go HB1.out)).mono ?_
    rw [HIB.out]
    rintro e w2 ⟨rfl, hb2⟩
    have HB2 : Hid (Below ws.heap.size ws w2) := bel HB1.out hb2
    have hS2 := HSQ.out w2 HB2.out
    clear hb2 hS1
    refine hK.out _ _ hS2 (fun hHeld => ?_); clear hK K; (try simp only [List.getElem_toArray, List.getElem_cons_zero, List.getElem_cons_succ, Act.put, List.setIfInBounds_toArray, List.set_cons_zero, List.set_cons_succ])
    (refine wpAnyH_take (i := 8) (v := ?_) rfl (by kernel_rfl) (by kernel_rfl) (by kernel_rfl) (fun _ _ _ h => h) (Or.inl ⟨by rfl, ?_⟩) (by assumption) ?_; rotate_left; (focus (intro w hSw; (try dsimp only at hSw); go_simp; (try with_reducible rfl))); (try simp only [List.getElem_toArray, List.getElem_cons_zero, List.getElem_cons_succ, Act.put, List.setIfInBounds_toArray, List.set_cons_zero, List.set_cons_succ])); (refine wpAnyH_take (i := 9) (v := ?_) rfl (by kernel_rfl) (by kernel_rfl) (by kernel_rfl) (fun _ _ _ h => h) (Or.inl ⟨by rfl, ?_⟩) (by assumption) ?_; rotate_left; (focus (intro w hSw; (try dsimp only at hSw); go_simp; (try with_reducible rfl))); (try simp only [List.getElem_toArray, List.getElem_cons_zero, List.getElem_cons_succ, Act.put, List.setIfInBounds_toArray, List.set_cons_zero, List.set_cons_succ])); (refine wpAnyH_take (i := 10) (v := ?_) rfl (by kernel_rfl) (by kernel_rfl) (by kernel_rfl) (fun _ _ _ h => h) (Or.inl ⟨by rfl, ?_⟩) (by assumption) ?_; rotate_left; (focus (intro w hSw; (try dsimp only at hSw); go_simp; (try with_reducible rfl))); (try simp only [List.getElem_toArray, List.getElem_cons_zero, List.getElem_cons_succ, Act.put, List.setIfInBounds_toArray, List.set_cons_zero, List.set_cons_succ])); (refine wpAnyH_take (i := 11) (v := ?_) rfl (by kernel_rfl) (by kernel_rfl) (by kernel_rfl) (fun _ _ _ h => h) (Or.inl ⟨by rfl, ?_⟩) (by assumption) ?_; rotate_left; (focus (intro w hSw; (try dsimp only at hSw); go_simp; (try with_reducible rfl))); (try simp only [List.getElem_toArray, List.getElem_cons_zero, List.getElem_cons_succ, Act.put, List.setIfInBounds_toArray, List.set_cons_zero, List.set_cons_succ])); (refine wpAnyH_take (i := 12) (v := ?_) rfl (by kernel_rfl) (by kernel_rfl) (by kernel_rfl) (fun _ _ _ h => h) (Or.inl ⟨by rfl, ?_⟩) (by assumption) ?_; rotate_left; (focus (intro w hSw; (try dsimp only at hSw); go_simp; (try with_reducible rfl))); (try simp only [List.getElem_toArray, List.getElem_cons_zero, List.getElem_cons_succ, Act.put, List.setIfInBounds_toArray, List.set_cons_zero, List.set_cons_succ])); (refine wpAnyH_take (i := 13) (v := ?_) rfl (by kernel_rfl) (by kernel_rfl) (by kernel_rfl) (fun _ _ _ h => h) (Or.inl ⟨by rfl, ?_⟩) (by assumption) ?_; rotate_left; (focus (intro w hSw; (try dsimp only at hSw); go_simp; (try with_reducible rfl))); (try simp only [List.getElem_toArray, List.getElem_cons_zero, List.getElem_cons_succ, Act.put, List.setIfInBounds_toArray, List.set_cons_zero, List.set_cons_succ]))
    refine wpAnyH_ready (rs := [14]) (by kernel_rfl) (by simp) ?_; refine AllReadyH.cons rfl (fun K hK => ?_) AllReadyH.nil; go_simp
    go_at_call 73
    refine (ask_any N _ S _ _ (HBK.out.go HB2.out)).mono ?_
    rw [HER.out]
    rintro e w3 ⟨rfl, hb3⟩
    have HB3 : Hid (Below ws.heap.size ws w3) := bel HB2.out hb3
    have hS3 := HSQ.out w3 HB3.out
    clear hb3 hS2
    refine hK.out _ _ hS3 (fun hHeld => ?_); clear hK K; (try simp only [List.getElem_toArray, List.getElem_cons_zero, List.getElem_cons_succ, Act.put, List.setIfInBounds_toArray, List.set_cons_zero, List.set_cons_succ])
    (refine wpAnyH_take (i := 15) (v := ?_) rfl (by kernel_rfl) (by kernel_rfl) (by kernel_rfl) (fun _ _ _ h => h) (Or.inl ⟨by rfl, ?_⟩) (by assumption) ?_; rotate_left; (focus (intro w hSw; (try dsimp only at hSw); go_simp; (try with_reducible rfl))); (try simp only [List.getElem_toArray, List.getElem_cons_zero, List.getElem_cons_succ, Act.put, List.setIfInBounds_toArray, List.set_cons_zero, List.set_cons_succ]))
    refine wpAnyH_done (by kernel_rfl) ?_ _; clear hHeld
    obtain ⟨r0, r1, r2, r3⟩ := hS3
    rw [← HA.out, ← HB'.out]
    clear hbb
    have tok1 : Hid True := trivial
    cases b1 with
    | true =>
      go_wp2_with (first
        | (go_at_call 75; have _t := tok1; clear tok1; refine (filled_any N _ S i 0 20 _ (HBK.out.go HB3.out) HNP.out HL.out).mono ?_; rintro e w4 ⟨v4, rfl, ho4, hb4⟩; have HO4 := Lib.hid (ho4.show (HNS2.out 0 20) (HLS.out 0 20)); have HB4 : Hid (Below ws.heap.size ws w4) := bel HB3.out hb4; clear ho4 hb4)
        | (go_at_call 23; have hx := HT1; clear HT1; refine (isBetter_any _ _ (filS S i 0 20) i j _ HO4.out HR1.out hi hj).mono ?_; rw [hx.out]; rintro e w5 ⟨rfl, hb5⟩; have HB5 : Hid (Below ws.heap.size ws w5) := bel HB4.out hb5; clear hb5))
      go_ret2
      exact ⟨by rw [HKN.out, HE0.out]; rfl, fin HB.out HB5.out⟩
    | false =>
      have HSQ3 := Lib.hid (HSQ.out)
      cases b2 with
      | true =>
        go_wp2_with (first
          | (go_at_call 75; have _t := tok1; clear tok1; refine (filled_any N _ S i 0 20 _ (HBK.out.go HB3.out) HNP.out HL.out).mono ?_; rintro e w4 ⟨v4, rfl, ho4, hb4⟩; have HO4 := Lib.hid (ho4.show (HNS2.out 0 20) (HLS.out 0 20)); have HB4 : Hid (Below ws.heap.size ws w4) := bel HB3.out hb4; clear ho4 hb4)
          | (go_at_call 23; have hx := HT1; clear HT1; refine (isBetter_any _ _ (filS S i 0 20) i j _ HO4.out HR1.out hi hj).mono ?_; rw [hx.out]; rintro e w5 ⟨rfl, hb5⟩; have HB5 : Hid (Below ws.heap.size ws w5) := bel HB4.out hb5; clear hb5 HO4; obtain ⟨s0, s1, s2, s3⟩ := HSQ.out w5 HB5.out)
          | (go_at_call 75; refine (filled_any N _ S i 20 0 _ (HBK.out.go HB5.out) HNP.out HL.out).mono ?_; rintro e w6 ⟨v6, rfl, ho6, hb6⟩; have HO6 := Lib.hid (ho6.show (HNS2.out 20 0) (HLS.out 20 0)); have HB6 : Hid (Below ws.heap.size ws w6) := bel HB5.out hb6; clear ho6 hb6)
          | (go_at_call 23; refine (isBetter_any _ _ (filS S i 20 0) i j _ HO6.out HR2.out hi hj).mono ?_; rw [HT2.out]; rintro e w7 ⟨rfl, hb7⟩; have HB7 : Hid (Below ws.heap.size ws w7) := bel HB6.out hb7; clear hb7))
        go_ret2
        exact ⟨by rw [HKN.out, HE0.out]; rfl, fin HB.out HB7.out⟩
      | false =>
        go_wp2_with (first
          | (go_at_call 75; have _t := tok1; clear tok1; refine (filled_any N _ S i 0 20 _ (HBK.out.go HB3.out) HNP.out HL.out).mono ?_; rintro e w4 ⟨v4, rfl, ho4, hb4⟩; have HO4 := Lib.hid (ho4.show (HNS2.out 0 20) (HLS.out 0 20)); have HB4 : Hid (Below ws.heap.size ws w4) := bel HB3.out hb4; clear ho4 hb4)
          | (go_at_call 23; have hx := HT1; clear HT1; refine (isBetter_any _ _ (filS S i 0 20) i j _ HO4.out HR1.out hi hj).mono ?_; rw [hx.out]; rintro e w5 ⟨rfl, hb5⟩; have HB5 : Hid (Below ws.heap.size ws w5) := bel HB4.out hb5; clear hb5 HO4; obtain ⟨s0, s1, s2, s3⟩ := HSQ.out w5 HB5.out)
          | (go_at_call 75; refine (filled_any N _ S i 20 0 _ (HBK.out.go HB5.out) HNP.out HL.out).mono ?_; rintro e w6 ⟨v6, rfl, ho6, hb6⟩; have HO6 := Lib.hid (ho6.show (HNS2.out 20 0) (HLS.out 20 0)); have HB6 : Hid (Below ws.heap.size ws w6) := bel HB5.out hb6; clear ho6 hb6)
          | (go_at_call 23; refine (isBetter_any _ _ (filS S i 20 0) i j _ HO6.out HR2.out hi hj).mono ?_; rw [HT2.out]; rintro e w7 ⟨rfl, hb7⟩; have HB7 : Hid (Below ws.heap.size ws w7) := bel HB6.out hb7; clear hb7))
        go_ret2
        exact ⟨by rw [HKN.out, HE0.out]; rfl, fin HB.out HB7.out⟩
  · have HSP : Hid (sp er (kno S a.toNat b.toNat) = 0) := sp_no h0 _
    have hne : (er != 0) = true := by simpa using h0
    clear her h0 hia hib hd
    go_enter Try.func46, Try.ntmps46
    go_upto_region 1 with fail
    clear hws
    have hS0 := HSQ.out ws.drew (Below.refl _ _).drew
    refine wp_region_held_drew (S := fun W => (W.cell? ⟨w.heap.size, 0, none⟩ = some (.int .i64 S.J) ∧ W.cell? ⟨w.heap.size, 1, none⟩ = some (.int .i64 S.D) ∧ W.cell? ⟨w.heap.size, 2, none⟩ = some (.int .i64 S.Z) ∧ W.cell? ⟨w.heap.size, 3, none⟩ = some (.slice a1 S.np c1))) (by kernel_rfl) hS0 (fun hHeld => ?_)
    (refine wpAnyH_take (i := 0) (v := ?_) rfl (by kernel_rfl) (by kernel_rfl) (by kernel_rfl) (fun _ _ _ h => h) (Or.inl ⟨by rfl, ?_⟩) (by assumption) ?_; rotate_left; (focus (intro w hSw; (try dsimp only at hSw); go_simp; (try with_reducible rfl))); (try simp only [List.getElem_toArray, List.getElem_cons_zero, List.getElem_cons_succ, Act.put, List.setIfInBounds_toArray, List.set_cons_zero, List.set_cons_succ])); (refine wpAnyH_take (i := 1) (v := ?_) rfl (by kernel_rfl) (by kernel_rfl) (by kernel_rfl) (fun _ _ _ h => h) (Or.inl ⟨by rfl, ?_⟩) (by assumption) ?_; rotate_left; (focus (intro w hSw; (try dsimp only at hSw); go_simp; (try with_reducible rfl))); (try simp only [List.getElem_toArray, List.getElem_cons_zero, List.getElem_cons_succ, Act.put, List.setIfInBounds_toArray, List.set_cons_zero, List.set_cons_succ])); (refine wpAnyH_take (i := 2) (v := ?_) rfl (by kernel_rfl) (by kernel_rfl) (by kernel_rfl) (fun _ _ _ h => h) (Or.inl ⟨by rfl, ?_⟩) (by assumption) ?_; rotate_left; (focus (intro w hSw; (try dsimp only at hSw); go_simp; (try with_reducible rfl))); (try simp only [List.getElem_toArray, List.getElem_cons_zero, List.getElem_cons_succ, Act.put, List.setIfInBounds_toArray, List.set_cons_zero, List.set_cons_succ]))
    refine wpAnyH_ready (rs := [3]) (by kernel_rfl) (by simp) ?_; refine AllReadyH.cons rfl (fun K hK => ?_) AllReadyH.nil; go_simp
    go_at_call 36
    refine (isPlate_any N _ S a _ (HBK.out.go (Below.refl _ _).drew)).mono ?_
    rw [HIA.out]
    rintro e w1 ⟨rfl, hb1⟩
    have HB1 : Hid (Below ws.heap.size ws w1) := (Below.refl _ _).drew.trans hb1
    have hS1 := HSQ.out w1 HB1.out
    clear hb1
    refine hK.out _ _ hS1 (fun hHeld => ?_); clear hK K; (try simp only [List.getElem_toArray, List.getElem_cons_zero, List.getElem_cons_succ, Act.put, List.setIfInBounds_toArray, List.set_cons_zero, List.set_cons_succ])
    (refine wpAnyH_take (i := 4) (v := ?_) rfl (by kernel_rfl) (by kernel_rfl) (by kernel_rfl) (fun _ _ _ h => h) (Or.inl ⟨by rfl, ?_⟩) (by assumption) ?_; rotate_left; (focus (intro w hSw; (try dsimp only at hSw); go_simp; (try with_reducible rfl))); (try simp only [List.getElem_toArray, List.getElem_cons_zero, List.getElem_cons_succ, Act.put, List.setIfInBounds_toArray, List.set_cons_zero, List.set_cons_succ]))
    (refine wpAnyH_take (i := 5) (v := ?_) rfl (by kernel_rfl) (by kernel_rfl) (by kernel_rfl) (fun _ _ _ h => h) (Or.inl ⟨by rfl, ?_⟩) (by assumption) ?_; rotate_left; (focus (intro w hSw; (try dsimp only at hSw); go_simp; (try with_reducible rfl))); (try simp only [List.getElem_toArray, List.getElem_cons_zero, List.getElem_cons_succ, Act.put, List.setIfInBounds_toArray, List.set_cons_zero, List.set_cons_succ])); (refine wpAnyH_take (i := 6) (v := ?_) rfl (by kernel_rfl) (by kernel_rfl) (by kernel_rfl) (fun _ _ _ h => h) (Or.inl ⟨by rfl, ?_⟩) (by assumption) ?_; rotate_left; (focus (intro w hSw; (try dsimp only at hSw); go_simp; (try with_reducible rfl))); (try simp only [List.getElem_toArray, List.getElem_cons_zero, List.getElem_cons_succ, Act.put, List.setIfInBounds_toArray, List.set_cons_zero, List.set_cons_succ]))
    refine wpAnyH_ready (rs := [7]) (by kernel_rfl) (by simp) ?_; refine AllReadyH.cons rfl (fun K hK => ?_) AllReadyH.nil; go_simp
    go_at_call 36
    refine (isPlate_any N _ S b _ (HBK.out.go HB1.out)).mono ?_
    rw [HIB.out]
    rintro e w2 ⟨rfl, hb2⟩
    have HB2 : Hid (Below ws.heap.size ws w2) := bel HB1.out hb2
    have hS2 := HSQ.out w2 HB2.out
    clear hb2 hS1
    refine hK.out _ _ hS2 (fun hHeld => ?_); clear hK K; (try simp only [List.getElem_toArray, List.getElem_cons_zero, List.getElem_cons_succ, Act.put, List.setIfInBounds_toArray, List.set_cons_zero, List.set_cons_succ])
    (refine wpAnyH_take (i := 8) (v := ?_) rfl (by kernel_rfl) (by kernel_rfl) (by kernel_rfl) (fun _ _ _ h => h) (Or.inl ⟨by rfl, ?_⟩) (by assumption) ?_; rotate_left; (focus (intro w hSw; (try dsimp only at hSw); go_simp; (try with_reducible rfl))); (try simp only [List.getElem_toArray, List.getElem_cons_zero, List.getElem_cons_succ, Act.put, List.setIfInBounds_toArray, List.set_cons_zero, List.set_cons_succ])); (refine wpAnyH_take (i := 9) (v := ?_) rfl (by kernel_rfl) (by kernel_rfl) (by kernel_rfl) (fun _ _ _ h => h) (Or.inl ⟨by rfl, ?_⟩) (by assumption) ?_; rotate_left; (focus (intro w hSw; (try dsimp only at hSw); go_simp; (try with_reducible rfl))); (try simp only [List.getElem_toArray, List.getElem_cons_zero, List.getElem_cons_succ, Act.put, List.setIfInBounds_toArray, List.set_cons_zero, List.set_cons_succ])); (refine wpAnyH_take (i := 10) (v := ?_) rfl (by kernel_rfl) (by kernel_rfl) (by kernel_rfl) (fun _ _ _ h => h) (Or.inl ⟨by rfl, ?_⟩) (by assumption) ?_; rotate_left; (focus (intro w hSw; (try dsimp only at hSw); go_simp; (try with_reducible rfl))); (try simp only [List.getElem_toArray, List.getElem_cons_zero, List.getElem_cons_succ, Act.put, List.setIfInBounds_toArray, List.set_cons_zero, List.set_cons_succ])); (refine wpAnyH_take (i := 11) (v := ?_) rfl (by kernel_rfl) (by kernel_rfl) (by kernel_rfl) (fun _ _ _ h => h) (Or.inl ⟨by rfl, ?_⟩) (by assumption) ?_; rotate_left; (focus (intro w hSw; (try dsimp only at hSw); go_simp; (try with_reducible rfl))); (try simp only [List.getElem_toArray, List.getElem_cons_zero, List.getElem_cons_succ, Act.put, List.setIfInBounds_toArray, List.set_cons_zero, List.set_cons_succ])); (refine wpAnyH_take (i := 12) (v := ?_) rfl (by kernel_rfl) (by kernel_rfl) (by kernel_rfl) (fun _ _ _ h => h) (Or.inl ⟨by rfl, ?_⟩) (by assumption) ?_; rotate_left; (focus (intro w hSw; (try dsimp only at hSw); go_simp; (try with_reducible rfl))); (try simp only [List.getElem_toArray, List.getElem_cons_zero, List.getElem_cons_succ, Act.put, List.setIfInBounds_toArray, List.set_cons_zero, List.set_cons_succ])); (refine wpAnyH_take (i := 13) (v := ?_) rfl (by kernel_rfl) (by kernel_rfl) (by kernel_rfl) (fun _ _ _ h => h) (Or.inl ⟨by rfl, ?_⟩) (by assumption) ?_; rotate_left; (focus (intro w hSw; (try dsimp only at hSw); go_simp; (try with_reducible rfl))); (try simp only [List.getElem_toArray, List.getElem_cons_zero, List.getElem_cons_succ, Act.put, List.setIfInBounds_toArray, List.set_cons_zero, List.set_cons_succ]))
    refine wpAnyH_ready (rs := [14]) (by kernel_rfl) (by simp) ?_; refine AllReadyH.cons rfl (fun K hK => ?_) AllReadyH.nil; go_simp
    go_at_call 73
    refine (ask_any N _ S _ _ (HBK.out.go HB2.out)).mono ?_
    rw [HER.out]
    rintro e w3 ⟨rfl, hb3⟩
    have HB3 : Hid (Below ws.heap.size ws w3) := bel HB2.out hb3
    have hS3 := HSQ.out w3 HB3.out
    clear hb3 hS2
    refine hK.out _ _ hS3 (fun hHeld => ?_); clear hK K; (try simp only [List.getElem_toArray, List.getElem_cons_zero, List.getElem_cons_succ, Act.put, List.setIfInBounds_toArray, List.set_cons_zero, List.set_cons_succ])
    (refine wpAnyH_take (i := 15) (v := ?_) rfl (by kernel_rfl) (by kernel_rfl) (by kernel_rfl) (fun _ _ _ h => h) (Or.inl ⟨by rfl, ?_⟩) (by assumption) ?_; rotate_left; (focus (intro w hSw; (try dsimp only at hSw); go_simp; (try with_reducible rfl))); (try simp only [List.getElem_toArray, List.getElem_cons_zero, List.getElem_cons_succ, Act.put, List.setIfInBounds_toArray, List.set_cons_zero, List.set_cons_succ]))
    refine wpAnyH_done (by kernel_rfl) ?_ _; clear hHeld
    obtain ⟨r0, r1, r2, r3⟩ := hS3
    clear hbb
    go_wp2_with fail
    go_ret2
    exact ⟨by rw [HSP.out]; rfl, fin HB.out HB3.out⟩

end Go.Proofs.Ytffnlimgjnhmpaa
