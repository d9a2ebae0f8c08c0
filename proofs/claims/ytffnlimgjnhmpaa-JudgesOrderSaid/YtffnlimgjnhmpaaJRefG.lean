/-
  JRefG: ask, AllIn, closed, places, prize of the reference.
-/
import Derived.Test.YtffnlimgjnhmpaaJRefT
import Derived.Test.YtffnlimgjnhmpaaJRefF
namespace Go.Proofs.Ytffnlimgjnhmpaa
open Go.RowKit

theorem totI_lo (S : JB) (k : Nat) : totI (filS S k 20 0) = upd (loT S) k (hiT S k) := by
  funext j
  unfold totI upd loT hiT filS
  by_cases e : j = k
  · subst e; simp
  · have e' : ¬ (j : Int) = (k : Int) := by omega
    simp [e, e']
theorem totI_hi (S : JB) (k : Nat) : totI (filS S k 0 20) = upd (hiT S) k (loT S k) := by
  funext j
  unfold totI upd loT hiT filS
  by_cases e : j = k
  · subst e; simp
  · have e' : ¬ (j : Int) = (k : Int) := by omega
    simp [e, e']
theorem plc_lo (S : JB) (k : Nat) : plc (filS S k 20 0) k = plLo S k := by unfold plc plLo; rw [totI_lo]; rfl
theorem plc_hi (S : JB) (k : Nat) : plc (filS S k 0 20) k = plHi S k := by unfold plc plHi; rw [totI_hi]; rfl

set_option maxHeartbeats 3200000 in
theorem ask_any (N : Nat) (v : Value) (S : JB) (is : Bool) (w : World) (h : ShowAt N w v S) :
    Calls Try.prog 73 #[v, .bool is] w fun e w' => e = .returned (.int .i64 (errA (okS S) is)) ∧ Below w.heap.size w w' := by
  obtain ⟨a1, c1, rfl⟩ := h.form
  obtain ⟨ws, hws, HB, hsz, hblk⟩ := box1 w (.cells #[.int .i64 S.J, .int .i64 S.D, .int .i64 S.Z, .slice a1 S.np c1] 24)
  have q0 := cell_blk hblk 0 rfl
  have q1 := cell_blk hblk 1 rfl
  have q2 := cell_blk hblk 2 rfl
  have q3 := cell_blk hblk 3 rfl
  have HNZ : Hid (N ≤ w.heap.size) := h.1
  have HBK := Lib.hid (h.go HB.out)
  have HB0 : Hid (Below ws.heap.size ws ws) := Below.refl _ _
  have HNS : Hid (N ≤ ws.heap.size) := HBK.out.1
  have hlen := h.len
  clear hblk h
  cases hok : okS S with
  | false =>
    have HE : Hid (errS S = 80) := by unfold Hid errS; rw [hok]; rfl
    clear hok
    go_enter Try.func73, Try.ntmps73
    go_wp2_with (go_at_call 44; refine (rCheck_any N _ S _ HBK.out).mono ?_; rw [HE.out]; rintro e w1 ⟨rfl, hb1⟩; ((try clear c0); have HB1 := Lib.hid (bel HB0.out hb1); have c1 := (old_of HB1.out).1; clear hb1))
    go_ret
    exact ⟨rfl, fin HB.out HB1.out⟩
  | true =>
    have HE : Hid (errS S = 0) := by unfold Hid errS; rw [hok]; rfl
    clear hok
    cases is
    · go_enter Try.func73, Try.ntmps73
      go_wp2_with (go_at_call 44; refine (rCheck_any N _ S _ HBK.out).mono ?_; rw [HE.out]; rintro e w1 ⟨rfl, hb1⟩; ((try clear c0); have HB1 := Lib.hid (bel HB0.out hb1); have c1 := (old_of HB1.out).1; clear hb1))
      go_ret
      exact ⟨rfl, fin HB.out HB1.out⟩
    · go_enter Try.func73, Try.ntmps73
      go_wp2_with (go_at_call 44; refine (rCheck_any N _ S _ HBK.out).mono ?_; rw [HE.out]; rintro e w1 ⟨rfl, hb1⟩; ((try clear c0); have HB1 := Lib.hid (bel HB0.out hb1); have c1 := (old_of HB1.out).1; clear hb1))
      go_ret
      exact ⟨rfl, fin HB.out HB1.out⟩

theorem any_getD (l : List Int) (y : Int) : (anyB l.length fun i => decide (l.getD i 0 = y)) = l.any fun x => decide (x = y) := by
  rw [Bool.eq_iff_iff, anyB_true, List.any_eq_true]
  constructor
  · rintro ⟨i, hi, he⟩
    exact ⟨l[i], List.getElem_mem hi, by rw [getD_at hi] at he; exact he⟩
  · rintro ⟨x, hx, he⟩
    obtain ⟨i, hi, rfl⟩ := List.getElem_of_mem hx
    exact ⟨i, hi, by rw [getD_at hi]; exact he⟩

set_option maxHeartbeats 3200000 in
set_option maxRecDepth 100000 in
theorem allIn_any (N : Nat) (v : Value) (S : JB) (w : World) (h : ShowAt N w v S) :
    Calls Try.prog 37 #[v] w fun e w' => e = .returned (.bool (allIn S)) ∧ Below w.heap.size w w' := by
  obtain ⟨a1, c1, rfl⟩ := h.form
  obtain ⟨ws, hws, HB, hsz, hblk⟩ := box1 w (.cells #[.int .i64 S.J, .int .i64 S.D, .int .i64 S.Z, .slice a1 S.np c1] 24)
  have q0 := cell_blk hblk 0 rfl
  have q1 := cell_blk hblk 1 rfl
  have q2 := cell_blk hblk 2 rfl
  have q3 := cell_blk hblk 3 rfl
  have HNZ : Hid (N ≤ w.heap.size) := h.1
  have HBK := Lib.hid (h.go HB.out)
  have HB0 : Hid (Below ws.heap.size ws ws) := Below.refl _ _
  have HNS : Hid (N ≤ ws.heap.size) := HBK.out.1
  have hlen := h.len
  clear hblk h
  obtain ⟨A, C, hcap, _, hrows, hcells⟩ := HBK.out.plates.open
  have HRW := Lib.hid hrows
  have HCL := Lib.hid hcells
  have HH : Hid (Below w.heap.size w ws) := HB
  clear hrows hcells
  go_enter Try.func37, Try.ntmps37
  go_wp2_with fail
  clear hws
  go_loopw [3] (fun i wr => ∃ k : Nat, k ≤ S.np ∧ i = .int .i64 k ∧ Hid (∀ j, j < k → ((S.pts j).any fun x => decide (x = -1)) = false) ∧ Hid (wr = ws)) (fun i _ => S.np - (intOf i).toNat)
  case atStart => exact ⟨0, Nat.zero_le _, rfl, fun j hj => absurd hj (Nat.not_lt_zero j), rfl⟩
  case round =>
    obtain ⟨k, hk, rfl, HK, hw⟩ := hrel
    obtain rfl := hw.out
    clear hw
    by_cases hkn : k < S.np
    · obtain ⟨b, off, rfl, hbN, hrr⟩ := HCL.out (by omega)
      have d1 := (hrr k hkn).2
      have HLI := Lib.hid ((HRW.out k hkn).2)
      obtain ⟨pl, hpl⟩ : ∃ z, S.pts k = z := ⟨_, rfl⟩
      rw [hpl] at d1 HLI
      have HPL := Lib.hid hpl
      have hki : (k : Int) < (S.np : Int) := by omega
      clear hrr hpl
      cases han : pl.any fun x => decide (x = -1) with
      | true =>
        have HAN : Hid ((anyB pl.length fun i => decide (pl.getD i 0 = -1)) = true) := by unfold Hid; rw [any_getD]; exact han
        have HE : Hid (allIn S = false) := by unfold Hid allIn; exact allB_false.2 ⟨k, hkn, by rw [HPL.out, han]; rfl⟩
        clear han
        go_wp2_with (go_at_call 33; refine (in_any N _ pl.length (fun i => pl.getD i 0) (-1) _ HLI.out).mono ?_; rw [HAN.out]; rintro e w1 ⟨rfl, hw1⟩; rw [hw1]; clear hw1)
        go_ret
        exact ⟨ret_bool HE.out.symm, HH.out⟩
      | false =>
        have HAN : Hid ((anyB pl.length fun i => decide (pl.getD i 0 = -1)) = false) := by unfold Hid; rw [any_getD]; exact han
        have HF : Hid (((S.pts k).any fun x => decide (x = -1)) = false) := by unfold Hid; rw [HPL.out]; exact han
        clear han
        go_wp2_with (go_at_call 33; refine (in_any N _ pl.length (fun i => pl.getD i 0) (-1) _ HLI.out).mono ?_; rw [HAN.out]; rintro e w1 ⟨rfl, hw1⟩; rw [hw1]; clear hw1)
        go_roundw
        case rel => exact ⟨k + 1, by omega, by go_num, fun j hj => by
          rcases Nat.lt_succ_iff_lt_or_eq.1 hj with h1 | h1
          · exact HK.out j h1
          · rw [h1]; exact HF.out, by first | exact rfl | exact trivial⟩
        case measure => simp [intOf]; omega
    · have HE : Hid (allIn S = true) := by unfold Hid allIn; exact allB_true.2 fun j hj => by rw [HK.out j (by omega)]; rfl
      go_wp2
      go_ret
      exact ⟨ret_bool HE.out.symm, HH.out⟩

set_option maxHeartbeats 3200000 in
theorem closed_any (N : Nat) (v : Value) (S : JB) (is : Bool) (w : World) (h : ShowAt N w v S) :
    Calls Try.prog 78 #[v, .bool is] w fun e w' => e = .returned (.int .i64 (errC (okS S) is (allIn S))) ∧ Below w.heap.size w w' := by
  obtain ⟨a1, c1, rfl⟩ := h.form
  obtain ⟨ws, hws, HB, hsz, hblk⟩ := box1 w (.cells #[.int .i64 S.J, .int .i64 S.D, .int .i64 S.Z, .slice a1 S.np c1] 24)
  have q0 := cell_blk hblk 0 rfl
  have q1 := cell_blk hblk 1 rfl
  have q2 := cell_blk hblk 2 rfl
  have q3 := cell_blk hblk 3 rfl
  have HNZ : Hid (N ≤ w.heap.size) := h.1
  have HBK := Lib.hid (h.go HB.out)
  have HB0 : Hid (Below ws.heap.size ws ws) := Below.refl _ _
  have HNS : Hid (N ≤ ws.heap.size) := HBK.out.1
  have hlen := h.len
  clear hblk h
  obtain ⟨er, her⟩ : ∃ er, errA (okS S) is = er := ⟨_, rfl⟩
  have HER := Lib.hid her
  cases hoi : (okS S && is) with
  | false =>
    have hne : (er != 0) = true := by rw [← her]; simpa using errA_no hoi
    have HE : Hid (errC (okS S) is (allIn S) = er) := by
      unfold Hid
      rw [← her]
      unfold errC errA
      rcases Bool.and_eq_false_iff.1 hoi with h1 | h1
      · rw [h1]; rfl
      · rw [h1]; cases okS S <;> rfl
    clear her hoi
    go_enter Try.func78, Try.ntmps78
    go_wp2_with (go_at_call 73; refine (ask_any N _ S is _ HBK.out).mono ?_; rw [HER.out]; rintro e w1 ⟨rfl, hb1⟩; ((try clear c0); have HB1 := Lib.hid (bel HB0.out hb1); have c1 := (old_of HB1.out).1; clear hb1))
    go_ret
    exact ⟨ret_int HE.out.symm, fin HB.out HB1.out⟩
  | true =>
    have he0 : er = 0 := by
      rw [← her]; unfold errA
      rw [Bool.and_eq_true] at hoi
      rw [hoi.1, hoi.2]; rfl
    have HE : Hid (∀ c, errC (okS S) is c = if c then 0 else 81) := fun c => by
      rw [Bool.and_eq_true] at hoi
      unfold errC; rw [hoi.1, hoi.2]; rfl
    subst he0
    clear her hoi
    cases hin : allIn S with
    | true =>
      have HIN := Lib.hid hin
      clear hin
      go_enter Try.func78, Try.ntmps78
      go_wp2_with (first
        | (go_at_call 73; refine (ask_any N _ S is _ HBK.out).mono ?_; rw [HER.out]; rintro e w1 ⟨rfl, hb1⟩; ((try clear c0); have HB1 := Lib.hid (bel HB0.out hb1); have c1 := (old_of HB1.out).1; clear hb1))
        | (go_at_call 37; refine (allIn_any N _ S _ (HBK.out.go HB1.out)).mono ?_; rw [HIN.out]; rintro e w2 ⟨rfl, hb2⟩; ((try clear c1); have HB2 := Lib.hid (bel HB1.out hb2); have c2 := (old_of HB2.out).1; clear hb2)))
      go_ret
      exact ⟨ret_int (by rw [HE.out]; rfl), fin HB.out HB2.out⟩
    | false =>
      have HIN := Lib.hid hin
      clear hin
      go_enter Try.func78, Try.ntmps78
      go_wp2_with (first
        | (go_at_call 73; refine (ask_any N _ S is _ HBK.out).mono ?_; rw [HER.out]; rintro e w1 ⟨rfl, hb1⟩; ((try clear c0); have HB1 := Lib.hid (bel HB0.out hb1); have c1 := (old_of HB1.out).1; clear hb1))
        | (go_at_call 37; refine (allIn_any N _ S _ (HBK.out.go HB1.out)).mono ?_; rw [HIN.out]; rintro e w2 ⟨rfl, hb2⟩; ((try clear c1); have HB2 := Lib.hid (bel HB1.out hb2); have c2 := (old_of HB2.out).1; clear hb2)))
      go_ret
      exact ⟨ret_int (by rw [HE.out]; rfl), fin HB.out HB2.out⟩

set_option maxHeartbeats 6400000 in
set_option maxRecDepth 100000 in
theorem places_any (N : Nat) (v : Value) (S : JB) (k : Nat) (w : World) (h : ShowAt N w v S) (hR : RdS S) (hk : k < S.np) :
    Calls Try.prog 76 #[v, .int .i64 k] w fun e w' => e = .returned (.agg #[.int .i64 (plLo S k), .int .i64 (plHi S k)]) ∧ Below w.heap.size w w' := by
  obtain ⟨a1, c1, rfl⟩ := h.form
  obtain ⟨ws, hws, HB, hsz, hsz1, hblk, hblk1⟩ := box2 w (.cells #[.int .i64 S.J, .int .i64 S.D, .int .i64 S.Z, .slice a1 S.np c1] 24) (.cells #[.int .i64 0, .int .i64 0] 30)
  have q0 := cell_blk hblk 0 rfl
  have q1 := cell_blk hblk 1 rfl
  have q2 := cell_blk hblk 2 rfl
  have q3 := cell_blk hblk 3 rfl
  have HNZ : Hid (N ≤ w.heap.size) := h.1
  have HBK := Lib.hid (h.go HB.out)
  have HB0 : Hid (Below ws.heap.size ws ws) := Below.refl _ _
  have HNS : Hid (N ≤ ws.heap.size) := HBK.out.1
  have HZ1 := Lib.hid hblk1
  have hlen := h.len
  have HSQ : Hid (∀ W, Below ws.heap.size ws W → (W.cell? ⟨w.heap.size, 0, none⟩ = some (.int .i64 S.J) ∧ W.cell? ⟨w.heap.size, 1, none⟩ = some (.int .i64 S.D) ∧ W.cell? ⟨w.heap.size, 2, none⟩ = some (.int .i64 S.Z) ∧ W.cell? ⟨w.heap.size, 3, none⟩ = some (.slice a1 S.np c1))) := fun W hW => ⟨(hW.cell (p := ⟨w.heap.size, 0, none⟩) hsz).trans q0, (hW.cell (p := ⟨w.heap.size, 1, none⟩) hsz).trans q1, (hW.cell (p := ⟨w.heap.size, 2, none⟩) hsz).trans q2, (hW.cell (p := ⟨w.heap.size, 3, none⟩) hsz).trans q3⟩
  clear hblk hblk1 h
  have HNP := Lib.hid hR.np
  have HL := Lib.hid (fun i hi => (hR.len i hi).2)
  have HR1 := Lib.hid (hR.fil (p := k) (own := 20) (oth := 0) (by omega) (by omega))
  have HR2 := Lib.hid (hR.fil (p := k) (own := 0) (oth := 20) (by omega) (by omega))
  have HP1 := Lib.hid (plc_lo S k)
  have HP2 := Lib.hid (plc_hi S k)
  have HLS : Hid (∀ own oth i, i < S.np → ((filS S k own oth).pts i).length ≤ 1000) := fun own oth i hi => by
    have := HL.out i hi
    simp only [filS, fil_len]; omega
  clear hR q0 q1 q2 q3
  go_enter Try.func76, Try.ntmps76
  go_upto_region 1 with fail
  clear hws
  have hS0 := HSQ.out ws.drew (Below.refl _ _).drew
  refine wp_region_held_drew (S := fun W => (W.cell? ⟨w.heap.size, 0, none⟩ = some (.int .i64 S.J) ∧ W.cell? ⟨w.heap.size, 1, none⟩ = some (.int .i64 S.D) ∧ W.cell? ⟨w.heap.size, 2, none⟩ = some (.int .i64 S.Z) ∧ W.cell? ⟨w.heap.size, 3, none⟩ = some (.slice a1 S.np c1))) (by kernel_rfl) hS0 (fun hHeld => ?_)
  (refine wpAnyH_take (i := 0) (v := ?_) rfl (by kernel_rfl) (by kernel_rfl) (by kernel_rfl) (fun _ _ _ h => h) (Or.inl ⟨by rfl, ?_⟩) (by assumption) ?_; rotate_left; (focus (intro w hSw; (try dsimp only at hSw); go_simp; (try with_reducible rfl))); (try simp only [List.getElem_toArray, List.getElem_cons_zero, List.getElem_cons_succ, Act.put, List.setIfInBounds_toArray, List.set_cons_zero, List.set_cons_succ])); (refine wpAnyH_take (i := 1) (v := ?_) rfl (by kernel_rfl) (by kernel_rfl) (by kernel_rfl) (fun _ _ _ h => h) (Or.inl ⟨by rfl, ?_⟩) (by assumption) ?_; rotate_left; (focus (intro w hSw; (try dsimp only at hSw); go_simp; (try with_reducible rfl))); (try simp only [List.getElem_toArray, List.getElem_cons_zero, List.getElem_cons_succ, Act.put, List.setIfInBounds_toArray, List.set_cons_zero, List.set_cons_succ]))
  (refine wpAnyH_take (i := 3) (v := ?_) rfl (by kernel_rfl) (by kernel_rfl) (by kernel_rfl) (fun _ _ _ h => h) (Or.inl ⟨by rfl, ?_⟩) (by assumption) ?_; rotate_left; (focus (intro w hSw; (try dsimp only at hSw); go_simp; (try with_reducible rfl))); (try simp only [List.getElem_toArray, List.getElem_cons_zero, List.getElem_cons_succ, Act.put, List.setIfInBounds_toArray, List.set_cons_zero, List.set_cons_succ]))
  (refine wpAnyH_take (i := 5) (v := ?_) rfl (by kernel_rfl) (by kernel_rfl) (by kernel_rfl) (fun _ _ _ h => h) (Or.inl ⟨by rfl, ?_⟩) (by assumption) ?_; rotate_left; (focus (intro w hSw; (try dsimp only at hSw); go_simp; (try with_reducible rfl))); (try simp only [List.getElem_toArray, List.getElem_cons_zero, List.getElem_cons_succ, Act.put, List.setIfInBounds_toArray, List.set_cons_zero, List.set_cons_succ])); (refine wpAnyH_take (i := 6) (v := ?_) rfl (by kernel_rfl) (by kernel_rfl) (by kernel_rfl) (fun _ _ _ h => h) (Or.inl ⟨by rfl, ?_⟩) (by assumption) ?_; rotate_left; (focus (intro w hSw; (try dsimp only at hSw); go_simp; (try with_reducible rfl))); (try simp only [List.getElem_toArray, List.getElem_cons_zero, List.getElem_cons_succ, Act.put, List.setIfInBounds_toArray, List.set_cons_zero, List.set_cons_succ]))
  (refine wpAnyH_take (i := 8) (v := ?_) rfl (by kernel_rfl) (by kernel_rfl) (by kernel_rfl) (fun _ _ _ h => h) (Or.inl ⟨by rfl, ?_⟩) (by assumption) ?_; rotate_left; (focus (intro w hSw; (try dsimp only at hSw); go_simp; (try with_reducible rfl))); (try simp only [List.getElem_toArray, List.getElem_cons_zero, List.getElem_cons_succ, Act.put, List.setIfInBounds_toArray, List.set_cons_zero, List.set_cons_succ]))
  refine wpAnyH_ready (rs := [2]) (by kernel_rfl) (by simp) ?_; refine AllReadyH.cons rfl (fun K hK => ?_) AllReadyH.nil; go_simp
  go_at_call 75
  refine (filled_any N _ S k 20 0 _ (HBK.out.go (Below.refl _ _).drew) HNP.out HL.out).mono ?_
  rintro e w1 ⟨v1, rfl, ho1, hb1⟩
  have HB1 : Hid (Below ws.heap.size ws w1) := (Below.refl _ _).drew.trans hb1
  have HO1 := Lib.hid (ho1.show (by have := HNP.out; simp only [filS]; omega) (HLS.out 20 0))
  have hS1 := HSQ.out w1 HB1.out
  clear ho1 hb1
  refine hK.out _ _ hS1 (fun hHeld => ?_); clear hK K; (try simp only [List.getElem_toArray, List.getElem_cons_zero, List.getElem_cons_succ, Act.put, List.setIfInBounds_toArray, List.set_cons_zero, List.set_cons_succ])
  refine wpAnyH_ready (rs := [4]) (by kernel_rfl) (by simp) ?_; refine AllReadyH.cons rfl (fun K hK => ?_) AllReadyH.nil; go_simp
  go_at_call 18
  refine (placeOf_any _ _ (filS S k 20 0) k _ HO1.out HR1.out hk).mono ?_
  rw [HP1.out]
  rintro e w2 ⟨rfl, hb2⟩
  have HB2 : Hid (Below ws.heap.size ws w2) := bel HB1.out hb2
  have hS2 := HSQ.out w2 HB2.out
  clear hb2 hS1
  refine hK.out _ _ hS2 (fun hHeld => ?_); clear hK K; (try simp only [List.getElem_toArray, List.getElem_cons_zero, List.getElem_cons_succ, Act.put, List.setIfInBounds_toArray, List.set_cons_zero, List.set_cons_succ])
  refine wpAnyH_ready (rs := [7]) (by kernel_rfl) (by simp) ?_; refine AllReadyH.cons rfl (fun K hK => ?_) AllReadyH.nil; go_simp
  go_at_call 75
  refine (filled_any N _ S k 0 20 _ (HBK.out.go HB2.out) HNP.out HL.out).mono ?_
  rintro e w3 ⟨v3, rfl, ho3, hb3⟩
  have HB3 : Hid (Below ws.heap.size ws w3) := bel HB2.out hb3
  have HO3 := Lib.hid (ho3.show (by have := HNP.out; simp only [filS]; omega) (HLS.out 0 20))
  have hS3 := HSQ.out w3 HB3.out
  clear ho3 hb3 hS2
  refine hK.out _ _ hS3 (fun hHeld => ?_); clear hK K; (try simp only [List.getElem_toArray, List.getElem_cons_zero, List.getElem_cons_succ, Act.put, List.setIfInBounds_toArray, List.set_cons_zero, List.set_cons_succ])
  refine wpAnyH_ready (rs := [9]) (by kernel_rfl) (by simp) ?_; refine AllReadyH.cons rfl (fun K hK => ?_) AllReadyH.nil; go_simp
  go_at_call 18
  refine (placeOf_any _ _ (filS S k 0 20) k _ HO3.out HR2.out hk).mono ?_
  rw [HP2.out]
  rintro e w4 ⟨rfl, hb4⟩
  have HB4 : Hid (Below ws.heap.size ws w4) := bel HB3.out hb4
  have hS4 := HSQ.out w4 HB4.out
  clear hb4 hS3
  refine hK.out _ _ hS4 (fun hHeld => ?_); clear hK K; (try simp only [List.getElem_toArray, List.getElem_cons_zero, List.getElem_cons_succ, Act.put, List.setIfInBounds_toArray, List.set_cons_zero, List.set_cons_succ])
  (refine wpAnyH_take (i := 10) (v := ?_) rfl (by kernel_rfl) (by kernel_rfl) (by kernel_rfl) (fun _ _ _ h => h) (Or.inl ⟨by rfl, ?_⟩) (by assumption) ?_; rotate_left; (focus (intro w hSw; (try dsimp only at hSw); go_simp; (try with_reducible rfl))); (try simp only [List.getElem_toArray, List.getElem_cons_zero, List.getElem_cons_succ, Act.put, List.setIfInBounds_toArray, List.set_cons_zero, List.set_cons_succ]))
  have hz2 := (HB4.out.block _ hsz1).trans HZ1.out
  have x0 := cell_blk hz2 0 rfl
  have x1 := cell_blk hz2 1 rfl
  have y0 := free_blk hz2 0
  have y1 := free_blk hz2 1
  refine wpAnyH_ready (rs := [11]) (by kernel_rfl) (by simp) ?_; refine AllReadyH.cons rfl (fun K hK => ?_) AllReadyH.nil; go_simp
  obtain ⟨w5, hw5, hz5, ho5, hb5⟩ := put2o hz2 (.int .i64 (plLo S k)) (.int .i64 (plHi S k))
  rw [hw5]
  have hc5 : ∀ b o, b ≠ w.heap.size + 1 → w5.cell? ⟨b, o, none⟩ = w4.cell? ⟨b, o, none⟩ := fun b o hne => World.cell?_of_block (w := w4) (ho5 b hne)
  have hne : w.heap.size ≠ w.heap.size + 1 := by omega
  have hS5 : (w5.cell? ⟨w.heap.size, 0, none⟩ = some (.int .i64 S.J) ∧ w5.cell? ⟨w.heap.size, 1, none⟩ = some (.int .i64 S.D) ∧ w5.cell? ⟨w.heap.size, 2, none⟩ = some (.int .i64 S.Z) ∧ w5.cell? ⟨w.heap.size, 3, none⟩ = some (.slice a1 S.np c1)) := ⟨(hc5 _ _ hne).trans hS4.1, (hc5 _ _ hne).trans hS4.2.1, (hc5 _ _ hne).trans hS4.2.2.1, (hc5 _ _ hne).trans hS4.2.2.2⟩
  have HZ5 := Lib.hid hz5
  have HB5 : Hid (Below w.heap.size w w5) := HB.out.trans ((HB4.out.mono HB.out.size).trans (hb5.mono (by omega)))
  clear hw5 hz5 ho5 hb5 hc5 hne hS4 x0 x1 y0 y1 hz2
  refine hK.out _ _ hS5 (fun hHeld => ?_); clear hK K; (try simp only [List.getElem_toArray, List.getElem_cons_zero, List.getElem_cons_succ, Act.put, List.setIfInBounds_toArray, List.set_cons_zero, List.set_cons_succ])
  refine wpAnyH_done (by kernel_rfl) ?_ _; clear hHeld
  have r0 := cell_blk HZ5.out 0 rfl
  have r1 := cell_blk HZ5.out 1 rfl
  go_wp2_with fail
  exact bodyPost_ret (v := .agg #[.int .i64 (plLo S k), .int .i64 (plHi S k)]) (by simp [results, Try.results76, go_sem, r0, r1]) rfl ⟨rfl, HB5.out⟩

end Go.Proofs.Ytffnlimgjnhmpaa
