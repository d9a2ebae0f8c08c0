/-
  JLEnough: JudgesEnough returns true.
-/
import Derived.Test.YtffnlimgjnhmpaaJPre
namespace Go.Proofs.Ytffnlimgjnhmpaa
open Go.RowKit

set_option maxHeartbeats 6400000 in
set_option maxRecDepth 100000 in
theorem cenough_any (N : Nat) (v u : Value) (S : JB) (F : List Int) (a : Int) (w : World) (h : ShowAt N w v S) (hf : LI N w u F) :
    Calls Try.prog 7 #[v, u, .int .i64 a] w fun e w' => e = .returned (.bool true) ∧ Below w.heap.size w w' := by
  have hN := h.1
  obtain ⟨a1, c1, rfl⟩ := h.form
  obtain ⟨ws, hws, HB, hsz, hblk⟩ := box1 w (.cells #[.int .i64 S.J, .int .i64 S.D, .int .i64 S.Z, .slice a1 S.np c1] 24)
  have q0 := cell_blk hblk 0 rfl
  have q1 := cell_blk hblk 1 rfl
  have q2 := cell_blk hblk 2 rfl
  have q3 := cell_blk hblk 3 rfl
  have HNZ : Hid (N ≤ w.heap.size) := h.1
  have HBK := Lib.hid (h.go HB.out)
  have HB0 : Hid (Below ws.heap.size ws ws) := Below.refl _ _
  have HNS : Hid (N ≤ ws.heap.size) := HBK.out.1
  have hlen := h.len
  clear hblk h
  have HSQ : Hid (∀ W, Below ws.heap.size ws W → (W.cell? ⟨w.heap.size, 0, none⟩ = some (.int .i64 S.J) ∧ W.cell? ⟨w.heap.size, 1, none⟩ = some (.int .i64 S.D) ∧ W.cell? ⟨w.heap.size, 2, none⟩ = some (.int .i64 S.Z) ∧ W.cell? ⟨w.heap.size, 3, none⟩ = some (.slice a1 S.np c1))) := fun W hW => ⟨(hW.cell (p := ⟨w.heap.size, 0, none⟩) hsz).trans q0, (hW.cell (p := ⟨w.heap.size, 1, none⟩) hsz).trans q1, (hW.cell (p := ⟨w.heap.size, 2, none⟩) hsz).trans q2, (hW.cell (p := ⟨w.heap.size, 3, none⟩) hsz).trans q3⟩
  have HFL : Hid (LI N ws u F) := hf.go hN HB.out
  obtain ⟨nF, hnF⟩ : ∃ nF, F.length = nF := ⟨_, rfl⟩
  obtain ⟨aF, cF, rfl⟩ : ∃ a c, u = .slice a nF c := by
    obtain ⟨a, c, e, _⟩ := hf
    rw [hnF] at e
    exact ⟨a, c, e⟩
  clear hf hnF hlen
  cases hre : (!farS S && okS S) with
  | false =>
    have HRE := Lib.hid hre
    clear hre
    go_enter Try.func7, Try.ntmps7
    go_wp2_with (first
      | (go_at_call 12; refine (ready_any N _ S _ HBK.out).mono ?_; rw [HRE.out]; rintro e w1 ⟨rfl, hb1⟩; have HB1 : Hid (Below ws.heap.size ws w1) := hb1; clear hb1 q0 q1 q2 q3; obtain ⟨r0, r1, r2, r3⟩ := HSQ.out w1 HB1.out)
      | (go_at_call 13; refine (works_any _).mono ?_; rintro e wz ⟨rfl, hbz⟩; have HBz : Hid (Below ws.heap.size ws wz) := bel HB1.out hbz; clear hbz))
    go_ret
    exact ⟨rfl, fin HB.out HBz.out⟩
  | true =>
  have HRE := Lib.hid hre
  obtain ⟨hfar, hok⟩ : farS S = false ∧ okS S = true := by simpa using hre
  clear hre
  by_cases hF40 : 40 < nF
  · have hFi : (40 : Int) < (nF : Int) := by omega
    clear hfar hok
    go_enter Try.func7, Try.ntmps7
    go_wp2_with (first
      | (go_at_call 12; refine (ready_any N _ S _ HBK.out).mono ?_; rw [HRE.out]; rintro e w1 ⟨rfl, hb1⟩; have HB1 : Hid (Below ws.heap.size ws w1) := hb1; clear hb1 q0 q1 q2 q3; obtain ⟨r0, r1, r2, r3⟩ := HSQ.out w1 HB1.out)
      | (go_at_call 13; refine (works_any _).mono ?_; rintro e wz ⟨rfl, hbz⟩; have HBz : Hid (Below ws.heap.size ws wz) := bel HB1.out hbz; clear hbz))
    go_ret
    exact ⟨rfl, fin HB.out HBz.out⟩
  have hFi : ¬ (40 : Int) < (nF : Int) := by omega
  cases hin : inN a S.np with
  | false =>
    have HIN := Lib.hid hin
    clear hfar hok hin
    go_enter Try.func7, Try.ntmps7
    go_wp2_with (first
      | (go_at_call 12; refine (ready_any N _ S _ HBK.out).mono ?_; rw [HRE.out]; rintro e w1 ⟨rfl, hb1⟩; have HB1 : Hid (Below ws.heap.size ws w1) := hb1; clear hb1 q0 q1 q2 q3; obtain ⟨r0, r1, r2, r3⟩ := HSQ.out w1 HB1.out)
      | (go_at_call 36; refine (isPlate_any N _ S _ _ (HBK.out.go HB1.out)).mono ?_; rw [HIN.out]; rintro e w2 ⟨rfl, hb2⟩; have HB2 : Hid (Below ws.heap.size ws w2) := bel HB1.out hb2; clear hb2 r0 r1 r2 r3; obtain ⟨r0, r1, r2, r3⟩ := HSQ.out w2 HB2.out)
      | (go_at_call 13; refine (works_any _).mono ?_; rintro e wz ⟨rfl, hbz⟩; have HBz : Hid (Below ws.heap.size ws wz) := bel HB2.out hbz; clear hbz))
    go_ret
    exact ⟨rfl, fin HB.out HBz.out⟩
  | true =>
    have HG := Lib.hid (okS_good hok)
    have hnp6 := HG.out.np
    have HIN := Lib.hid hin
    obtain ⟨k, rfl, hk⟩ := inN_nat hin
    have hki : (k : Int) < (S.np : Int) := by omega
    have HET : Hid (errA (okS S) (inN (k : Int) S.np) = 0) := by unfold Hid; rw [hok, hin]; rfl
    obtain ⟨lo, hlo⟩ : ∃ x, loT S k = x := ⟨_, rfl⟩
    obtain ⟨hi, hhi⟩ : ∃ x, hiT S k = x := ⟨_, rfl⟩
    obtain ⟨z, hz⟩ : ∃ x, prz S k = x := ⟨_, rfl⟩
    have HTL : Hid (sp 0 (loT S (k : Int).toNat) = lo ∧ sp 0 (hiT S (k : Int).toNat) = hi ∧ sp 0 (prz S (k : Int).toNat) = z) := by
      unfold Hid; rw [Int.toNat_natCast, sp_ok, sp_ok, sp_ok]; exact ⟨hlo, hhi, hz⟩
    obtain ⟨dn, hdn⟩ : ∃ dn : Nat, S.D = dn := ⟨S.D.toNat, by have := HG.out.D0; omega⟩
    have HDN := Lib.hid hdn
    have h123 := prz_123 S k
    rw [hz] at h123
    cases hnd : ndF S k with
    | none =>
      have HNV : Hid (sp 3 (ndV S (k : Int).toNat) = 0) := sp_no (by decide) _
      have HNE : Hid ((if errA (okS S) (inN (k : Int) S.np) = 0 then (if ndB S (k : Int).toNat then 0 else 3) else errA (okS S) (inN (k : Int) S.np)) = 3) := by
        unfold Hid
        rw [if_pos HET.out, Int.toNat_natCast]
        unfold ndB; rw [hnd]; rfl
      have hz1 := nd_none hnd
      rw [hz] at hz1
      clear hfar hok hin hlo hhi hnd hdn
      rcases h123 with h1 | rfl | rfl
      · exact absurd h1 hz1
      · clear hz1 hz
        go_enter Try.func7, Try.ntmps7
        go_upto_region 3 with (first
          | (go_at_call 12; refine (ready_any N _ S _ HBK.out).mono ?_; rw [HRE.out]; rintro e w1 ⟨rfl, hb1⟩; have HB1 : Hid (Below ws.heap.size ws w1) := hb1; clear hb1 q0 q1 q2 q3; obtain ⟨r0, r1, r2, r3⟩ := HSQ.out w1 HB1.out)
          | (go_at_call 36; refine (isPlate_any N _ S _ _ (HBK.out.go HB1.out)).mono ?_; rw [HIN.out]; rintro e w2 ⟨rfl, hb2⟩; have HB2 : Hid (Below ws.heap.size ws w2) := bel HB1.out hb2; clear hb2 r0 r1 r2 r3; obtain ⟨r0, r1, r2, r3⟩ := HSQ.out w2 HB2.out))
        clear hws
        go_upto_region 4 with (go_at_call 31; refine (kNeeds_any N _ S _ 3 _ (HBK.out.go HB2.out) HNE.out).mono ?_; rw [HNV.out]; rintro e w3 ⟨rfl, hb3⟩; have HB3 : Hid (Below ws.heap.size ws w3) := bel HB2.out hb3; clear hb3 r0 r1 r2 r3; obtain ⟨r0, r1, r2, r3⟩ := HSQ.out w3 HB3.out)
        go_upto_region 5 with (go_at_call 15; refine (kTotal_any N _ S _ 0 _ (HBK.out.go HB3.out) HET.out).mono ?_; rw [HTL.out.1, HTL.out.2.1]; rintro e w4 ⟨rfl, hb4⟩; have HB4 : Hid (Below ws.heap.size ws w4) := bel HB3.out hb4; clear hb4; (obtain ⟨wo, hwo, HBo, hszo, hblko⟩ := box1 w4 (.cells #[.int .i64 0, .int .i64 0] 30); have HZo := Lib.hid hblko; have z0 := cell_blk hblko 0 rfl; have z1 := cell_blk hblko 1 rfl; have f0 := free_blk hblko 0; have f1 := free_blk hblko 1; clear hblko))
        obtain ⟨w5, hw5, hz5, ho5, hb5⟩ := put2o HZo.out (.int .i64 lo) (.int .i64 hi)
        rw [hw5]
        have hb45 : Below w4.heap.size w4 w5 := HBo.out.trans hb5
        have HB5 : Hid (Below ws.heap.size ws w5) := bel HB4.out hb45
        obtain ⟨P, hP⟩ : ∃ P, w4.heap.size = P := ⟨_, rfl⟩
        rw [hP] at hz5 ⊢
        have HZ5 := Lib.hid hz5
        clear hwo hszo z0 z1 f0 f1 hw5 hz5 ho5 hb5 HZo HBo hb45 hP r0 r1 r2 r3
        obtain ⟨r0, r1, r2, r3⟩ := HSQ.out w5 HB5.out
        go_upto_region 6 with (go_at_call 17; refine (kPrize_any N _ S _ 0 _ (HBK.out.go HB5.out) HET.out).mono ?_; rw [HTL.out.2.2]; rintro e w6 ⟨rfl, hb6⟩; have HB6 : Hid (Below ws.heap.size ws w6) := bel HB5.out hb6; have HZ6 := Lib.hid ((hb6.block _ (heap_lt HZ5.out)).trans HZ5.out); clear hb6 r0 r1 r2 r3)
        have x0 := cell_blk HZ6.out 0 rfl
        have x1 := cell_blk HZ6.out 1 rfl
        have w7d : ∃ w7, w7 = w6 := ⟨_, rfl⟩
        go_upto_region 8 with fail
        clear x0 x1 w7d
        have HB7 := HB6
        obtain ⟨w7, hw7⟩ : ∃ w7, w7 = w6 := ⟨_, rfl⟩
        subst hw7
        have HB0' := HB7
        obtain ⟨r0, r1, r2, r3⟩ := HSQ.out w7 HB7.out
        go_upto_region 9 with (go_at_call 14; refine (judged_any N _ _ S F _ (HBK.out.go HB7.out) (HFL.out.go HNS.out HB7.out) HG.out).mono ?_; rintro e w8 ⟨v8, mm, rfl, ho8, hj8, hb8⟩; have HB8 : Hid (Below ws.heap.size ws w8) := bel HB7.out hb8; have hgj := jgs_good HG.out hj8; have hs8 := ho8.show (by show S.np ≤ 1000; omega) (fun i hi => by have h1 := hgj.len i hi; have h2 := hgj.J5; omega); obtain ⟨a8, c8, e8⟩ : ∃ a c, v8 = .agg #[.int .i64 S.J, .int .i64 S.D, .int .i64 S.Z, .slice a S.np c] := hs8.form; subst e8; have HS8 := Lib.hid hs8; have HJ8 := Lib.hid hj8; have HGJ := Lib.hid hgj; clear hb8 ho8 hj8 hs8 hgj; obtain ⟨wo, hwo, HBo, hszo, hblko⟩ := box1 w8 (.cells #[.int .i64 0, .int .i64 0, .int .i64 0, .slice none 0 0] 24); have HZo := Lib.hid hblko; have z0 := cell_blk hblko 0 rfl; have z1 := cell_blk hblko 1 rfl; have z2 := cell_blk hblko 2 rfl; have z3 := cell_blk hblko 3 rfl; have f0 := free_blk hblko 0; have f1 := free_blk hblko 1; have f2 := free_blk hblko 2; have f3 := free_blk hblko 3; clear hblko)
        obtain ⟨w9, hw9, hz9, ho9, hb9⟩ := put4o HZo.out (.int .i64 S.J) (.int .i64 S.D) (.int .i64 S.Z) (.slice a8 S.np c8)
        rw [hw9]
        have hb89 : Below w8.heap.size w8 w9 := HBo.out.trans hb9
        have HB9 : Hid (Below ws.heap.size ws w9) := bel HB8.out hb89
        have hs9 := HS8.out.go hb89
        have hs89 := hb89.size
        obtain ⟨O, hO⟩ : ∃ O, w8.heap.size = O := ⟨_, rfl⟩
        rw [hO] at hz9 hs9 hs89 ⊢
        have HZ9 := Lib.hid hz9
        have hol := heap_lt hz9
        have HS9 := Lib.hid hs9
        clear hwo hszo z0 z1 z2 z3 f0 f1 f2 f3 hw9 hz9 ho9 hb9 HZo HBo hb89 hO HS8 hs9 r0 r1 r2 r3
        obtain ⟨A, C, _, _, hrows, hcells⟩ := HS9.out.plates.open
        obtain ⟨b, off, hab, hbO, hrr⟩ := hcells (by show 0 < S.np; omega)
        obtain rfl : a8 = some ⟨b, off, none⟩ := hab
        obtain ⟨L, hL⟩ : ∃ L, (mm k).length = L := ⟨_, rfl⟩
        have dk : w9.cell? ⟨b, off + k * 2 + 1, none⟩ = some (.slice (A k) (mm k).length (C k)) := (hrr k hk).2
        have hli : LI O w9 (.slice (A k) (mm k).length (C k)) (mm k) := (hrows k hk).2
        rw [hL] at dk hli
        have HLL := Lib.hid hL
        have HLI := Lib.hid hli
        have HSR : Hid (∀ W, Below w9.heap.size w9 W → (((W.cell? ⟨w.heap.size, 0, none⟩ = some (.int .i64 S.J) ∧ W.cell? ⟨w.heap.size, 1, none⟩ = some (.int .i64 S.D) ∧ W.cell? ⟨w.heap.size, 2, none⟩ = some (.int .i64 S.Z) ∧ W.cell? ⟨w.heap.size, 3, none⟩ = some (.slice a1 S.np c1))) ∧ (W.cell? ⟨O, 0, none⟩ = some (.int .i64 S.J) ∧ W.cell? ⟨O, 1, none⟩ = some (.int .i64 S.D) ∧ W.cell? ⟨O, 2, none⟩ = some (.int .i64 S.Z) ∧ W.cell? ⟨O, 3, none⟩ = some (.slice (some ⟨b, off, none⟩) S.np c8)) ∧ W.cell? ⟨b, off + k * 2 + 1, none⟩ = some (.slice (A k) L (C k)))) := fun W hW => by
          have hz := (hW.block O hol).trans HZ9.out
          exact ⟨HSQ.out W (bel HB9.out hW), ⟨cell_blk hz 0 rfl, cell_blk hz 1 rfl, cell_blk hz 2 rfl, cell_blk hz 3 rfl⟩, (hW.cell (p := ⟨b, off + k * 2 + 1, none⟩) (by show b < _; omega)).trans dk⟩
        have hS9 := HSR.out w9 (Below.refl _ _)
        have hkj : k < (JGS S mm).np := hk
        have hkji : (k : Int) < (((JGS S mm).np : Nat) : Int) := hki
        clear hrows hcells hrr dk hli hL
        refine wp_region_held_drew (S := fun W => (((W.cell? ⟨w.heap.size, 0, none⟩ = some (.int .i64 S.J) ∧ W.cell? ⟨w.heap.size, 1, none⟩ = some (.int .i64 S.D) ∧ W.cell? ⟨w.heap.size, 2, none⟩ = some (.int .i64 S.Z) ∧ W.cell? ⟨w.heap.size, 3, none⟩ = some (.slice a1 S.np c1))) ∧ (W.cell? ⟨O, 0, none⟩ = some (.int .i64 S.J) ∧ W.cell? ⟨O, 1, none⟩ = some (.int .i64 S.D) ∧ W.cell? ⟨O, 2, none⟩ = some (.int .i64 S.Z) ∧ W.cell? ⟨O, 3, none⟩ = some (.slice (some ⟨b, off, none⟩) S.np c8)) ∧ W.cell? ⟨b, off + k * 2 + 1, none⟩ = some (.slice (A k) L (C k)))) (by kernel_rfl) hS9 (fun hHeld => ?_)
        (refine wpAnyH_take (i := 0) (v := ?_) rfl (by kernel_rfl) (by kernel_rfl) (by kernel_rfl) (fun _ _ _ h => h) (Or.inl ⟨by rfl, ?_⟩) (by assumption) ?_; rotate_left; (focus (intro w hSw; (try dsimp only at hSw); go_simp; (try with_reducible rfl))); (try simp only [List.getElem_toArray, List.getElem_cons_zero, List.getElem_cons_succ, Act.put, List.setIfInBounds_toArray, List.set_cons_zero, List.set_cons_succ])); (refine wpAnyH_take (i := 1) (v := ?_) rfl (by kernel_rfl) (by kernel_rfl) (by kernel_rfl) (fun _ _ _ h => h) (Or.inl ⟨by rfl, ?_⟩) (by assumption) ?_; rotate_left; (focus (intro w hSw; (try dsimp only at hSw); go_simp; (try with_reducible rfl))); (try simp only [List.getElem_toArray, List.getElem_cons_zero, List.getElem_cons_succ, Act.put, List.setIfInBounds_toArray, List.set_cons_zero, List.set_cons_succ])); (refine wpAnyH_take (i := 2) (v := ?_) rfl (by kernel_rfl) (by kernel_rfl) (by kernel_rfl) (fun _ _ _ h => h) (Or.inl ⟨by rfl, ?_⟩) (by assumption) ?_; rotate_left; (focus (intro w hSw; (try dsimp only at hSw); go_simp; (try with_reducible rfl))); (try simp only [List.getElem_toArray, List.getElem_cons_zero, List.getElem_cons_succ, Act.put, List.setIfInBounds_toArray, List.set_cons_zero, List.set_cons_succ]))
        (refine wpAnyH_take (i := 3) (v := undef) rfl (by kernel_rfl) (by kernel_rfl) (by kernel_rfl) (fun _ _ _ h => h) (Or.inr ⟨by rfl, rfl⟩) (by assumption) ?_; (try simp only [List.getElem_toArray, List.getElem_cons_zero, List.getElem_cons_succ, Act.put, List.setIfInBounds_toArray, List.set_cons_zero, List.set_cons_succ])); (refine wpAnyH_take (i := 4) (v := undef) rfl (by kernel_rfl) (by kernel_rfl) (by kernel_rfl) (fun _ _ _ h => h) (Or.inr ⟨by rfl, rfl⟩) (by assumption) ?_; (try simp only [List.getElem_toArray, List.getElem_cons_zero, List.getElem_cons_succ, Act.put, List.setIfInBounds_toArray, List.set_cons_zero, List.set_cons_succ])); (refine wpAnyH_take (i := 5) (v := undef) rfl (by kernel_rfl) (by kernel_rfl) (by kernel_rfl) (fun _ _ _ h => h) (Or.inr ⟨by rfl, rfl⟩) (by assumption) ?_; (try simp only [List.getElem_toArray, List.getElem_cons_zero, List.getElem_cons_succ, Act.put, List.setIfInBounds_toArray, List.set_cons_zero, List.set_cons_succ])); (refine wpAnyH_take (i := 6) (v := undef) rfl (by kernel_rfl) (by kernel_rfl) (by kernel_rfl) (fun _ _ _ h => h) (Or.inr ⟨by rfl, rfl⟩) (by assumption) ?_; (try simp only [List.getElem_toArray, List.getElem_cons_zero, List.getElem_cons_succ, Act.put, List.setIfInBounds_toArray, List.set_cons_zero, List.set_cons_succ])); (refine wpAnyH_take (i := 7) (v := undef) rfl (by kernel_rfl) (by kernel_rfl) (by kernel_rfl) (fun _ _ _ h => h) (Or.inr ⟨by rfl, rfl⟩) (by assumption) ?_; (try simp only [List.getElem_toArray, List.getElem_cons_zero, List.getElem_cons_succ, Act.put, List.setIfInBounds_toArray, List.set_cons_zero, List.set_cons_succ])); (refine wpAnyH_take (i := 8) (v := undef) rfl (by kernel_rfl) (by kernel_rfl) (by kernel_rfl) (fun _ _ _ h => h) (Or.inr ⟨by rfl, rfl⟩) (by assumption) ?_; (try simp only [List.getElem_toArray, List.getElem_cons_zero, List.getElem_cons_succ, Act.put, List.setIfInBounds_toArray, List.set_cons_zero, List.set_cons_succ])); (refine wpAnyH_take (i := 9) (v := undef) rfl (by kernel_rfl) (by kernel_rfl) (by kernel_rfl) (fun _ _ _ h => h) (Or.inr ⟨by rfl, rfl⟩) (by assumption) ?_; (try simp only [List.getElem_toArray, List.getElem_cons_zero, List.getElem_cons_succ, Act.put, List.setIfInBounds_toArray, List.set_cons_zero, List.set_cons_succ])); (refine wpAnyH_take (i := 10) (v := undef) rfl (by kernel_rfl) (by kernel_rfl) (by kernel_rfl) (fun _ _ _ h => h) (Or.inr ⟨by rfl, rfl⟩) (by assumption) ?_; (try simp only [List.getElem_toArray, List.getElem_cons_zero, List.getElem_cons_succ, Act.put, List.setIfInBounds_toArray, List.set_cons_zero, List.set_cons_succ])); (refine wpAnyH_take (i := 11) (v := undef) rfl (by kernel_rfl) (by kernel_rfl) (by kernel_rfl) (fun _ _ _ h => h) (Or.inr ⟨by rfl, rfl⟩) (by assumption) ?_; (try simp only [List.getElem_toArray, List.getElem_cons_zero, List.getElem_cons_succ, Act.put, List.setIfInBounds_toArray, List.set_cons_zero, List.set_cons_succ])); (refine wpAnyH_take (i := 12) (v := undef) rfl (by kernel_rfl) (by kernel_rfl) (by kernel_rfl) (fun _ _ _ h => h) (Or.inr ⟨by rfl, rfl⟩) (by assumption) ?_; (try simp only [List.getElem_toArray, List.getElem_cons_zero, List.getElem_cons_succ, Act.put, List.setIfInBounds_toArray, List.set_cons_zero, List.set_cons_succ])); (refine wpAnyH_take (i := 13) (v := undef) rfl (by kernel_rfl) (by kernel_rfl) (by kernel_rfl) (fun _ _ _ h => h) (Or.inr ⟨by rfl, rfl⟩) (by assumption) ?_; (try simp only [List.getElem_toArray, List.getElem_cons_zero, List.getElem_cons_succ, Act.put, List.setIfInBounds_toArray, List.set_cons_zero, List.set_cons_succ]))
        (refine wpAnyH_take (i := 14) (v := ?_) rfl (by kernel_rfl) (by kernel_rfl) (by kernel_rfl) (fun _ _ _ h => h) (Or.inl ⟨by rfl, ?_⟩) (by assumption) ?_; rotate_left; (focus (intro w hSw; (try dsimp only at hSw); go_simp; (try with_reducible rfl))); (try simp only [List.getElem_toArray, List.getElem_cons_zero, List.getElem_cons_succ, Act.put, List.setIfInBounds_toArray, List.set_cons_zero, List.set_cons_succ])); (refine wpAnyH_take (i := 15) (v := ?_) rfl (by kernel_rfl) (by kernel_rfl) (by kernel_rfl) (fun _ _ _ h => h) (Or.inl ⟨by rfl, ?_⟩) (by assumption) ?_; rotate_left; (focus (intro w hSw; (try dsimp only at hSw); go_simp; (try with_reducible rfl))); (try simp only [List.getElem_toArray, List.getElem_cons_zero, List.getElem_cons_succ, Act.put, List.setIfInBounds_toArray, List.set_cons_zero, List.set_cons_succ]))
        (refine wpAnyH_take (i := 16) (v := undef) rfl (by kernel_rfl) (by kernel_rfl) (by kernel_rfl) (fun _ _ _ h => h) (Or.inr ⟨by rfl, rfl⟩) (by assumption) ?_; (try simp only [List.getElem_toArray, List.getElem_cons_zero, List.getElem_cons_succ, Act.put, List.setIfInBounds_toArray, List.set_cons_zero, List.set_cons_succ])); (refine wpAnyH_take (i := 17) (v := undef) rfl (by kernel_rfl) (by kernel_rfl) (by kernel_rfl) (fun _ _ _ h => h) (Or.inr ⟨by rfl, rfl⟩) (by assumption) ?_; (try simp only [List.getElem_toArray, List.getElem_cons_zero, List.getElem_cons_succ, Act.put, List.setIfInBounds_toArray, List.set_cons_zero, List.set_cons_succ])); (refine wpAnyH_take (i := 18) (v := undef) rfl (by kernel_rfl) (by kernel_rfl) (by kernel_rfl) (fun _ _ _ h => h) (Or.inr ⟨by rfl, rfl⟩) (by assumption) ?_; (try simp only [List.getElem_toArray, List.getElem_cons_zero, List.getElem_cons_succ, Act.put, List.setIfInBounds_toArray, List.set_cons_zero, List.set_cons_succ])); (refine wpAnyH_take (i := 19) (v := undef) rfl (by kernel_rfl) (by kernel_rfl) (by kernel_rfl) (fun _ _ _ h => h) (Or.inr ⟨by rfl, rfl⟩) (by assumption) ?_; (try simp only [List.getElem_toArray, List.getElem_cons_zero, List.getElem_cons_succ, Act.put, List.setIfInBounds_toArray, List.set_cons_zero, List.set_cons_succ])); (refine wpAnyH_take (i := 20) (v := undef) rfl (by kernel_rfl) (by kernel_rfl) (by kernel_rfl) (fun _ _ _ h => h) (Or.inr ⟨by rfl, rfl⟩) (by assumption) ?_; (try simp only [List.getElem_toArray, List.getElem_cons_zero, List.getElem_cons_succ, Act.put, List.setIfInBounds_toArray, List.set_cons_zero, List.set_cons_succ])); (refine wpAnyH_take (i := 21) (v := undef) rfl (by kernel_rfl) (by kernel_rfl) (by kernel_rfl) (fun _ _ _ h => h) (Or.inr ⟨by rfl, rfl⟩) (by assumption) ?_; (try simp only [List.getElem_toArray, List.getElem_cons_zero, List.getElem_cons_succ, Act.put, List.setIfInBounds_toArray, List.set_cons_zero, List.set_cons_succ]))
        (refine wpAnyH_take (i := 22) (v := ?_) rfl (by kernel_rfl) (by kernel_rfl) (by kernel_rfl) (fun _ _ _ h => h) (Or.inl ⟨by rfl, ?_⟩) (by assumption) ?_; rotate_left; (focus (intro w hSw; (try dsimp only at hSw); go_simp; (try with_reducible rfl))); (try simp only [List.getElem_toArray, List.getElem_cons_zero, List.getElem_cons_succ, Act.put, List.setIfInBounds_toArray, List.set_cons_zero, List.set_cons_succ])); (refine wpAnyH_take (i := 23) (v := ?_) rfl (by kernel_rfl) (by kernel_rfl) (by kernel_rfl) (fun _ _ _ h => h) (Or.inl ⟨by rfl, ?_⟩) (by assumption) ?_; rotate_left; (focus (intro w hSw; (try dsimp only at hSw); go_simp; (try with_reducible rfl))); (try simp only [List.getElem_toArray, List.getElem_cons_zero, List.getElem_cons_succ, Act.put, List.setIfInBounds_toArray, List.set_cons_zero, List.set_cons_succ]))
        have HD : Hid (Below w9.heap.size w9 w9.drew) := (Below.refl _ _).drew
        refine wpAnyH_ready (rs := [24]) (by kernel_rfl) (by simp) ?_; refine AllReadyH.cons rfl (fun K hK => ?_) AllReadyH.nil; go_simp
        go_at_call 13
        refine (works_any _).mono ?_
        rintro e wz ⟨rfl, hbz⟩
        have HBz : Hid (Below w9.heap.size w9 wz) := bel HD.out hbz
        have hSz := HSR.out wz HBz.out
        clear hbz
        refine hK.out _ _ hSz (fun hHeld => ?_); clear hK K; (try simp only [List.getElem_toArray, List.getElem_cons_zero, List.getElem_cons_succ, Act.put, List.setIfInBounds_toArray, List.set_cons_zero, List.set_cons_succ])
        (refine wpAnyH_take (i := 25) (v := ?_) rfl (by kernel_rfl) (by kernel_rfl) (by kernel_rfl) (fun _ _ _ h => h) (Or.inl ⟨by rfl, ?_⟩) (by assumption) ?_; rotate_left; (focus (intro w hSw; (try dsimp only at hSw); go_simp; (try with_reducible rfl))); (try simp only [List.getElem_toArray, List.getElem_cons_zero, List.getElem_cons_succ, Act.put, List.setIfInBounds_toArray, List.set_cons_zero, List.set_cons_succ])); (refine wpAnyH_take (i := 26) (v := ?_) rfl (by kernel_rfl) (by kernel_rfl) (by kernel_rfl) (fun _ _ _ h => h) (Or.inl ⟨by rfl, ?_⟩) (by assumption) ?_; rotate_left; (focus (intro w hSw; (try dsimp only at hSw); go_simp; (try with_reducible rfl))); (try simp only [List.getElem_toArray, List.getElem_cons_zero, List.getElem_cons_succ, Act.put, List.setIfInBounds_toArray, List.set_cons_zero, List.set_cons_succ]))
        refine wpAnyH_done (by kernel_rfl) ?_ _; clear hHeld
        clear hSz
        go_wp2_with fail
        go_ret
        exact ⟨rfl, fin HB.out (bel HB9.out HBz.out)⟩
      · clear hz1 hz
        go_enter Try.func7, Try.ntmps7
        go_upto_region 3 with (first
          | (go_at_call 12; refine (ready_any N _ S _ HBK.out).mono ?_; rw [HRE.out]; rintro e w1 ⟨rfl, hb1⟩; have HB1 : Hid (Below ws.heap.size ws w1) := hb1; clear hb1 q0 q1 q2 q3; obtain ⟨r0, r1, r2, r3⟩ := HSQ.out w1 HB1.out)
          | (go_at_call 36; refine (isPlate_any N _ S _ _ (HBK.out.go HB1.out)).mono ?_; rw [HIN.out]; rintro e w2 ⟨rfl, hb2⟩; have HB2 : Hid (Below ws.heap.size ws w2) := bel HB1.out hb2; clear hb2 r0 r1 r2 r3; obtain ⟨r0, r1, r2, r3⟩ := HSQ.out w2 HB2.out))
        clear hws
        go_upto_region 4 with (go_at_call 31; refine (kNeeds_any N _ S _ 3 _ (HBK.out.go HB2.out) HNE.out).mono ?_; rw [HNV.out]; rintro e w3 ⟨rfl, hb3⟩; have HB3 : Hid (Below ws.heap.size ws w3) := bel HB2.out hb3; clear hb3 r0 r1 r2 r3; obtain ⟨r0, r1, r2, r3⟩ := HSQ.out w3 HB3.out)
        go_upto_region 5 with (go_at_call 15; refine (kTotal_any N _ S _ 0 _ (HBK.out.go HB3.out) HET.out).mono ?_; rw [HTL.out.1, HTL.out.2.1]; rintro e w4 ⟨rfl, hb4⟩; have HB4 : Hid (Below ws.heap.size ws w4) := bel HB3.out hb4; clear hb4; (obtain ⟨wo, hwo, HBo, hszo, hblko⟩ := box1 w4 (.cells #[.int .i64 0, .int .i64 0] 30); have HZo := Lib.hid hblko; have z0 := cell_blk hblko 0 rfl; have z1 := cell_blk hblko 1 rfl; have f0 := free_blk hblko 0; have f1 := free_blk hblko 1; clear hblko))
        obtain ⟨w5, hw5, hz5, ho5, hb5⟩ := put2o HZo.out (.int .i64 lo) (.int .i64 hi)
        rw [hw5]
        have hb45 : Below w4.heap.size w4 w5 := HBo.out.trans hb5
        have HB5 : Hid (Below ws.heap.size ws w5) := bel HB4.out hb45
        obtain ⟨P, hP⟩ : ∃ P, w4.heap.size = P := ⟨_, rfl⟩
        rw [hP] at hz5 ⊢
        have HZ5 := Lib.hid hz5
        clear hwo hszo z0 z1 f0 f1 hw5 hz5 ho5 hb5 HZo HBo hb45 hP r0 r1 r2 r3
        obtain ⟨r0, r1, r2, r3⟩ := HSQ.out w5 HB5.out
        go_upto_region 6 with (go_at_call 17; refine (kPrize_any N _ S _ 0 _ (HBK.out.go HB5.out) HET.out).mono ?_; rw [HTL.out.2.2]; rintro e w6 ⟨rfl, hb6⟩; have HB6 : Hid (Below ws.heap.size ws w6) := bel HB5.out hb6; have HZ6 := Lib.hid ((hb6.block _ (heap_lt HZ5.out)).trans HZ5.out); clear hb6 r0 r1 r2 r3)
        have x0 := cell_blk HZ6.out 0 rfl
        have x1 := cell_blk HZ6.out 1 rfl
        have w7d : ∃ w7, w7 = w6 := ⟨_, rfl⟩
        go_upto_region 8 with fail
        clear x0 x1 w7d
        have HB7 := HB6
        obtain ⟨w7, hw7⟩ : ∃ w7, w7 = w6 := ⟨_, rfl⟩
        subst hw7
        have HB0' := HB7
        obtain ⟨r0, r1, r2, r3⟩ := HSQ.out w7 HB7.out
        go_upto_region 9 with (go_at_call 14; refine (judged_any N _ _ S F _ (HBK.out.go HB7.out) (HFL.out.go HNS.out HB7.out) HG.out).mono ?_; rintro e w8 ⟨v8, mm, rfl, ho8, hj8, hb8⟩; have HB8 : Hid (Below ws.heap.size ws w8) := bel HB7.out hb8; have hgj := jgs_good HG.out hj8; have hs8 := ho8.show (by show S.np ≤ 1000; omega) (fun i hi => by have h1 := hgj.len i hi; have h2 := hgj.J5; omega); obtain ⟨a8, c8, e8⟩ : ∃ a c, v8 = .agg #[.int .i64 S.J, .int .i64 S.D, .int .i64 S.Z, .slice a S.np c] := hs8.form; subst e8; have HS8 := Lib.hid hs8; have HJ8 := Lib.hid hj8; have HGJ := Lib.hid hgj; clear hb8 ho8 hj8 hs8 hgj; obtain ⟨wo, hwo, HBo, hszo, hblko⟩ := box1 w8 (.cells #[.int .i64 0, .int .i64 0, .int .i64 0, .slice none 0 0] 24); have HZo := Lib.hid hblko; have z0 := cell_blk hblko 0 rfl; have z1 := cell_blk hblko 1 rfl; have z2 := cell_blk hblko 2 rfl; have z3 := cell_blk hblko 3 rfl; have f0 := free_blk hblko 0; have f1 := free_blk hblko 1; have f2 := free_blk hblko 2; have f3 := free_blk hblko 3; clear hblko)
        obtain ⟨w9, hw9, hz9, ho9, hb9⟩ := put4o HZo.out (.int .i64 S.J) (.int .i64 S.D) (.int .i64 S.Z) (.slice a8 S.np c8)
        rw [hw9]
        have hb89 : Below w8.heap.size w8 w9 := HBo.out.trans hb9
        have HB9 : Hid (Below ws.heap.size ws w9) := bel HB8.out hb89
        have hs9 := HS8.out.go hb89
        have hs89 := hb89.size
        obtain ⟨O, hO⟩ : ∃ O, w8.heap.size = O := ⟨_, rfl⟩
        rw [hO] at hz9 hs9 hs89 ⊢
        have HZ9 := Lib.hid hz9
        have hol := heap_lt hz9
        have HS9 := Lib.hid hs9
        clear hwo hszo z0 z1 z2 z3 f0 f1 f2 f3 hw9 hz9 ho9 hb9 HZo HBo hb89 hO HS8 hs9 r0 r1 r2 r3
        obtain ⟨A, C, _, _, hrows, hcells⟩ := HS9.out.plates.open
        obtain ⟨b, off, hab, hbO, hrr⟩ := hcells (by show 0 < S.np; omega)
        obtain rfl : a8 = some ⟨b, off, none⟩ := hab
        obtain ⟨L, hL⟩ : ∃ L, (mm k).length = L := ⟨_, rfl⟩
        have dk : w9.cell? ⟨b, off + k * 2 + 1, none⟩ = some (.slice (A k) (mm k).length (C k)) := (hrr k hk).2
        have hli : LI O w9 (.slice (A k) (mm k).length (C k)) (mm k) := (hrows k hk).2
        rw [hL] at dk hli
        have HLL := Lib.hid hL
        have HLI := Lib.hid hli
        have HSR : Hid (∀ W, Below w9.heap.size w9 W → (((W.cell? ⟨w.heap.size, 0, none⟩ = some (.int .i64 S.J) ∧ W.cell? ⟨w.heap.size, 1, none⟩ = some (.int .i64 S.D) ∧ W.cell? ⟨w.heap.size, 2, none⟩ = some (.int .i64 S.Z) ∧ W.cell? ⟨w.heap.size, 3, none⟩ = some (.slice a1 S.np c1))) ∧ (W.cell? ⟨O, 0, none⟩ = some (.int .i64 S.J) ∧ W.cell? ⟨O, 1, none⟩ = some (.int .i64 S.D) ∧ W.cell? ⟨O, 2, none⟩ = some (.int .i64 S.Z) ∧ W.cell? ⟨O, 3, none⟩ = some (.slice (some ⟨b, off, none⟩) S.np c8)) ∧ W.cell? ⟨b, off + k * 2 + 1, none⟩ = some (.slice (A k) L (C k)))) := fun W hW => by
          have hz := (hW.block O hol).trans HZ9.out
          exact ⟨HSQ.out W (bel HB9.out hW), ⟨cell_blk hz 0 rfl, cell_blk hz 1 rfl, cell_blk hz 2 rfl, cell_blk hz 3 rfl⟩, (hW.cell (p := ⟨b, off + k * 2 + 1, none⟩) (by show b < _; omega)).trans dk⟩
        have hS9 := HSR.out w9 (Below.refl _ _)
        have hkj : k < (JGS S mm).np := hk
        have hkji : (k : Int) < (((JGS S mm).np : Nat) : Int) := hki
        clear hrows hcells hrr dk hli hL
        refine wp_region_held_drew (S := fun W => (((W.cell? ⟨w.heap.size, 0, none⟩ = some (.int .i64 S.J) ∧ W.cell? ⟨w.heap.size, 1, none⟩ = some (.int .i64 S.D) ∧ W.cell? ⟨w.heap.size, 2, none⟩ = some (.int .i64 S.Z) ∧ W.cell? ⟨w.heap.size, 3, none⟩ = some (.slice a1 S.np c1))) ∧ (W.cell? ⟨O, 0, none⟩ = some (.int .i64 S.J) ∧ W.cell? ⟨O, 1, none⟩ = some (.int .i64 S.D) ∧ W.cell? ⟨O, 2, none⟩ = some (.int .i64 S.Z) ∧ W.cell? ⟨O, 3, none⟩ = some (.slice (some ⟨b, off, none⟩) S.np c8)) ∧ W.cell? ⟨b, off + k * 2 + 1, none⟩ = some (.slice (A k) L (C k)))) (by kernel_rfl) hS9 (fun hHeld => ?_)
        (refine wpAnyH_take (i := 0) (v := ?_) rfl (by kernel_rfl) (by kernel_rfl) (by kernel_rfl) (fun _ _ _ h => h) (Or.inl ⟨by rfl, ?_⟩) (by assumption) ?_; rotate_left; (focus (intro w hSw; (try dsimp only at hSw); go_simp; (try with_reducible rfl))); (try simp only [List.getElem_toArray, List.getElem_cons_zero, List.getElem_cons_succ, Act.put, List.setIfInBounds_toArray, List.set_cons_zero, List.set_cons_succ])); (refine wpAnyH_take (i := 1) (v := ?_) rfl (by kernel_rfl) (by kernel_rfl) (by kernel_rfl) (fun _ _ _ h => h) (Or.inl ⟨by rfl, ?_⟩) (by assumption) ?_; rotate_left; (focus (intro w hSw; (try dsimp only at hSw); go_simp; (try with_reducible rfl))); (try simp only [List.getElem_toArray, List.getElem_cons_zero, List.getElem_cons_succ, Act.put, List.setIfInBounds_toArray, List.set_cons_zero, List.set_cons_succ])); (refine wpAnyH_take (i := 2) (v := ?_) rfl (by kernel_rfl) (by kernel_rfl) (by kernel_rfl) (fun _ _ _ h => h) (Or.inl ⟨by rfl, ?_⟩) (by assumption) ?_; rotate_left; (focus (intro w hSw; (try dsimp only at hSw); go_simp; (try with_reducible rfl))); (try simp only [List.getElem_toArray, List.getElem_cons_zero, List.getElem_cons_succ, Act.put, List.setIfInBounds_toArray, List.set_cons_zero, List.set_cons_succ]))
        (refine wpAnyH_take (i := 3) (v := undef) rfl (by kernel_rfl) (by kernel_rfl) (by kernel_rfl) (fun _ _ _ h => h) (Or.inr ⟨by rfl, rfl⟩) (by assumption) ?_; (try simp only [List.getElem_toArray, List.getElem_cons_zero, List.getElem_cons_succ, Act.put, List.setIfInBounds_toArray, List.set_cons_zero, List.set_cons_succ])); (refine wpAnyH_take (i := 4) (v := undef) rfl (by kernel_rfl) (by kernel_rfl) (by kernel_rfl) (fun _ _ _ h => h) (Or.inr ⟨by rfl, rfl⟩) (by assumption) ?_; (try simp only [List.getElem_toArray, List.getElem_cons_zero, List.getElem_cons_succ, Act.put, List.setIfInBounds_toArray, List.set_cons_zero, List.set_cons_succ])); (refine wpAnyH_take (i := 5) (v := undef) rfl (by kernel_rfl) (by kernel_rfl) (by kernel_rfl) (fun _ _ _ h => h) (Or.inr ⟨by rfl, rfl⟩) (by assumption) ?_; (try simp only [List.getElem_toArray, List.getElem_cons_zero, List.getElem_cons_succ, Act.put, List.setIfInBounds_toArray, List.set_cons_zero, List.set_cons_succ])); (refine wpAnyH_take (i := 6) (v := undef) rfl (by kernel_rfl) (by kernel_rfl) (by kernel_rfl) (fun _ _ _ h => h) (Or.inr ⟨by rfl, rfl⟩) (by assumption) ?_; (try simp only [List.getElem_toArray, List.getElem_cons_zero, List.getElem_cons_succ, Act.put, List.setIfInBounds_toArray, List.set_cons_zero, List.set_cons_succ])); (refine wpAnyH_take (i := 7) (v := undef) rfl (by kernel_rfl) (by kernel_rfl) (by kernel_rfl) (fun _ _ _ h => h) (Or.inr ⟨by rfl, rfl⟩) (by assumption) ?_; (try simp only [List.getElem_toArray, List.getElem_cons_zero, List.getElem_cons_succ, Act.put, List.setIfInBounds_toArray, List.set_cons_zero, List.set_cons_succ])); (refine wpAnyH_take (i := 8) (v := undef) rfl (by kernel_rfl) (by kernel_rfl) (by kernel_rfl) (fun _ _ _ h => h) (Or.inr ⟨by rfl, rfl⟩) (by assumption) ?_; (try simp only [List.getElem_toArray, List.getElem_cons_zero, List.getElem_cons_succ, Act.put, List.setIfInBounds_toArray, List.set_cons_zero, List.set_cons_succ])); (refine wpAnyH_take (i := 9) (v := undef) rfl (by kernel_rfl) (by kernel_rfl) (by kernel_rfl) (fun _ _ _ h => h) (Or.inr ⟨by rfl, rfl⟩) (by assumption) ?_; (try simp only [List.getElem_toArray, List.getElem_cons_zero, List.getElem_cons_succ, Act.put, List.setIfInBounds_toArray, List.set_cons_zero, List.set_cons_succ])); (refine wpAnyH_take (i := 10) (v := undef) rfl (by kernel_rfl) (by kernel_rfl) (by kernel_rfl) (fun _ _ _ h => h) (Or.inr ⟨by rfl, rfl⟩) (by assumption) ?_; (try simp only [List.getElem_toArray, List.getElem_cons_zero, List.getElem_cons_succ, Act.put, List.setIfInBounds_toArray, List.set_cons_zero, List.set_cons_succ])); (refine wpAnyH_take (i := 11) (v := undef) rfl (by kernel_rfl) (by kernel_rfl) (by kernel_rfl) (fun _ _ _ h => h) (Or.inr ⟨by rfl, rfl⟩) (by assumption) ?_; (try simp only [List.getElem_toArray, List.getElem_cons_zero, List.getElem_cons_succ, Act.put, List.setIfInBounds_toArray, List.set_cons_zero, List.set_cons_succ])); (refine wpAnyH_take (i := 12) (v := undef) rfl (by kernel_rfl) (by kernel_rfl) (by kernel_rfl) (fun _ _ _ h => h) (Or.inr ⟨by rfl, rfl⟩) (by assumption) ?_; (try simp only [List.getElem_toArray, List.getElem_cons_zero, List.getElem_cons_succ, Act.put, List.setIfInBounds_toArray, List.set_cons_zero, List.set_cons_succ])); (refine wpAnyH_take (i := 13) (v := undef) rfl (by kernel_rfl) (by kernel_rfl) (by kernel_rfl) (fun _ _ _ h => h) (Or.inr ⟨by rfl, rfl⟩) (by assumption) ?_; (try simp only [List.getElem_toArray, List.getElem_cons_zero, List.getElem_cons_succ, Act.put, List.setIfInBounds_toArray, List.set_cons_zero, List.set_cons_succ]))
        (refine wpAnyH_take (i := 14) (v := ?_) rfl (by kernel_rfl) (by kernel_rfl) (by kernel_rfl) (fun _ _ _ h => h) (Or.inl ⟨by rfl, ?_⟩) (by assumption) ?_; rotate_left; (focus (intro w hSw; (try dsimp only at hSw); go_simp; (try with_reducible rfl))); (try simp only [List.getElem_toArray, List.getElem_cons_zero, List.getElem_cons_succ, Act.put, List.setIfInBounds_toArray, List.set_cons_zero, List.set_cons_succ])); (refine wpAnyH_take (i := 15) (v := ?_) rfl (by kernel_rfl) (by kernel_rfl) (by kernel_rfl) (fun _ _ _ h => h) (Or.inl ⟨by rfl, ?_⟩) (by assumption) ?_; rotate_left; (focus (intro w hSw; (try dsimp only at hSw); go_simp; (try with_reducible rfl))); (try simp only [List.getElem_toArray, List.getElem_cons_zero, List.getElem_cons_succ, Act.put, List.setIfInBounds_toArray, List.set_cons_zero, List.set_cons_succ]))
        (refine wpAnyH_take (i := 16) (v := undef) rfl (by kernel_rfl) (by kernel_rfl) (by kernel_rfl) (fun _ _ _ h => h) (Or.inr ⟨by rfl, rfl⟩) (by assumption) ?_; (try simp only [List.getElem_toArray, List.getElem_cons_zero, List.getElem_cons_succ, Act.put, List.setIfInBounds_toArray, List.set_cons_zero, List.set_cons_succ])); (refine wpAnyH_take (i := 17) (v := undef) rfl (by kernel_rfl) (by kernel_rfl) (by kernel_rfl) (fun _ _ _ h => h) (Or.inr ⟨by rfl, rfl⟩) (by assumption) ?_; (try simp only [List.getElem_toArray, List.getElem_cons_zero, List.getElem_cons_succ, Act.put, List.setIfInBounds_toArray, List.set_cons_zero, List.set_cons_succ])); (refine wpAnyH_take (i := 18) (v := undef) rfl (by kernel_rfl) (by kernel_rfl) (by kernel_rfl) (fun _ _ _ h => h) (Or.inr ⟨by rfl, rfl⟩) (by assumption) ?_; (try simp only [List.getElem_toArray, List.getElem_cons_zero, List.getElem_cons_succ, Act.put, List.setIfInBounds_toArray, List.set_cons_zero, List.set_cons_succ])); (refine wpAnyH_take (i := 19) (v := undef) rfl (by kernel_rfl) (by kernel_rfl) (by kernel_rfl) (fun _ _ _ h => h) (Or.inr ⟨by rfl, rfl⟩) (by assumption) ?_; (try simp only [List.getElem_toArray, List.getElem_cons_zero, List.getElem_cons_succ, Act.put, List.setIfInBounds_toArray, List.set_cons_zero, List.set_cons_succ])); (refine wpAnyH_take (i := 20) (v := undef) rfl (by kernel_rfl) (by kernel_rfl) (by kernel_rfl) (fun _ _ _ h => h) (Or.inr ⟨by rfl, rfl⟩) (by assumption) ?_; (try simp only [List.getElem_toArray, List.getElem_cons_zero, List.getElem_cons_succ, Act.put, List.setIfInBounds_toArray, List.set_cons_zero, List.set_cons_succ])); (refine wpAnyH_take (i := 21) (v := undef) rfl (by kernel_rfl) (by kernel_rfl) (by kernel_rfl) (fun _ _ _ h => h) (Or.inr ⟨by rfl, rfl⟩) (by assumption) ?_; (try simp only [List.getElem_toArray, List.getElem_cons_zero, List.getElem_cons_succ, Act.put, List.setIfInBounds_toArray, List.set_cons_zero, List.set_cons_succ]))
        (refine wpAnyH_take (i := 22) (v := ?_) rfl (by kernel_rfl) (by kernel_rfl) (by kernel_rfl) (fun _ _ _ h => h) (Or.inl ⟨by rfl, ?_⟩) (by assumption) ?_; rotate_left; (focus (intro w hSw; (try dsimp only at hSw); go_simp; (try with_reducible rfl))); (try simp only [List.getElem_toArray, List.getElem_cons_zero, List.getElem_cons_succ, Act.put, List.setIfInBounds_toArray, List.set_cons_zero, List.set_cons_succ])); (refine wpAnyH_take (i := 23) (v := ?_) rfl (by kernel_rfl) (by kernel_rfl) (by kernel_rfl) (fun _ _ _ h => h) (Or.inl ⟨by rfl, ?_⟩) (by assumption) ?_; rotate_left; (focus (intro w hSw; (try dsimp only at hSw); go_simp; (try with_reducible rfl))); (try simp only [List.getElem_toArray, List.getElem_cons_zero, List.getElem_cons_succ, Act.put, List.setIfInBounds_toArray, List.set_cons_zero, List.set_cons_succ]))
        have HD : Hid (Below w9.heap.size w9 w9.drew) := (Below.refl _ _).drew
        refine wpAnyH_ready (rs := [24]) (by kernel_rfl) (by simp) ?_; refine AllReadyH.cons rfl (fun K hK => ?_) AllReadyH.nil; go_simp
        go_at_call 13
        refine (works_any _).mono ?_
        rintro e wz ⟨rfl, hbz⟩
        have HBz : Hid (Below w9.heap.size w9 wz) := bel HD.out hbz
        have hSz := HSR.out wz HBz.out
        clear hbz
        refine hK.out _ _ hSz (fun hHeld => ?_); clear hK K; (try simp only [List.getElem_toArray, List.getElem_cons_zero, List.getElem_cons_succ, Act.put, List.setIfInBounds_toArray, List.set_cons_zero, List.set_cons_succ])
        (refine wpAnyH_take (i := 25) (v := ?_) rfl (by kernel_rfl) (by kernel_rfl) (by kernel_rfl) (fun _ _ _ h => h) (Or.inl ⟨by rfl, ?_⟩) (by assumption) ?_; rotate_left; (focus (intro w hSw; (try dsimp only at hSw); go_simp; (try with_reducible rfl))); (try simp only [List.getElem_toArray, List.getElem_cons_zero, List.getElem_cons_succ, Act.put, List.setIfInBounds_toArray, List.set_cons_zero, List.set_cons_succ])); (refine wpAnyH_take (i := 26) (v := ?_) rfl (by kernel_rfl) (by kernel_rfl) (by kernel_rfl) (fun _ _ _ h => h) (Or.inl ⟨by rfl, ?_⟩) (by assumption) ?_; rotate_left; (focus (intro w hSw; (try dsimp only at hSw); go_simp; (try with_reducible rfl))); (try simp only [List.getElem_toArray, List.getElem_cons_zero, List.getElem_cons_succ, Act.put, List.setIfInBounds_toArray, List.set_cons_zero, List.set_cons_succ]))
        refine wpAnyH_done (by kernel_rfl) ?_ _; clear hHeld
        clear hSz
        go_wp2_with fail
        go_ret
        exact ⟨rfl, fin HB.out (bel HB9.out HBz.out)⟩
    | some n =>
      have HNV : Hid (sp 0 (ndV S (k : Int).toNat) = n) := by unfold Hid; rw [Int.toNat_natCast, sp_ok]; unfold ndV; rw [hnd]; rfl
      have HNE : Hid ((if errA (okS S) (inN (k : Int) S.np) = 0 then (if ndB S (k : Int).toNat then 0 else 3) else errA (okS S) (inN (k : Int) S.np)) = 0) := by
        unfold Hid
        rw [if_pos HET.out, Int.toNat_natCast]
        unfold ndB; rw [hnd]; rfl
      obtain ⟨hn1, hn2, hn3, hn4, hn5⟩ := nd_some hnd
      rw [hlo] at hn1
      rw [hhi] at hn2
      rw [hz] at hn4
      rw [hz, hlo] at hn5
      have HNS3 := Lib.hid hn3
      have HHO : Hid ((decide (lo ≤ n) && decide (n ≤ hi)) = true) := by unfold Hid; rw [decide_eq_true hn1, decide_eq_true hn2]; rfl
      clear hfar hok hin hlo hhi hnd hdn hn3
      rcases h123 with rfl | h2 | rfl
      · have hnl := hn5.1 rfl
        subst hnl
        clear hn1 hn2 hn4 hn5 hz
        go_enter Try.func7, Try.ntmps7
        go_upto_region 3 with (first
          | (go_at_call 12; refine (ready_any N _ S _ HBK.out).mono ?_; rw [HRE.out]; rintro e w1 ⟨rfl, hb1⟩; have HB1 : Hid (Below ws.heap.size ws w1) := hb1; clear hb1 q0 q1 q2 q3; obtain ⟨r0, r1, r2, r3⟩ := HSQ.out w1 HB1.out)
          | (go_at_call 36; refine (isPlate_any N _ S _ _ (HBK.out.go HB1.out)).mono ?_; rw [HIN.out]; rintro e w2 ⟨rfl, hb2⟩; have HB2 : Hid (Below ws.heap.size ws w2) := bel HB1.out hb2; clear hb2 r0 r1 r2 r3; obtain ⟨r0, r1, r2, r3⟩ := HSQ.out w2 HB2.out))
        clear hws
        go_upto_region 4 with (go_at_call 31; refine (kNeeds_any N _ S _ 0 _ (HBK.out.go HB2.out) HNE.out).mono ?_; rw [HNV.out]; rintro e w3 ⟨rfl, hb3⟩; have HB3 : Hid (Below ws.heap.size ws w3) := bel HB2.out hb3; clear hb3 r0 r1 r2 r3; obtain ⟨r0, r1, r2, r3⟩ := HSQ.out w3 HB3.out)
        go_upto_region 5 with (go_at_call 15; refine (kTotal_any N _ S _ 0 _ (HBK.out.go HB3.out) HET.out).mono ?_; rw [HTL.out.1, HTL.out.2.1]; rintro e w4 ⟨rfl, hb4⟩; have HB4 : Hid (Below ws.heap.size ws w4) := bel HB3.out hb4; clear hb4; (obtain ⟨wo, hwo, HBo, hszo, hblko⟩ := box1 w4 (.cells #[.int .i64 0, .int .i64 0] 30); have HZo := Lib.hid hblko; have z0 := cell_blk hblko 0 rfl; have z1 := cell_blk hblko 1 rfl; have f0 := free_blk hblko 0; have f1 := free_blk hblko 1; clear hblko))
        obtain ⟨w5, hw5, hz5, ho5, hb5⟩ := put2o HZo.out (.int .i64 n) (.int .i64 hi)
        rw [hw5]
        have hb45 : Below w4.heap.size w4 w5 := HBo.out.trans hb5
        have HB5 : Hid (Below ws.heap.size ws w5) := bel HB4.out hb45
        obtain ⟨P, hP⟩ : ∃ P, w4.heap.size = P := ⟨_, rfl⟩
        rw [hP] at hz5 ⊢
        have HZ5 := Lib.hid hz5
        clear hwo hszo z0 z1 f0 f1 hw5 hz5 ho5 hb5 HZo HBo hb45 hP r0 r1 r2 r3
        obtain ⟨r0, r1, r2, r3⟩ := HSQ.out w5 HB5.out
        go_upto_region 6 with (go_at_call 17; refine (kPrize_any N _ S _ 0 _ (HBK.out.go HB5.out) HET.out).mono ?_; rw [HTL.out.2.2]; rintro e w6 ⟨rfl, hb6⟩; have HB6 : Hid (Below ws.heap.size ws w6) := bel HB5.out hb6; have HZ6 := Lib.hid ((hb6.block _ (heap_lt HZ5.out)).trans HZ5.out); clear hb6 r0 r1 r2 r3)
        have x0 := cell_blk HZ6.out 0 rfl
        have x1 := cell_blk HZ6.out 1 rfl
        go_upto_region 8 with (go_at_call 19; refine (holds_any _ _ _ _).mono ?_; rw [HHO.out]; rintro e w7 ⟨rfl, hb7⟩; have HB7 : Hid (Below ws.heap.size ws w7) := bel HB6.out hb7; clear hb7 x0 x1)
        have HB0' := HB7
        obtain ⟨r0, r1, r2, r3⟩ := HSQ.out w7 HB7.out
        go_upto_region 9 with (go_at_call 14; refine (judged_any N _ _ S F _ (HBK.out.go HB7.out) (HFL.out.go HNS.out HB7.out) HG.out).mono ?_; rintro e w8 ⟨v8, mm, rfl, ho8, hj8, hb8⟩; have HB8 : Hid (Below ws.heap.size ws w8) := bel HB7.out hb8; have hgj := jgs_good HG.out hj8; have hs8 := ho8.show (by show S.np ≤ 1000; omega) (fun i hi => by have h1 := hgj.len i hi; have h2 := hgj.J5; omega); obtain ⟨a8, c8, e8⟩ : ∃ a c, v8 = .agg #[.int .i64 S.J, .int .i64 S.D, .int .i64 S.Z, .slice a S.np c] := hs8.form; subst e8; have HS8 := Lib.hid hs8; have HJ8 := Lib.hid hj8; have HGJ := Lib.hid hgj; clear hb8 ho8 hj8 hs8 hgj; obtain ⟨wo, hwo, HBo, hszo, hblko⟩ := box1 w8 (.cells #[.int .i64 0, .int .i64 0, .int .i64 0, .slice none 0 0] 24); have HZo := Lib.hid hblko; have z0 := cell_blk hblko 0 rfl; have z1 := cell_blk hblko 1 rfl; have z2 := cell_blk hblko 2 rfl; have z3 := cell_blk hblko 3 rfl; have f0 := free_blk hblko 0; have f1 := free_blk hblko 1; have f2 := free_blk hblko 2; have f3 := free_blk hblko 3; clear hblko)
        obtain ⟨w9, hw9, hz9, ho9, hb9⟩ := put4o HZo.out (.int .i64 S.J) (.int .i64 S.D) (.int .i64 S.Z) (.slice a8 S.np c8)
        rw [hw9]
        have hb89 : Below w8.heap.size w8 w9 := HBo.out.trans hb9
        have HB9 : Hid (Below ws.heap.size ws w9) := bel HB8.out hb89
        have hs9 := HS8.out.go hb89
        have hs89 := hb89.size
        obtain ⟨O, hO⟩ : ∃ O, w8.heap.size = O := ⟨_, rfl⟩
        rw [hO] at hz9 hs9 hs89 ⊢
        have HZ9 := Lib.hid hz9
        have hol := heap_lt hz9
        have HS9 := Lib.hid hs9
        clear hwo hszo z0 z1 z2 z3 f0 f1 f2 f3 hw9 hz9 ho9 hb9 HZo HBo hb89 hO HS8 hs9 r0 r1 r2 r3
        obtain ⟨A, C, _, _, hrows, hcells⟩ := HS9.out.plates.open
        obtain ⟨b, off, hab, hbO, hrr⟩ := hcells (by show 0 < S.np; omega)
        obtain rfl : a8 = some ⟨b, off, none⟩ := hab
        obtain ⟨L, hL⟩ : ∃ L, (mm k).length = L := ⟨_, rfl⟩
        have dk : w9.cell? ⟨b, off + k * 2 + 1, none⟩ = some (.slice (A k) (mm k).length (C k)) := (hrr k hk).2
        have hli : LI O w9 (.slice (A k) (mm k).length (C k)) (mm k) := (hrows k hk).2
        rw [hL] at dk hli
        have HLL := Lib.hid hL
        have HLI := Lib.hid hli
        have HSR : Hid (∀ W, Below w9.heap.size w9 W → (((W.cell? ⟨w.heap.size, 0, none⟩ = some (.int .i64 S.J) ∧ W.cell? ⟨w.heap.size, 1, none⟩ = some (.int .i64 S.D) ∧ W.cell? ⟨w.heap.size, 2, none⟩ = some (.int .i64 S.Z) ∧ W.cell? ⟨w.heap.size, 3, none⟩ = some (.slice a1 S.np c1))) ∧ (W.cell? ⟨O, 0, none⟩ = some (.int .i64 S.J) ∧ W.cell? ⟨O, 1, none⟩ = some (.int .i64 S.D) ∧ W.cell? ⟨O, 2, none⟩ = some (.int .i64 S.Z) ∧ W.cell? ⟨O, 3, none⟩ = some (.slice (some ⟨b, off, none⟩) S.np c8)) ∧ W.cell? ⟨b, off + k * 2 + 1, none⟩ = some (.slice (A k) L (C k)))) := fun W hW => by
          have hz := (hW.block O hol).trans HZ9.out
          exact ⟨HSQ.out W (bel HB9.out hW), ⟨cell_blk hz 0 rfl, cell_blk hz 1 rfl, cell_blk hz 2 rfl, cell_blk hz 3 rfl⟩, (hW.cell (p := ⟨b, off + k * 2 + 1, none⟩) (by show b < _; omega)).trans dk⟩
        have hS9 := HSR.out w9 (Below.refl _ _)
        have hkj : k < (JGS S mm).np := hk
        have hkji : (k : Int) < (((JGS S mm).np : Nat) : Int) := hki
        clear hrows hcells hrr dk hli hL
        refine wp_region_held_drew (S := fun W => (((W.cell? ⟨w.heap.size, 0, none⟩ = some (.int .i64 S.J) ∧ W.cell? ⟨w.heap.size, 1, none⟩ = some (.int .i64 S.D) ∧ W.cell? ⟨w.heap.size, 2, none⟩ = some (.int .i64 S.Z) ∧ W.cell? ⟨w.heap.size, 3, none⟩ = some (.slice a1 S.np c1))) ∧ (W.cell? ⟨O, 0, none⟩ = some (.int .i64 S.J) ∧ W.cell? ⟨O, 1, none⟩ = some (.int .i64 S.D) ∧ W.cell? ⟨O, 2, none⟩ = some (.int .i64 S.Z) ∧ W.cell? ⟨O, 3, none⟩ = some (.slice (some ⟨b, off, none⟩) S.np c8)) ∧ W.cell? ⟨b, off + k * 2 + 1, none⟩ = some (.slice (A k) L (C k)))) (by kernel_rfl) hS9 (fun hHeld => ?_)
        have HNJ : Hid (∀ t, tot S.D.toNat (mm k) = t → n ≤ t → ((plc (JGS S mm) k : Nat) : Int) ≤ S.Z) := fun t ht h => nds_judged HJ8.out hk HNS3.out (by rw [ht]; exact h)
        obtain ⟨tv, htv⟩ : ∃ tv, tot dn (mm k) = tv := ⟨_, rfl⟩
        have HTV := Lib.hid htv
        have HTD : Hid (tot S.D.toNat (mm k) = tv) := by unfold Hid; rw [HDN.out, Int.toNat_natCast]; exact htv
        obtain ⟨pv, hpv⟩ : ∃ pv, plc (JGS S mm) k = pv := ⟨_, rfl⟩
        have HPV := Lib.hid hpv
        have HNJ2 := Lib.hid (HNJ.out tv HTD.out)
        rw [hpv] at HNJ2
        have h2d : 2 * dn ≤ (mm k).length := by
          have h1 := HGJ.out.len k hk
          have h2 := HGJ.out.DJ
          have h3 := HDN.out
          have h4 : ((mm k).length : Int) = S.J := h1
          have h5 : 2 * S.D < S.J := h2
          omega
        have hl5 : (mm k).length ≤ 40 := by
          have h1 : ((mm k).length : Int) = S.J := HGJ.out.len k hk
          have h2 := HG.out.J5
          omega
        have HTO := Lib.hid (And.intro hl5 h2d)
        have HPT : Hid (∀ x, x ∈ mm k → -1 ≤ x ∧ x ≤ 1000) := fun x hx => by have := HGJ.out.pt k hk x hx; omega
        clear htv hpv h2d hl5
        (refine wpAnyH_take (i := 0) (v := ?_) rfl (by kernel_rfl) (by kernel_rfl) (by kernel_rfl) (fun _ _ _ h => h) (Or.inl ⟨by rfl, ?_⟩) (by assumption) ?_; rotate_left; (focus (intro w hSw; (try dsimp only at hSw); go_simp; (try with_reducible rfl))); (try simp only [List.getElem_toArray, List.getElem_cons_zero, List.getElem_cons_succ, Act.put, List.setIfInBounds_toArray, List.set_cons_zero, List.set_cons_succ])); (refine wpAnyH_take (i := 1) (v := ?_) rfl (by kernel_rfl) (by kernel_rfl) (by kernel_rfl) (fun _ _ _ h => h) (Or.inl ⟨by rfl, ?_⟩) (by assumption) ?_; rotate_left; (focus (intro w hSw; (try dsimp only at hSw); go_simp; (try with_reducible rfl))); (try simp only [List.getElem_toArray, List.getElem_cons_zero, List.getElem_cons_succ, Act.put, List.setIfInBounds_toArray, List.set_cons_zero, List.set_cons_succ])); (refine wpAnyH_take (i := 2) (v := ?_) rfl (by kernel_rfl) (by kernel_rfl) (by kernel_rfl) (fun _ _ _ h => h) (Or.inl ⟨by rfl, ?_⟩) (by assumption) ?_; rotate_left; (focus (intro w hSw; (try dsimp only at hSw); go_simp; (try with_reducible rfl))); (try simp only [List.getElem_toArray, List.getElem_cons_zero, List.getElem_cons_succ, Act.put, List.setIfInBounds_toArray, List.set_cons_zero, List.set_cons_succ])); (refine wpAnyH_take (i := 3) (v := ?_) rfl (by kernel_rfl) (by kernel_rfl) (by kernel_rfl) (fun _ _ _ h => h) (Or.inl ⟨by rfl, ?_⟩) (by assumption) ?_; rotate_left; (focus (intro w hSw; (try dsimp only at hSw); go_simp; (try with_reducible rfl))); (try simp only [List.getElem_toArray, List.getElem_cons_zero, List.getElem_cons_succ, Act.put, List.setIfInBounds_toArray, List.set_cons_zero, List.set_cons_succ])); (refine wpAnyH_take (i := 4) (v := ?_) rfl (by kernel_rfl) (by kernel_rfl) (by kernel_rfl) (fun _ _ _ h => h) (Or.inl ⟨by rfl, ?_⟩) (by assumption) ?_; rotate_left; (focus (intro w hSw; (try dsimp only at hSw); go_simp; (try with_reducible rfl))); (try simp only [List.getElem_toArray, List.getElem_cons_zero, List.getElem_cons_succ, Act.put, List.setIfInBounds_toArray, List.set_cons_zero, List.set_cons_succ])); (refine wpAnyH_take (i := 5) (v := ?_) rfl (by kernel_rfl) (by kernel_rfl) (by kernel_rfl) (fun _ _ _ h => h) (Or.inl ⟨by rfl, ?_⟩) (by assumption) ?_; rotate_left; (focus (intro w hSw; (try dsimp only at hSw); go_simp; (try with_reducible rfl))); (try simp only [List.getElem_toArray, List.getElem_cons_zero, List.getElem_cons_succ, Act.put, List.setIfInBounds_toArray, List.set_cons_zero, List.set_cons_succ])); (refine wpAnyH_take (i := 6) (v := ?_) rfl (by kernel_rfl) (by kernel_rfl) (by kernel_rfl) (fun _ _ _ h => h) (Or.inl ⟨by rfl, ?_⟩) (by assumption) ?_; rotate_left; (focus (intro w hSw; (try dsimp only at hSw); go_simp; (try with_reducible rfl))); (try simp only [List.getElem_toArray, List.getElem_cons_zero, List.getElem_cons_succ, Act.put, List.setIfInBounds_toArray, List.set_cons_zero, List.set_cons_succ])); (refine wpAnyH_take (i := 7) (v := ?_) rfl (by kernel_rfl) (by kernel_rfl) (by kernel_rfl) (fun _ _ _ h => h) (Or.inl ⟨by rfl, ?_⟩) (by assumption) ?_; rotate_left; (focus (intro w hSw; (try dsimp only at hSw); go_simp; (try with_reducible rfl))); (try simp only [List.getElem_toArray, List.getElem_cons_zero, List.getElem_cons_succ, Act.put, List.setIfInBounds_toArray, List.set_cons_zero, List.set_cons_succ])); (refine wpAnyH_take (i := 8) (v := ?_) rfl (by kernel_rfl) (by kernel_rfl) (by kernel_rfl) (fun _ _ _ h => h) (Or.inl ⟨by rfl, ?_⟩) (by assumption) ?_; rotate_left; (focus (intro w hSw; (try dsimp only at hSw); go_simp; (try with_reducible rfl))); (try simp only [List.getElem_toArray, List.getElem_cons_zero, List.getElem_cons_succ, Act.put, List.setIfInBounds_toArray, List.set_cons_zero, List.set_cons_succ])); (refine wpAnyH_take (i := 9) (v := ?_) rfl (by kernel_rfl) (by kernel_rfl) (by kernel_rfl) (fun _ _ _ h => h) (Or.inl ⟨by rfl, ?_⟩) (by assumption) ?_; rotate_left; (focus (intro w hSw; (try dsimp only at hSw); go_simp; (try with_reducible rfl))); (try simp only [List.getElem_toArray, List.getElem_cons_zero, List.getElem_cons_succ, Act.put, List.setIfInBounds_toArray, List.set_cons_zero, List.set_cons_succ])); (refine wpAnyH_take (i := 10) (v := ?_) rfl (by kernel_rfl) (by kernel_rfl) (by kernel_rfl) (fun _ _ _ h => h) (Or.inl ⟨by rfl, ?_⟩) (by assumption) ?_; rotate_left; (focus (intro w hSw; (try dsimp only at hSw); go_simp; (try with_reducible rfl))); (try simp only [List.getElem_toArray, List.getElem_cons_zero, List.getElem_cons_succ, Act.put, List.setIfInBounds_toArray, List.set_cons_zero, List.set_cons_succ]))
        (refine wpAnyH_take (i := 12) (v := ?_) rfl (by kernel_rfl) (by kernel_rfl) (by kernel_rfl) (fun _ _ _ h => h) (Or.inl ⟨by rfl, ?_⟩) (by assumption) ?_; rotate_left; (focus (intro w hSw; (try dsimp only at hSw); go_simp; (try with_reducible rfl))); (try simp only [List.getElem_toArray, List.getElem_cons_zero, List.getElem_cons_succ, Act.put, List.setIfInBounds_toArray, List.set_cons_zero, List.set_cons_succ]))
        refine wpAnyH_ready (rs := [11]) (by kernel_rfl) (by simp) ?_; refine AllReadyH.cons rfl (fun K hK => ?_) AllReadyH.nil; go_simp
        go_at_call 20
        rw [HDN.out]
        refine (totalOf_any O _ (mm k) dn _ (HLI.out.go hs89 (Below.refl _ _).drew) (by have := (Below.refl w9.heap.size w9).drew.size; omega) HTO.out.1 HPT.out HTO.out.2).mono ?_
        rw [HTV.out]
        rintro e wa ⟨rfl, hba⟩
        have HDa : Hid (Below w9.heap.size w9 wa) := (Below.refl _ _).drew.trans hba
        have hSa := HSR.out wa HDa.out
        clear hba hS9
        by_cases htn : tv < n
        · have htd : decide (tv < n) = true := decide_eq_true htn
          refine hK.out _ _ hSa (fun hHeld => ?_); clear hK K; (try simp only [List.getElem_toArray, List.getElem_cons_zero, List.getElem_cons_succ, Act.put, List.setIfInBounds_toArray, List.set_cons_zero, List.set_cons_succ])
          (refine wpAnyH_take (i := 13) (v := ?_) rfl (by kernel_rfl) (by kernel_rfl) (by kernel_rfl) (fun _ _ _ h => h) (Or.inl ⟨by rfl, ?_⟩) (by assumption) ?_; rotate_left; (focus (intro w hSw; (try dsimp only at hSw); go_simp; (try with_reducible rfl))); (try simp only [List.getElem_toArray, List.getElem_cons_zero, List.getElem_cons_succ, Act.put, List.setIfInBounds_toArray, List.set_cons_zero, List.set_cons_succ])); (refine wpAnyH_take (i := 14) (v := ?_) rfl (by kernel_rfl) (by kernel_rfl) (by kernel_rfl) (fun _ _ _ h => h) (Or.inl ⟨by rfl, ?_⟩) (by assumption) ?_; rotate_left; (focus (intro w hSw; (try dsimp only at hSw); go_simp; (try with_reducible rfl))); (try simp only [List.getElem_toArray, List.getElem_cons_zero, List.getElem_cons_succ, Act.put, List.setIfInBounds_toArray, List.set_cons_zero, List.set_cons_succ])); (refine wpAnyH_take (i := 15) (v := ?_) rfl (by kernel_rfl) (by kernel_rfl) (by kernel_rfl) (fun _ _ _ h => h) (Or.inl ⟨by rfl, ?_⟩) (by assumption) ?_; rotate_left; (focus (intro w hSw; (try dsimp only at hSw); go_simp; (try with_reducible rfl))); (try simp only [List.getElem_toArray, List.getElem_cons_zero, List.getElem_cons_succ, Act.put, List.setIfInBounds_toArray, List.set_cons_zero, List.set_cons_succ]))
          (refine wpAnyH_take (i := 16) (v := undef) rfl (by kernel_rfl) (by kernel_rfl) (by kernel_rfl) (fun _ _ _ h => h) (Or.inr ⟨by rfl, rfl⟩) (by assumption) ?_; (try simp only [List.getElem_toArray, List.getElem_cons_zero, List.getElem_cons_succ, Act.put, List.setIfInBounds_toArray, List.set_cons_zero, List.set_cons_succ])); (refine wpAnyH_take (i := 17) (v := undef) rfl (by kernel_rfl) (by kernel_rfl) (by kernel_rfl) (fun _ _ _ h => h) (Or.inr ⟨by rfl, rfl⟩) (by assumption) ?_; (try simp only [List.getElem_toArray, List.getElem_cons_zero, List.getElem_cons_succ, Act.put, List.setIfInBounds_toArray, List.set_cons_zero, List.set_cons_succ])); (refine wpAnyH_take (i := 18) (v := undef) rfl (by kernel_rfl) (by kernel_rfl) (by kernel_rfl) (fun _ _ _ h => h) (Or.inr ⟨by rfl, rfl⟩) (by assumption) ?_; (try simp only [List.getElem_toArray, List.getElem_cons_zero, List.getElem_cons_succ, Act.put, List.setIfInBounds_toArray, List.set_cons_zero, List.set_cons_succ])); (refine wpAnyH_take (i := 19) (v := undef) rfl (by kernel_rfl) (by kernel_rfl) (by kernel_rfl) (fun _ _ _ h => h) (Or.inr ⟨by rfl, rfl⟩) (by assumption) ?_; (try simp only [List.getElem_toArray, List.getElem_cons_zero, List.getElem_cons_succ, Act.put, List.setIfInBounds_toArray, List.set_cons_zero, List.set_cons_succ])); (refine wpAnyH_take (i := 20) (v := undef) rfl (by kernel_rfl) (by kernel_rfl) (by kernel_rfl) (fun _ _ _ h => h) (Or.inr ⟨by rfl, rfl⟩) (by assumption) ?_; (try simp only [List.getElem_toArray, List.getElem_cons_zero, List.getElem_cons_succ, Act.put, List.setIfInBounds_toArray, List.set_cons_zero, List.set_cons_succ])); (refine wpAnyH_take (i := 21) (v := undef) rfl (by kernel_rfl) (by kernel_rfl) (by kernel_rfl) (fun _ _ _ h => h) (Or.inr ⟨by rfl, rfl⟩) (by assumption) ?_; (try simp only [List.getElem_toArray, List.getElem_cons_zero, List.getElem_cons_succ, Act.put, List.setIfInBounds_toArray, List.set_cons_zero, List.set_cons_succ]))
          (refine wpAnyH_take (i := 22) (v := ?_) rfl (by kernel_rfl) (by kernel_rfl) (by kernel_rfl) (fun _ _ _ h => h) (Or.inl ⟨by rfl, ?_⟩) (by assumption) ?_; rotate_left; (focus (intro w hSw; (try dsimp only at hSw); go_simp; (try with_reducible rfl))); (try simp only [List.getElem_toArray, List.getElem_cons_zero, List.getElem_cons_succ, Act.put, List.setIfInBounds_toArray, List.set_cons_zero, List.set_cons_succ])); (refine wpAnyH_take (i := 23) (v := ?_) rfl (by kernel_rfl) (by kernel_rfl) (by kernel_rfl) (fun _ _ _ h => h) (Or.inl ⟨by rfl, ?_⟩) (by assumption) ?_; rotate_left; (focus (intro w hSw; (try dsimp only at hSw); go_simp; (try with_reducible rfl))); (try simp only [List.getElem_toArray, List.getElem_cons_zero, List.getElem_cons_succ, Act.put, List.setIfInBounds_toArray, List.set_cons_zero, List.set_cons_succ]))
          refine wpAnyH_ready (rs := [24]) (by kernel_rfl) (by simp) ?_; refine AllReadyH.cons rfl (fun K hK => ?_) AllReadyH.nil; go_simp
          go_at_call 13
          refine (works_any _).mono ?_
          rintro e wz ⟨rfl, hbz⟩
          have HBz : Hid (Below w9.heap.size w9 wz) := bel HDa.out hbz
          have hSz := HSR.out wz HBz.out
          clear hbz
          refine hK.out _ _ hSz (fun hHeld => ?_); clear hK K; (try simp only [List.getElem_toArray, List.getElem_cons_zero, List.getElem_cons_succ, Act.put, List.setIfInBounds_toArray, List.set_cons_zero, List.set_cons_succ])
          (refine wpAnyH_take (i := 25) (v := ?_) rfl (by kernel_rfl) (by kernel_rfl) (by kernel_rfl) (fun _ _ _ h => h) (Or.inl ⟨by rfl, ?_⟩) (by assumption) ?_; rotate_left; (focus (intro w hSw; (try dsimp only at hSw); go_simp; (try with_reducible rfl))); (try simp only [List.getElem_toArray, List.getElem_cons_zero, List.getElem_cons_succ, Act.put, List.setIfInBounds_toArray, List.set_cons_zero, List.set_cons_succ])); (refine wpAnyH_take (i := 26) (v := ?_) rfl (by kernel_rfl) (by kernel_rfl) (by kernel_rfl) (fun _ _ _ h => h) (Or.inl ⟨by rfl, ?_⟩) (by assumption) ?_; rotate_left; (focus (intro w hSw; (try dsimp only at hSw); go_simp; (try with_reducible rfl))); (try simp only [List.getElem_toArray, List.getElem_cons_zero, List.getElem_cons_succ, Act.put, List.setIfInBounds_toArray, List.set_cons_zero, List.set_cons_succ]))
          refine wpAnyH_done (by kernel_rfl) ?_ _; clear hHeld
          clear hSz
          go_wp2_with fail
          go_ret
          exact ⟨rfl, fin HB.out (bel HB9.out HBz.out)⟩
        · have htd : decide (tv < n) = false := decide_eq_false htn
          have hpz : (pv : Int) ≤ S.Z := HNJ2.out (by omega)
          have hpd : decide ((pv : Int) ≤ S.Z) = true := decide_eq_true hpz
          refine hK.out _ _ hSa (fun hHeld => ?_); clear hK K; (try simp only [List.getElem_toArray, List.getElem_cons_zero, List.getElem_cons_succ, Act.put, List.setIfInBounds_toArray, List.set_cons_zero, List.set_cons_succ])
          (refine wpAnyH_take (i := 13) (v := ?_) rfl (by kernel_rfl) (by kernel_rfl) (by kernel_rfl) (fun _ _ _ h => h) (Or.inl ⟨by rfl, ?_⟩) (by assumption) ?_; rotate_left; (focus (intro w hSw; (try dsimp only at hSw); go_simp; (try with_reducible rfl))); (try simp only [List.getElem_toArray, List.getElem_cons_zero, List.getElem_cons_succ, Act.put, List.setIfInBounds_toArray, List.set_cons_zero, List.set_cons_succ])); (refine wpAnyH_take (i := 14) (v := ?_) rfl (by kernel_rfl) (by kernel_rfl) (by kernel_rfl) (fun _ _ _ h => h) (Or.inl ⟨by rfl, ?_⟩) (by assumption) ?_; rotate_left; (focus (intro w hSw; (try dsimp only at hSw); go_simp; (try with_reducible rfl))); (try simp only [List.getElem_toArray, List.getElem_cons_zero, List.getElem_cons_succ, Act.put, List.setIfInBounds_toArray, List.set_cons_zero, List.set_cons_succ])); (refine wpAnyH_take (i := 15) (v := ?_) rfl (by kernel_rfl) (by kernel_rfl) (by kernel_rfl) (fun _ _ _ h => h) (Or.inl ⟨by rfl, ?_⟩) (by assumption) ?_; rotate_left; (focus (intro w hSw; (try dsimp only at hSw); go_simp; (try with_reducible rfl))); (try simp only [List.getElem_toArray, List.getElem_cons_zero, List.getElem_cons_succ, Act.put, List.setIfInBounds_toArray, List.set_cons_zero, List.set_cons_succ])); (refine wpAnyH_take (i := 16) (v := ?_) rfl (by kernel_rfl) (by kernel_rfl) (by kernel_rfl) (fun _ _ _ h => h) (Or.inl ⟨by rfl, ?_⟩) (by assumption) ?_; rotate_left; (focus (intro w hSw; (try dsimp only at hSw); go_simp; (try with_reducible rfl))); (try simp only [List.getElem_toArray, List.getElem_cons_zero, List.getElem_cons_succ, Act.put, List.setIfInBounds_toArray, List.set_cons_zero, List.set_cons_succ])); (refine wpAnyH_take (i := 17) (v := ?_) rfl (by kernel_rfl) (by kernel_rfl) (by kernel_rfl) (fun _ _ _ h => h) (Or.inl ⟨by rfl, ?_⟩) (by assumption) ?_; rotate_left; (focus (intro w hSw; (try dsimp only at hSw); go_simp; (try with_reducible rfl))); (try simp only [List.getElem_toArray, List.getElem_cons_zero, List.getElem_cons_succ, Act.put, List.setIfInBounds_toArray, List.set_cons_zero, List.set_cons_succ]))
          (refine wpAnyH_take (i := 19) (v := ?_) rfl (by kernel_rfl) (by kernel_rfl) (by kernel_rfl) (fun _ _ _ h => h) (Or.inl ⟨by rfl, ?_⟩) (by assumption) ?_; rotate_left; (focus (intro w hSw; (try dsimp only at hSw); go_simp; (try with_reducible rfl))); (try simp only [List.getElem_toArray, List.getElem_cons_zero, List.getElem_cons_succ, Act.put, List.setIfInBounds_toArray, List.set_cons_zero, List.set_cons_succ])); (refine wpAnyH_take (i := 20) (v := ?_) rfl (by kernel_rfl) (by kernel_rfl) (by kernel_rfl) (fun _ _ _ h => h) (Or.inl ⟨by rfl, ?_⟩) (by assumption) ?_; rotate_left; (focus (intro w hSw; (try dsimp only at hSw); go_simp; (try with_reducible rfl))); (try simp only [List.getElem_toArray, List.getElem_cons_zero, List.getElem_cons_succ, Act.put, List.setIfInBounds_toArray, List.set_cons_zero, List.set_cons_succ]))
          refine wpAnyH_ready (rs := [18]) (by kernel_rfl) (by simp) ?_; refine AllReadyH.cons rfl (fun K hK => ?_) AllReadyH.nil; go_simp
          go_at_call 18
          refine (placeOf_any O _ (JGS S mm) k _ (HS9.out.go HDa.out) HGJ.out.rd hk).mono ?_
          rw [HPV.out]
          rintro e wb ⟨rfl, hbb⟩
          have HDb : Hid (Below w9.heap.size w9 wb) := bel HDa.out hbb
          have hSb := HSR.out wb HDb.out
          clear hbb hSa
          refine hK.out _ _ hSb (fun hHeld => ?_); clear hK K; (try simp only [List.getElem_toArray, List.getElem_cons_zero, List.getElem_cons_succ, Act.put, List.setIfInBounds_toArray, List.set_cons_zero, List.set_cons_succ])
          (refine wpAnyH_take (i := 21) (v := ?_) rfl (by kernel_rfl) (by kernel_rfl) (by kernel_rfl) (fun _ _ _ h => h) (Or.inl ⟨by rfl, ?_⟩) (by assumption) ?_; rotate_left; (focus (intro w hSw; (try dsimp only at hSw); go_simp; (try with_reducible rfl))); (try simp only [List.getElem_toArray, List.getElem_cons_zero, List.getElem_cons_succ, Act.put, List.setIfInBounds_toArray, List.set_cons_zero, List.set_cons_succ])); (refine wpAnyH_take (i := 22) (v := ?_) rfl (by kernel_rfl) (by kernel_rfl) (by kernel_rfl) (fun _ _ _ h => h) (Or.inl ⟨by rfl, ?_⟩) (by assumption) ?_; rotate_left; (focus (intro w hSw; (try dsimp only at hSw); go_simp; (try with_reducible rfl))); (try simp only [List.getElem_toArray, List.getElem_cons_zero, List.getElem_cons_succ, Act.put, List.setIfInBounds_toArray, List.set_cons_zero, List.set_cons_succ])); (refine wpAnyH_take (i := 23) (v := ?_) rfl (by kernel_rfl) (by kernel_rfl) (by kernel_rfl) (fun _ _ _ h => h) (Or.inl ⟨by rfl, ?_⟩) (by assumption) ?_; rotate_left; (focus (intro w hSw; (try dsimp only at hSw); go_simp; (try with_reducible rfl))); (try simp only [List.getElem_toArray, List.getElem_cons_zero, List.getElem_cons_succ, Act.put, List.setIfInBounds_toArray, List.set_cons_zero, List.set_cons_succ]))
          refine wpAnyH_ready (rs := [24]) (by kernel_rfl) (by simp) ?_; refine AllReadyH.cons rfl (fun K hK => ?_) AllReadyH.nil; go_simp
          go_at_call 13
          refine (works_any _).mono ?_
          rintro e wz ⟨rfl, hbz⟩
          have HBz : Hid (Below w9.heap.size w9 wz) := bel HDb.out hbz
          have hSz := HSR.out wz HBz.out
          clear hbz
          refine hK.out _ _ hSz (fun hHeld => ?_); clear hK K; (try simp only [List.getElem_toArray, List.getElem_cons_zero, List.getElem_cons_succ, Act.put, List.setIfInBounds_toArray, List.set_cons_zero, List.set_cons_succ])
          (refine wpAnyH_take (i := 25) (v := ?_) rfl (by kernel_rfl) (by kernel_rfl) (by kernel_rfl) (fun _ _ _ h => h) (Or.inl ⟨by rfl, ?_⟩) (by assumption) ?_; rotate_left; (focus (intro w hSw; (try dsimp only at hSw); go_simp; (try with_reducible rfl))); (try simp only [List.getElem_toArray, List.getElem_cons_zero, List.getElem_cons_succ, Act.put, List.setIfInBounds_toArray, List.set_cons_zero, List.set_cons_succ])); (refine wpAnyH_take (i := 26) (v := ?_) rfl (by kernel_rfl) (by kernel_rfl) (by kernel_rfl) (fun _ _ _ h => h) (Or.inl ⟨by rfl, ?_⟩) (by assumption) ?_; rotate_left; (focus (intro w hSw; (try dsimp only at hSw); go_simp; (try with_reducible rfl))); (try simp only [List.getElem_toArray, List.getElem_cons_zero, List.getElem_cons_succ, Act.put, List.setIfInBounds_toArray, List.set_cons_zero, List.set_cons_succ]))
          refine wpAnyH_done (by kernel_rfl) ?_ _; clear hHeld
          clear hSz
          go_wp2_with fail
          go_ret
          exact ⟨rfl, fin HB.out (bel HB9.out HBz.out)⟩
      · exact absurd h2 hn4
      · have hnl : ¬ n = lo := fun h => absurd (hn5.2 h) (by decide)
        have hnlb : (n == lo) = false := by simp; exact hnl
        clear hn1 hn2 hn4 hn5 hz
        go_enter Try.func7, Try.ntmps7
        go_upto_region 3 with (first
          | (go_at_call 12; refine (ready_any N _ S _ HBK.out).mono ?_; rw [HRE.out]; rintro e w1 ⟨rfl, hb1⟩; have HB1 : Hid (Below ws.heap.size ws w1) := hb1; clear hb1 q0 q1 q2 q3; obtain ⟨r0, r1, r2, r3⟩ := HSQ.out w1 HB1.out)
          | (go_at_call 36; refine (isPlate_any N _ S _ _ (HBK.out.go HB1.out)).mono ?_; rw [HIN.out]; rintro e w2 ⟨rfl, hb2⟩; have HB2 : Hid (Below ws.heap.size ws w2) := bel HB1.out hb2; clear hb2 r0 r1 r2 r3; obtain ⟨r0, r1, r2, r3⟩ := HSQ.out w2 HB2.out))
        clear hws
        go_upto_region 4 with (go_at_call 31; refine (kNeeds_any N _ S _ 0 _ (HBK.out.go HB2.out) HNE.out).mono ?_; rw [HNV.out]; rintro e w3 ⟨rfl, hb3⟩; have HB3 : Hid (Below ws.heap.size ws w3) := bel HB2.out hb3; clear hb3 r0 r1 r2 r3; obtain ⟨r0, r1, r2, r3⟩ := HSQ.out w3 HB3.out)
        go_upto_region 5 with (go_at_call 15; refine (kTotal_any N _ S _ 0 _ (HBK.out.go HB3.out) HET.out).mono ?_; rw [HTL.out.1, HTL.out.2.1]; rintro e w4 ⟨rfl, hb4⟩; have HB4 : Hid (Below ws.heap.size ws w4) := bel HB3.out hb4; clear hb4; (obtain ⟨wo, hwo, HBo, hszo, hblko⟩ := box1 w4 (.cells #[.int .i64 0, .int .i64 0] 30); have HZo := Lib.hid hblko; have z0 := cell_blk hblko 0 rfl; have z1 := cell_blk hblko 1 rfl; have f0 := free_blk hblko 0; have f1 := free_blk hblko 1; clear hblko))
        obtain ⟨w5, hw5, hz5, ho5, hb5⟩ := put2o HZo.out (.int .i64 lo) (.int .i64 hi)
        rw [hw5]
        have hb45 : Below w4.heap.size w4 w5 := HBo.out.trans hb5
        have HB5 : Hid (Below ws.heap.size ws w5) := bel HB4.out hb45
        obtain ⟨P, hP⟩ : ∃ P, w4.heap.size = P := ⟨_, rfl⟩
        rw [hP] at hz5 ⊢
        have HZ5 := Lib.hid hz5
        clear hwo hszo z0 z1 f0 f1 hw5 hz5 ho5 hb5 HZo HBo hb45 hP r0 r1 r2 r3
        obtain ⟨r0, r1, r2, r3⟩ := HSQ.out w5 HB5.out
        go_upto_region 6 with (go_at_call 17; refine (kPrize_any N _ S _ 0 _ (HBK.out.go HB5.out) HET.out).mono ?_; rw [HTL.out.2.2]; rintro e w6 ⟨rfl, hb6⟩; have HB6 : Hid (Below ws.heap.size ws w6) := bel HB5.out hb6; have HZ6 := Lib.hid ((hb6.block _ (heap_lt HZ5.out)).trans HZ5.out); clear hb6 r0 r1 r2 r3)
        have x0 := cell_blk HZ6.out 0 rfl
        have x1 := cell_blk HZ6.out 1 rfl
        go_upto_region 8 with (go_at_call 19; refine (holds_any _ _ _ _).mono ?_; rw [HHO.out]; rintro e w7 ⟨rfl, hb7⟩; have HB7 : Hid (Below ws.heap.size ws w7) := bel HB6.out hb7; clear hb7 x0 x1)
        have HB0' := HB7
        obtain ⟨r0, r1, r2, r3⟩ := HSQ.out w7 HB7.out
        go_upto_region 9 with (go_at_call 14; refine (judged_any N _ _ S F _ (HBK.out.go HB7.out) (HFL.out.go HNS.out HB7.out) HG.out).mono ?_; rintro e w8 ⟨v8, mm, rfl, ho8, hj8, hb8⟩; have HB8 : Hid (Below ws.heap.size ws w8) := bel HB7.out hb8; have hgj := jgs_good HG.out hj8; have hs8 := ho8.show (by show S.np ≤ 1000; omega) (fun i hi => by have h1 := hgj.len i hi; have h2 := hgj.J5; omega); obtain ⟨a8, c8, e8⟩ : ∃ a c, v8 = .agg #[.int .i64 S.J, .int .i64 S.D, .int .i64 S.Z, .slice a S.np c] := hs8.form; subst e8; have HS8 := Lib.hid hs8; have HJ8 := Lib.hid hj8; have HGJ := Lib.hid hgj; clear hb8 ho8 hj8 hs8 hgj; obtain ⟨wo, hwo, HBo, hszo, hblko⟩ := box1 w8 (.cells #[.int .i64 0, .int .i64 0, .int .i64 0, .slice none 0 0] 24); have HZo := Lib.hid hblko; have z0 := cell_blk hblko 0 rfl; have z1 := cell_blk hblko 1 rfl; have z2 := cell_blk hblko 2 rfl; have z3 := cell_blk hblko 3 rfl; have f0 := free_blk hblko 0; have f1 := free_blk hblko 1; have f2 := free_blk hblko 2; have f3 := free_blk hblko 3; clear hblko)
        obtain ⟨w9, hw9, hz9, ho9, hb9⟩ := put4o HZo.out (.int .i64 S.J) (.int .i64 S.D) (.int .i64 S.Z) (.slice a8 S.np c8)
        rw [hw9]
        have hb89 : Below w8.heap.size w8 w9 := HBo.out.trans hb9
        have HB9 : Hid (Below ws.heap.size ws w9) := bel HB8.out hb89
        have hs9 := HS8.out.go hb89
        have hs89 := hb89.size
        obtain ⟨O, hO⟩ : ∃ O, w8.heap.size = O := ⟨_, rfl⟩
        rw [hO] at hz9 hs9 hs89 ⊢
        have HZ9 := Lib.hid hz9
        have hol := heap_lt hz9
        have HS9 := Lib.hid hs9
        clear hwo hszo z0 z1 z2 z3 f0 f1 f2 f3 hw9 hz9 ho9 hb9 HZo HBo hb89 hO HS8 hs9 r0 r1 r2 r3
        obtain ⟨A, C, _, _, hrows, hcells⟩ := HS9.out.plates.open
        obtain ⟨b, off, hab, hbO, hrr⟩ := hcells (by show 0 < S.np; omega)
        obtain rfl : a8 = some ⟨b, off, none⟩ := hab
        obtain ⟨L, hL⟩ : ∃ L, (mm k).length = L := ⟨_, rfl⟩
        have dk : w9.cell? ⟨b, off + k * 2 + 1, none⟩ = some (.slice (A k) (mm k).length (C k)) := (hrr k hk).2
        have hli : LI O w9 (.slice (A k) (mm k).length (C k)) (mm k) := (hrows k hk).2
        rw [hL] at dk hli
        have HLL := Lib.hid hL
        have HLI := Lib.hid hli
        have HSR : Hid (∀ W, Below w9.heap.size w9 W → (((W.cell? ⟨w.heap.size, 0, none⟩ = some (.int .i64 S.J) ∧ W.cell? ⟨w.heap.size, 1, none⟩ = some (.int .i64 S.D) ∧ W.cell? ⟨w.heap.size, 2, none⟩ = some (.int .i64 S.Z) ∧ W.cell? ⟨w.heap.size, 3, none⟩ = some (.slice a1 S.np c1))) ∧ (W.cell? ⟨O, 0, none⟩ = some (.int .i64 S.J) ∧ W.cell? ⟨O, 1, none⟩ = some (.int .i64 S.D) ∧ W.cell? ⟨O, 2, none⟩ = some (.int .i64 S.Z) ∧ W.cell? ⟨O, 3, none⟩ = some (.slice (some ⟨b, off, none⟩) S.np c8)) ∧ W.cell? ⟨b, off + k * 2 + 1, none⟩ = some (.slice (A k) L (C k)))) := fun W hW => by
          have hz := (hW.block O hol).trans HZ9.out
          exact ⟨HSQ.out W (bel HB9.out hW), ⟨cell_blk hz 0 rfl, cell_blk hz 1 rfl, cell_blk hz 2 rfl, cell_blk hz 3 rfl⟩, (hW.cell (p := ⟨b, off + k * 2 + 1, none⟩) (by show b < _; omega)).trans dk⟩
        have hS9 := HSR.out w9 (Below.refl _ _)
        have hkj : k < (JGS S mm).np := hk
        have hkji : (k : Int) < (((JGS S mm).np : Nat) : Int) := hki
        clear hrows hcells hrr dk hli hL
        refine wp_region_held_drew (S := fun W => (((W.cell? ⟨w.heap.size, 0, none⟩ = some (.int .i64 S.J) ∧ W.cell? ⟨w.heap.size, 1, none⟩ = some (.int .i64 S.D) ∧ W.cell? ⟨w.heap.size, 2, none⟩ = some (.int .i64 S.Z) ∧ W.cell? ⟨w.heap.size, 3, none⟩ = some (.slice a1 S.np c1))) ∧ (W.cell? ⟨O, 0, none⟩ = some (.int .i64 S.J) ∧ W.cell? ⟨O, 1, none⟩ = some (.int .i64 S.D) ∧ W.cell? ⟨O, 2, none⟩ = some (.int .i64 S.Z) ∧ W.cell? ⟨O, 3, none⟩ = some (.slice (some ⟨b, off, none⟩) S.np c8)) ∧ W.cell? ⟨b, off + k * 2 + 1, none⟩ = some (.slice (A k) L (C k)))) (by kernel_rfl) hS9 (fun hHeld => ?_)
        have HNJ : Hid (∀ t, tot S.D.toNat (mm k) = t → n ≤ t → ((plc (JGS S mm) k : Nat) : Int) ≤ S.Z) := fun t ht h => nds_judged HJ8.out hk HNS3.out (by rw [ht]; exact h)
        obtain ⟨tv, htv⟩ : ∃ tv, tot dn (mm k) = tv := ⟨_, rfl⟩
        have HTV := Lib.hid htv
        have HTD : Hid (tot S.D.toNat (mm k) = tv) := by unfold Hid; rw [HDN.out, Int.toNat_natCast]; exact htv
        obtain ⟨pv, hpv⟩ : ∃ pv, plc (JGS S mm) k = pv := ⟨_, rfl⟩
        have HPV := Lib.hid hpv
        have HNJ2 := Lib.hid (HNJ.out tv HTD.out)
        rw [hpv] at HNJ2
        have h2d : 2 * dn ≤ (mm k).length := by
          have h1 := HGJ.out.len k hk
          have h2 := HGJ.out.DJ
          have h3 := HDN.out
          have h4 : ((mm k).length : Int) = S.J := h1
          have h5 : 2 * S.D < S.J := h2
          omega
        have hl5 : (mm k).length ≤ 40 := by
          have h1 : ((mm k).length : Int) = S.J := HGJ.out.len k hk
          have h2 := HG.out.J5
          omega
        have HTO := Lib.hid (And.intro hl5 h2d)
        have HPT : Hid (∀ x, x ∈ mm k → -1 ≤ x ∧ x ≤ 1000) := fun x hx => by have := HGJ.out.pt k hk x hx; omega
        clear htv hpv h2d hl5
        (refine wpAnyH_take (i := 0) (v := ?_) rfl (by kernel_rfl) (by kernel_rfl) (by kernel_rfl) (fun _ _ _ h => h) (Or.inl ⟨by rfl, ?_⟩) (by assumption) ?_; rotate_left; (focus (intro w hSw; (try dsimp only at hSw); go_simp; (try with_reducible rfl))); (try simp only [List.getElem_toArray, List.getElem_cons_zero, List.getElem_cons_succ, Act.put, List.setIfInBounds_toArray, List.set_cons_zero, List.set_cons_succ])); (refine wpAnyH_take (i := 1) (v := ?_) rfl (by kernel_rfl) (by kernel_rfl) (by kernel_rfl) (fun _ _ _ h => h) (Or.inl ⟨by rfl, ?_⟩) (by assumption) ?_; rotate_left; (focus (intro w hSw; (try dsimp only at hSw); go_simp; (try with_reducible rfl))); (try simp only [List.getElem_toArray, List.getElem_cons_zero, List.getElem_cons_succ, Act.put, List.setIfInBounds_toArray, List.set_cons_zero, List.set_cons_succ])); (refine wpAnyH_take (i := 2) (v := ?_) rfl (by kernel_rfl) (by kernel_rfl) (by kernel_rfl) (fun _ _ _ h => h) (Or.inl ⟨by rfl, ?_⟩) (by assumption) ?_; rotate_left; (focus (intro w hSw; (try dsimp only at hSw); go_simp; (try with_reducible rfl))); (try simp only [List.getElem_toArray, List.getElem_cons_zero, List.getElem_cons_succ, Act.put, List.setIfInBounds_toArray, List.set_cons_zero, List.set_cons_succ])); (refine wpAnyH_take (i := 3) (v := ?_) rfl (by kernel_rfl) (by kernel_rfl) (by kernel_rfl) (fun _ _ _ h => h) (Or.inl ⟨by rfl, ?_⟩) (by assumption) ?_; rotate_left; (focus (intro w hSw; (try dsimp only at hSw); go_simp; (try with_reducible rfl))); (try simp only [List.getElem_toArray, List.getElem_cons_zero, List.getElem_cons_succ, Act.put, List.setIfInBounds_toArray, List.set_cons_zero, List.set_cons_succ])); (refine wpAnyH_take (i := 4) (v := ?_) rfl (by kernel_rfl) (by kernel_rfl) (by kernel_rfl) (fun _ _ _ h => h) (Or.inl ⟨by rfl, ?_⟩) (by assumption) ?_; rotate_left; (focus (intro w hSw; (try dsimp only at hSw); go_simp; (try with_reducible rfl))); (try simp only [List.getElem_toArray, List.getElem_cons_zero, List.getElem_cons_succ, Act.put, List.setIfInBounds_toArray, List.set_cons_zero, List.set_cons_succ])); (refine wpAnyH_take (i := 5) (v := ?_) rfl (by kernel_rfl) (by kernel_rfl) (by kernel_rfl) (fun _ _ _ h => h) (Or.inl ⟨by rfl, ?_⟩) (by assumption) ?_; rotate_left; (focus (intro w hSw; (try dsimp only at hSw); go_simp; (try with_reducible rfl))); (try simp only [List.getElem_toArray, List.getElem_cons_zero, List.getElem_cons_succ, Act.put, List.setIfInBounds_toArray, List.set_cons_zero, List.set_cons_succ])); (refine wpAnyH_take (i := 6) (v := ?_) rfl (by kernel_rfl) (by kernel_rfl) (by kernel_rfl) (fun _ _ _ h => h) (Or.inl ⟨by rfl, ?_⟩) (by assumption) ?_; rotate_left; (focus (intro w hSw; (try dsimp only at hSw); go_simp; (try with_reducible rfl))); (try simp only [List.getElem_toArray, List.getElem_cons_zero, List.getElem_cons_succ, Act.put, List.setIfInBounds_toArray, List.set_cons_zero, List.set_cons_succ])); (refine wpAnyH_take (i := 7) (v := ?_) rfl (by kernel_rfl) (by kernel_rfl) (by kernel_rfl) (fun _ _ _ h => h) (Or.inl ⟨by rfl, ?_⟩) (by assumption) ?_; rotate_left; (focus (intro w hSw; (try dsimp only at hSw); go_simp; (try with_reducible rfl))); (try simp only [List.getElem_toArray, List.getElem_cons_zero, List.getElem_cons_succ, Act.put, List.setIfInBounds_toArray, List.set_cons_zero, List.set_cons_succ])); (refine wpAnyH_take (i := 8) (v := ?_) rfl (by kernel_rfl) (by kernel_rfl) (by kernel_rfl) (fun _ _ _ h => h) (Or.inl ⟨by rfl, ?_⟩) (by assumption) ?_; rotate_left; (focus (intro w hSw; (try dsimp only at hSw); go_simp; (try with_reducible rfl))); (try simp only [List.getElem_toArray, List.getElem_cons_zero, List.getElem_cons_succ, Act.put, List.setIfInBounds_toArray, List.set_cons_zero, List.set_cons_succ])); (refine wpAnyH_take (i := 9) (v := ?_) rfl (by kernel_rfl) (by kernel_rfl) (by kernel_rfl) (fun _ _ _ h => h) (Or.inl ⟨by rfl, ?_⟩) (by assumption) ?_; rotate_left; (focus (intro w hSw; (try dsimp only at hSw); go_simp; (try with_reducible rfl))); (try simp only [List.getElem_toArray, List.getElem_cons_zero, List.getElem_cons_succ, Act.put, List.setIfInBounds_toArray, List.set_cons_zero, List.set_cons_succ])); (refine wpAnyH_take (i := 10) (v := ?_) rfl (by kernel_rfl) (by kernel_rfl) (by kernel_rfl) (fun _ _ _ h => h) (Or.inl ⟨by rfl, ?_⟩) (by assumption) ?_; rotate_left; (focus (intro w hSw; (try dsimp only at hSw); go_simp; (try with_reducible rfl))); (try simp only [List.getElem_toArray, List.getElem_cons_zero, List.getElem_cons_succ, Act.put, List.setIfInBounds_toArray, List.set_cons_zero, List.set_cons_succ]))
        (refine wpAnyH_take (i := 12) (v := ?_) rfl (by kernel_rfl) (by kernel_rfl) (by kernel_rfl) (fun _ _ _ h => h) (Or.inl ⟨by rfl, ?_⟩) (by assumption) ?_; rotate_left; (focus (intro w hSw; (try dsimp only at hSw); go_simp; (try with_reducible rfl))); (try simp only [List.getElem_toArray, List.getElem_cons_zero, List.getElem_cons_succ, Act.put, List.setIfInBounds_toArray, List.set_cons_zero, List.set_cons_succ]))
        refine wpAnyH_ready (rs := [11]) (by kernel_rfl) (by simp) ?_; refine AllReadyH.cons rfl (fun K hK => ?_) AllReadyH.nil; go_simp
        go_at_call 20
        rw [HDN.out]
        refine (totalOf_any O _ (mm k) dn _ (HLI.out.go hs89 (Below.refl _ _).drew) (by have := (Below.refl w9.heap.size w9).drew.size; omega) HTO.out.1 HPT.out HTO.out.2).mono ?_
        rw [HTV.out]
        rintro e wa ⟨rfl, hba⟩
        have HDa : Hid (Below w9.heap.size w9 wa) := (Below.refl _ _).drew.trans hba
        have hSa := HSR.out wa HDa.out
        clear hba hS9
        by_cases htn : tv < n
        · have htd : decide (tv < n) = true := decide_eq_true htn
          refine hK.out _ _ hSa (fun hHeld => ?_); clear hK K; (try simp only [List.getElem_toArray, List.getElem_cons_zero, List.getElem_cons_succ, Act.put, List.setIfInBounds_toArray, List.set_cons_zero, List.set_cons_succ])
          (refine wpAnyH_take (i := 13) (v := ?_) rfl (by kernel_rfl) (by kernel_rfl) (by kernel_rfl) (fun _ _ _ h => h) (Or.inl ⟨by rfl, ?_⟩) (by assumption) ?_; rotate_left; (focus (intro w hSw; (try dsimp only at hSw); go_simp; (try with_reducible rfl))); (try simp only [List.getElem_toArray, List.getElem_cons_zero, List.getElem_cons_succ, Act.put, List.setIfInBounds_toArray, List.set_cons_zero, List.set_cons_succ])); (refine wpAnyH_take (i := 14) (v := ?_) rfl (by kernel_rfl) (by kernel_rfl) (by kernel_rfl) (fun _ _ _ h => h) (Or.inl ⟨by rfl, ?_⟩) (by assumption) ?_; rotate_left; (focus (intro w hSw; (try dsimp only at hSw); go_simp; (try with_reducible rfl))); (try simp only [List.getElem_toArray, List.getElem_cons_zero, List.getElem_cons_succ, Act.put, List.setIfInBounds_toArray, List.set_cons_zero, List.set_cons_succ])); (refine wpAnyH_take (i := 15) (v := ?_) rfl (by kernel_rfl) (by kernel_rfl) (by kernel_rfl) (fun _ _ _ h => h) (Or.inl ⟨by rfl, ?_⟩) (by assumption) ?_; rotate_left; (focus (intro w hSw; (try dsimp only at hSw); go_simp; (try with_reducible rfl))); (try simp only [List.getElem_toArray, List.getElem_cons_zero, List.getElem_cons_succ, Act.put, List.setIfInBounds_toArray, List.set_cons_zero, List.set_cons_succ]))
          (refine wpAnyH_take (i := 16) (v := undef) rfl (by kernel_rfl) (by kernel_rfl) (by kernel_rfl) (fun _ _ _ h => h) (Or.inr ⟨by rfl, rfl⟩) (by assumption) ?_; (try simp only [List.getElem_toArray, List.getElem_cons_zero, List.getElem_cons_succ, Act.put, List.setIfInBounds_toArray, List.set_cons_zero, List.set_cons_succ])); (refine wpAnyH_take (i := 17) (v := undef) rfl (by kernel_rfl) (by kernel_rfl) (by kernel_rfl) (fun _ _ _ h => h) (Or.inr ⟨by rfl, rfl⟩) (by assumption) ?_; (try simp only [List.getElem_toArray, List.getElem_cons_zero, List.getElem_cons_succ, Act.put, List.setIfInBounds_toArray, List.set_cons_zero, List.set_cons_succ])); (refine wpAnyH_take (i := 18) (v := undef) rfl (by kernel_rfl) (by kernel_rfl) (by kernel_rfl) (fun _ _ _ h => h) (Or.inr ⟨by rfl, rfl⟩) (by assumption) ?_; (try simp only [List.getElem_toArray, List.getElem_cons_zero, List.getElem_cons_succ, Act.put, List.setIfInBounds_toArray, List.set_cons_zero, List.set_cons_succ])); (refine wpAnyH_take (i := 19) (v := undef) rfl (by kernel_rfl) (by kernel_rfl) (by kernel_rfl) (fun _ _ _ h => h) (Or.inr ⟨by rfl, rfl⟩) (by assumption) ?_; (try simp only [List.getElem_toArray, List.getElem_cons_zero, List.getElem_cons_succ, Act.put, List.setIfInBounds_toArray, List.set_cons_zero, List.set_cons_succ])); (refine wpAnyH_take (i := 20) (v := undef) rfl (by kernel_rfl) (by kernel_rfl) (by kernel_rfl) (fun _ _ _ h => h) (Or.inr ⟨by rfl, rfl⟩) (by assumption) ?_; (try simp only [List.getElem_toArray, List.getElem_cons_zero, List.getElem_cons_succ, Act.put, List.setIfInBounds_toArray, List.set_cons_zero, List.set_cons_succ])); (refine wpAnyH_take (i := 21) (v := undef) rfl (by kernel_rfl) (by kernel_rfl) (by kernel_rfl) (fun _ _ _ h => h) (Or.inr ⟨by rfl, rfl⟩) (by assumption) ?_; (try simp only [List.getElem_toArray, List.getElem_cons_zero, List.getElem_cons_succ, Act.put, List.setIfInBounds_toArray, List.set_cons_zero, List.set_cons_succ]))
          (refine wpAnyH_take (i := 22) (v := ?_) rfl (by kernel_rfl) (by kernel_rfl) (by kernel_rfl) (fun _ _ _ h => h) (Or.inl ⟨by rfl, ?_⟩) (by assumption) ?_; rotate_left; (focus (intro w hSw; (try dsimp only at hSw); go_simp; (try with_reducible rfl))); (try simp only [List.getElem_toArray, List.getElem_cons_zero, List.getElem_cons_succ, Act.put, List.setIfInBounds_toArray, List.set_cons_zero, List.set_cons_succ])); (refine wpAnyH_take (i := 23) (v := ?_) rfl (by kernel_rfl) (by kernel_rfl) (by kernel_rfl) (fun _ _ _ h => h) (Or.inl ⟨by rfl, ?_⟩) (by assumption) ?_; rotate_left; (focus (intro w hSw; (try dsimp only at hSw); go_simp; (try with_reducible rfl))); (try simp only [List.getElem_toArray, List.getElem_cons_zero, List.getElem_cons_succ, Act.put, List.setIfInBounds_toArray, List.set_cons_zero, List.set_cons_succ]))
          refine wpAnyH_ready (rs := [24]) (by kernel_rfl) (by simp) ?_; refine AllReadyH.cons rfl (fun K hK => ?_) AllReadyH.nil; go_simp
          go_at_call 13
          refine (works_any _).mono ?_
          rintro e wz ⟨rfl, hbz⟩
          have HBz : Hid (Below w9.heap.size w9 wz) := bel HDa.out hbz
          have hSz := HSR.out wz HBz.out
          clear hbz
          refine hK.out _ _ hSz (fun hHeld => ?_); clear hK K; (try simp only [List.getElem_toArray, List.getElem_cons_zero, List.getElem_cons_succ, Act.put, List.setIfInBounds_toArray, List.set_cons_zero, List.set_cons_succ])
          (refine wpAnyH_take (i := 25) (v := ?_) rfl (by kernel_rfl) (by kernel_rfl) (by kernel_rfl) (fun _ _ _ h => h) (Or.inl ⟨by rfl, ?_⟩) (by assumption) ?_; rotate_left; (focus (intro w hSw; (try dsimp only at hSw); go_simp; (try with_reducible rfl))); (try simp only [List.getElem_toArray, List.getElem_cons_zero, List.getElem_cons_succ, Act.put, List.setIfInBounds_toArray, List.set_cons_zero, List.set_cons_succ])); (refine wpAnyH_take (i := 26) (v := ?_) rfl (by kernel_rfl) (by kernel_rfl) (by kernel_rfl) (fun _ _ _ h => h) (Or.inl ⟨by rfl, ?_⟩) (by assumption) ?_; rotate_left; (focus (intro w hSw; (try dsimp only at hSw); go_simp; (try with_reducible rfl))); (try simp only [List.getElem_toArray, List.getElem_cons_zero, List.getElem_cons_succ, Act.put, List.setIfInBounds_toArray, List.set_cons_zero, List.set_cons_succ]))
          refine wpAnyH_done (by kernel_rfl) ?_ _; clear hHeld
          clear hSz
          go_wp2_with fail
          go_ret
          exact ⟨rfl, fin HB.out (bel HB9.out HBz.out)⟩
        · have htd : decide (tv < n) = false := decide_eq_false htn
          have hpz : (pv : Int) ≤ S.Z := HNJ2.out (by omega)
          have hpd : decide ((pv : Int) ≤ S.Z) = true := decide_eq_true hpz
          refine hK.out _ _ hSa (fun hHeld => ?_); clear hK K; (try simp only [List.getElem_toArray, List.getElem_cons_zero, List.getElem_cons_succ, Act.put, List.setIfInBounds_toArray, List.set_cons_zero, List.set_cons_succ])
          (refine wpAnyH_take (i := 13) (v := ?_) rfl (by kernel_rfl) (by kernel_rfl) (by kernel_rfl) (fun _ _ _ h => h) (Or.inl ⟨by rfl, ?_⟩) (by assumption) ?_; rotate_left; (focus (intro w hSw; (try dsimp only at hSw); go_simp; (try with_reducible rfl))); (try simp only [List.getElem_toArray, List.getElem_cons_zero, List.getElem_cons_succ, Act.put, List.setIfInBounds_toArray, List.set_cons_zero, List.set_cons_succ])); (refine wpAnyH_take (i := 14) (v := ?_) rfl (by kernel_rfl) (by kernel_rfl) (by kernel_rfl) (fun _ _ _ h => h) (Or.inl ⟨by rfl, ?_⟩) (by assumption) ?_; rotate_left; (focus (intro w hSw; (try dsimp only at hSw); go_simp; (try with_reducible rfl))); (try simp only [List.getElem_toArray, List.getElem_cons_zero, List.getElem_cons_succ, Act.put, List.setIfInBounds_toArray, List.set_cons_zero, List.set_cons_succ])); (refine wpAnyH_take (i := 15) (v := ?_) rfl (by kernel_rfl) (by kernel_rfl) (by kernel_rfl) (fun _ _ _ h => h) (Or.inl ⟨by rfl, ?_⟩) (by assumption) ?_; rotate_left; (focus (intro w hSw; (try dsimp only at hSw); go_simp; (try with_reducible rfl))); (try simp only [List.getElem_toArray, List.getElem_cons_zero, List.getElem_cons_succ, Act.put, List.setIfInBounds_toArray, List.set_cons_zero, List.set_cons_succ])); (refine wpAnyH_take (i := 16) (v := ?_) rfl (by kernel_rfl) (by kernel_rfl) (by kernel_rfl) (fun _ _ _ h => h) (Or.inl ⟨by rfl, ?_⟩) (by assumption) ?_; rotate_left; (focus (intro w hSw; (try dsimp only at hSw); go_simp; (try with_reducible rfl))); (try simp only [List.getElem_toArray, List.getElem_cons_zero, List.getElem_cons_succ, Act.put, List.setIfInBounds_toArray, List.set_cons_zero, List.set_cons_succ])); (refine wpAnyH_take (i := 17) (v := ?_) rfl (by kernel_rfl) (by kernel_rfl) (by kernel_rfl) (fun _ _ _ h => h) (Or.inl ⟨by rfl, ?_⟩) (by assumption) ?_; rotate_left; (focus (intro w hSw; (try dsimp only at hSw); go_simp; (try with_reducible rfl))); (try simp only [List.getElem_toArray, List.getElem_cons_zero, List.getElem_cons_succ, Act.put, List.setIfInBounds_toArray, List.set_cons_zero, List.set_cons_succ]))
          (refine wpAnyH_take (i := 19) (v := ?_) rfl (by kernel_rfl) (by kernel_rfl) (by kernel_rfl) (fun _ _ _ h => h) (Or.inl ⟨by rfl, ?_⟩) (by assumption) ?_; rotate_left; (focus (intro w hSw; (try dsimp only at hSw); go_simp; (try with_reducible rfl))); (try simp only [List.getElem_toArray, List.getElem_cons_zero, List.getElem_cons_succ, Act.put, List.setIfInBounds_toArray, List.set_cons_zero, List.set_cons_succ])); (refine wpAnyH_take (i := 20) (v := ?_) rfl (by kernel_rfl) (by kernel_rfl) (by kernel_rfl) (fun _ _ _ h => h) (Or.inl ⟨by rfl, ?_⟩) (by assumption) ?_; rotate_left; (focus (intro w hSw; (try dsimp only at hSw); go_simp; (try with_reducible rfl))); (try simp only [List.getElem_toArray, List.getElem_cons_zero, List.getElem_cons_succ, Act.put, List.setIfInBounds_toArray, List.set_cons_zero, List.set_cons_succ]))
          refine wpAnyH_ready (rs := [18]) (by kernel_rfl) (by simp) ?_; refine AllReadyH.cons rfl (fun K hK => ?_) AllReadyH.nil; go_simp
          go_at_call 18
          refine (placeOf_any O _ (JGS S mm) k _ (HS9.out.go HDa.out) HGJ.out.rd hk).mono ?_
          rw [HPV.out]
          rintro e wb ⟨rfl, hbb⟩
          have HDb : Hid (Below w9.heap.size w9 wb) := bel HDa.out hbb
          have hSb := HSR.out wb HDb.out
          clear hbb hSa
          refine hK.out _ _ hSb (fun hHeld => ?_); clear hK K; (try simp only [List.getElem_toArray, List.getElem_cons_zero, List.getElem_cons_succ, Act.put, List.setIfInBounds_toArray, List.set_cons_zero, List.set_cons_succ])
          (refine wpAnyH_take (i := 21) (v := ?_) rfl (by kernel_rfl) (by kernel_rfl) (by kernel_rfl) (fun _ _ _ h => h) (Or.inl ⟨by rfl, ?_⟩) (by assumption) ?_; rotate_left; (focus (intro w hSw; (try dsimp only at hSw); go_simp; (try with_reducible rfl))); (try simp only [List.getElem_toArray, List.getElem_cons_zero, List.getElem_cons_succ, Act.put, List.setIfInBounds_toArray, List.set_cons_zero, List.set_cons_succ])); (refine wpAnyH_take (i := 22) (v := ?_) rfl (by kernel_rfl) (by kernel_rfl) (by kernel_rfl) (fun _ _ _ h => h) (Or.inl ⟨by rfl, ?_⟩) (by assumption) ?_; rotate_left; (focus (intro w hSw; (try dsimp only at hSw); go_simp; (try with_reducible rfl))); (try simp only [List.getElem_toArray, List.getElem_cons_zero, List.getElem_cons_succ, Act.put, List.setIfInBounds_toArray, List.set_cons_zero, List.set_cons_succ])); (refine wpAnyH_take (i := 23) (v := ?_) rfl (by kernel_rfl) (by kernel_rfl) (by kernel_rfl) (fun _ _ _ h => h) (Or.inl ⟨by rfl, ?_⟩) (by assumption) ?_; rotate_left; (focus (intro w hSw; (try dsimp only at hSw); go_simp; (try with_reducible rfl))); (try simp only [List.getElem_toArray, List.getElem_cons_zero, List.getElem_cons_succ, Act.put, List.setIfInBounds_toArray, List.set_cons_zero, List.set_cons_succ]))
          refine wpAnyH_ready (rs := [24]) (by kernel_rfl) (by simp) ?_; refine AllReadyH.cons rfl (fun K hK => ?_) AllReadyH.nil; go_simp
          go_at_call 13
          refine (works_any _).mono ?_
          rintro e wz ⟨rfl, hbz⟩
          have HBz : Hid (Below w9.heap.size w9 wz) := bel HDb.out hbz
          have hSz := HSR.out wz HBz.out
          clear hbz
          refine hK.out _ _ hSz (fun hHeld => ?_); clear hK K; (try simp only [List.getElem_toArray, List.getElem_cons_zero, List.getElem_cons_succ, Act.put, List.setIfInBounds_toArray, List.set_cons_zero, List.set_cons_succ])
          (refine wpAnyH_take (i := 25) (v := ?_) rfl (by kernel_rfl) (by kernel_rfl) (by kernel_rfl) (fun _ _ _ h => h) (Or.inl ⟨by rfl, ?_⟩) (by assumption) ?_; rotate_left; (focus (intro w hSw; (try dsimp only at hSw); go_simp; (try with_reducible rfl))); (try simp only [List.getElem_toArray, List.getElem_cons_zero, List.getElem_cons_succ, Act.put, List.setIfInBounds_toArray, List.set_cons_zero, List.set_cons_succ])); (refine wpAnyH_take (i := 26) (v := ?_) rfl (by kernel_rfl) (by kernel_rfl) (by kernel_rfl) (fun _ _ _ h => h) (Or.inl ⟨by rfl, ?_⟩) (by assumption) ?_; rotate_left; (focus (intro w hSw; (try dsimp only at hSw); go_simp; (try with_reducible rfl))); (try simp only [List.getElem_toArray, List.getElem_cons_zero, List.getElem_cons_succ, Act.put, List.setIfInBounds_toArray, List.set_cons_zero, List.set_cons_succ]))
          refine wpAnyH_done (by kernel_rfl) ?_ _; clear hHeld
          clear hSz
          go_wp2_with fail
          go_ret
          exact ⟨rfl, fin HB.out (bel HB9.out HBz.out)⟩

end Go.Proofs.Ytffnlimgjnhmpaa
