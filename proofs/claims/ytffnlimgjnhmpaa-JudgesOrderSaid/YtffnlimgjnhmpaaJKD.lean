/-
  JKD: total and totals of package judges.
-/
import Derived.Test.YtffnlimgjnhmpaaJKE
import Derived.Test.YtffnlimgjnhmpaaJRefT
namespace Go.Proofs.Ytffnlimgjnhmpaa
open Go.RowKit

/-- a jury whose totals can be reckoned -/
structure RdJ (S : JB) : Prop where
  rd : RdS S
  l5 : ∀ i, i < S.np → (S.pts i).length ≤ 5
theorem GoodS.rj {S : JB} (h : GoodS S) : RdJ S := ⟨h.rd, fun i hi => by have := h.len i hi; have := h.J5; omega⟩
theorem RI.wr {lo : Nat} {W W' : World} {v : Value} {l : List Int} (h : RI lo W v l) (hb : Below W.heap.size W W') : RI lo W' v l := h.keep fun g _ _ hg => hb.block g hg

set_option maxHeartbeats 6400000 in
set_option maxRecDepth 100000 in
theorem ktotal_any (N : Nat) (v : Value) (S : JB) (k : Nat) (open' : Int) (w : World) (h : ShowAt N w v S) (hR : RdJ S) (hk : k < S.np) (ho : 0 ≤ open' ∧ open' ≤ 20) :
    Calls Try.prog 80 #[v, .int .i64 k, .int .i64 open'] w fun e w' => e = .returned (.int .i64 (totP S k open')) ∧ Below w.heap.size w w' := by
  obtain ⟨a1, c1, rfl⟩ := h.form
  obtain ⟨ws, hws, HB, hsz, hblk⟩ := box1 w (.cells #[.int .i64 S.J, .int .i64 S.D, .int .i64 S.Z, .slice a1 S.np c1] 74)
  have q0 := cell_blk hblk 0 rfl
  have q1 := cell_blk hblk 1 rfl
  have q2 := cell_blk hblk 2 rfl
  have q3 := cell_blk hblk 3 rfl
  have HNZ : Hid (N ≤ w.heap.size) := h.1
  have HBK := Lib.hid (h.go HB.out)
  have HB0 : Hid (Below ws.heap.size ws ws) := Below.refl _ _
  have HNS : Hid (N ≤ ws.heap.size) := HBK.out.1
  have hlen := h.len
  clear hblk h
  obtain ⟨A, C, hcap, _, hrows, hcells⟩ := HBK.out.plates.open
  obtain ⟨b, off, rfl, hbN, hrr⟩ := hcells (by omega)
  have d1 := (hrr k hk).2
  have HLI := Lib.hid (hrows k hk).2
  obtain ⟨l, hl⟩ : ∃ l, S.pts k = l := ⟨_, rfl⟩
  have HPL := Lib.hid hl
  obtain ⟨d, hd⟩ : ∃ d : Nat, S.D = d := ⟨S.D.toNat, by have := hR.rd.D0; omega⟩
  have hlen2 := hR.rd.len k hk
  have hlen5 := hR.l5 k hk
  have hpt := hR.rd.pt k hk
  rw [hl] at d1 HLI hlen2 hlen5 hpt
  obtain ⟨n, hn⟩ : ∃ n, l.length = n := ⟨_, rfl⟩
  rw [hn] at d1 HLI hlen2 hlen5
  rw [hd] at q1 hlen2
  have HLN := Lib.hid hn
  have hd2 : d + d ≤ n := by omega
  have HFP : Hid (∀ x, x ∈ fil open' l → 0 ≤ x ∧ x ≤ 20) := fil_pt hpt ho
  have HT : Hid (totP S k open' = tot d (fil open' l)) := by unfold Hid totP; rw [hl, hd]; rfl
  have hki : (k : Int) < (S.np : Int) := by omega
  clear hrr hrows hcells hR hl hd hpt hlen2 hn
  go_enter Try.func80, Try.ntmps80
  go_upto_region 2 with (go_at_call 95; refine (kcloneI_any N _ l _ (HLI.out.go HNS.out HB0.out) HNS.out (by have := HLN.out; omega)).mono ?_; rintro e w1 ⟨v1, rfl, hr1, hb1⟩; obtain ⟨a2, c2, rfl⟩ := hr1.form; rw [HLN.out] at hr1 ⊢; have HR1 := Lib.hid hr1; have HB1 : Hid (Below ws.heap.size ws w1) := hb1; clear hr1 hb1)
  clear hws
  go_wp2_with fail
  go_loopw [23] (fun i wr => ∃ m : Nat, m ≤ n ∧ i = .int .i64 m ∧ Hid (RI ws.heap.size wr (.slice a2 n c2) (filU open' m l) ∧ Below ws.heap.size ws wr)) (fun i _ => n - (intOf i).toNat)
  case atStart => exact ⟨0, Nat.zero_le _, rfl, by rw [filU_zero]; exact HR1.out, HB1.out⟩
  case round =>
    obtain ⟨m, hm, rfl, hI⟩ := hrel
    by_cases hmn : m < n
    · obtain ⟨g, rfl, hq⟩ := hI.1.addr (by rw [filU_len, HLN.out]; omega)
      clear hq
      obtain ⟨hgw, hlg, hcl, hfr, cur, hcur⟩ := hI.1.at (by rw [filU_len, HLN.out]; omega)
      obtain ⟨x, hx⟩ : ∃ x, l.getD m 0 = x := ⟨_, rfl⟩
      have cm := hcl m (by rw [filU_len, HLN.out]; exact hmn)
      rw [filU_at, hx] at cm
      have fm := hfr m
      have HX := Lib.hid hx
      have HI := Lib.hid hI
      have hmi : (m : Int) < (n : Int) := by omega
      clear hI hcl hfr hcur hx
      by_cases hx1 : x = -1
      · have hxb : (x == -1) = true := by simp [hx1]
        have HX1 := Lib.hid hx1
        clear hx1
        go_wp2_with fail
        obtain ⟨w5, hw5⟩ : ∃ w5, wr.setCell ⟨g, m, none⟩ (.int .i64 open') = w5 := ⟨_, rfl⟩
        rw [hw5]
        have HR5 : Hid (RI ws.heap.size w5 (.slice (some ⟨g, 0, none⟩) n c2) (filU open' (m + 1) l)) := by
          rw [← hw5, ← filU_set (by rw [HLN.out]; exact hmn) (by rw [HX.out]; exact HX1.out)]
          exact HI.out.1.set (by rw [filU_len, HLN.out]; exact hmn) open'
        have HB5 : Hid (Below ws.heap.size ws w5) := by rw [← hw5]; exact HI.out.2.setCell (p := ⟨g, m, none⟩) hlg _
        clear hw5
        go_roundw
        case rel => exact ⟨m + 1, by omega, by go_num, HR5.out, HB5.out⟩
        case measure => simp [intOf]; omega
      · have hxb : (x == -1) = false := by simp [hx1]
        have HX1 := Lib.hid hx1
        clear hx1
        go_wp2_with fail
        go_roundw
        case rel => exact ⟨m + 1, by omega, by go_num, by rw [filU_skip (by rw [HLN.out]; exact hmn) (by rw [HX.out]; exact HX1.out)]; exact HI.out.1, HI.out.2⟩
        case measure => simp [intOf]; omega
    · have hmi : ¬ (m : Int) < (n : Int) := by omega
      have HRF : Hid (RI ws.heap.size wr (.slice a2 n c2) (fil open' l)) := by
        have := hI.1
        rw [show m = l.length by rw [HLN.out]; omega, filU_all] at this
        exact this
      have HBF := Lib.hid hI.2
      clear hI
      clear hmi
      obtain ⟨s5, hs5⟩ : ∃ s5, srt (fil open' l) = s5 := ⟨_, rfl⟩
      have HS5 := Lib.hid hs5
      have hlf : (fil open' l).length = n := by rw [fil_len]; exact HLN.out
      have HSL : Hid (s5.length = n) := by unfold Hid; rw [← hs5, srt_len, hlf]
      have HT2 : Hid (psum d (n - d) s5 = tot d (fil open' l)) := by
        unfold Hid
        rw [← hs5, ← hlf]
        exact psum_tot (by omega)
      have HPB : Hid (∀ i, d ≤ i → i ≤ n → -40 ≤ psum d i s5 ∧ psum d i s5 ≤ 40000) := fun i h1 h2 => by
        have := psum_le (d := d) (L := s5) (fun x hx => by rw [← hs5] at hx; have := HFP.out x ((srt_perm _).mem_iff.1 hx); omega) i h1 (by rw [HSL.out]; exact h2)
        omega
      have HP0 : Hid (psum d d s5 = 0) := psum_zero _ _
      have hszr := Nat.lt_of_lt_of_le hsz HBF.out.size
      have HLF := Lib.hid hlf
      clear hs5 hlf
      go_upto_region 9 with (go_at_call 96; refine (sort_any ws.heap.size _ (fil open' l) _ HRF.out (by have := HLF.out; omega) HBF.out.size).mono ?_; rintro e w2 ⟨⟨r, rfl⟩, hr2, hb2⟩; rw [HS5.out] at hr2; have HR2 := Lib.hid hr2; have HB2 : Hid (Below ws.heap.size ws w2) := HBF.out.trans hb2; clear hr2 hb2)
      have r1 := (HB2.out.cell (p := ⟨w.heap.size, 1, none⟩) hsz).trans q1
      have hd1 : (0 : Int) ≤ (d : Int) := by omega
      have hwn : IntKind.i64.wrap ((n : Int) - (d : Int)) = ((n - d : Nat) : Int) := by rw [show (n : Int) - (d : Int) = ((n - d : Nat) : Int) by omega]; exact IntWalk.i64_in _ (by omega)
      rcases Nat.eq_zero_or_pos n with hn0 | hn0
      · have hd0 : d = 0 := by omega
        have HR0 : Hid (totP S k open' = 0) := by
          have h1 := HT2.out
          rw [hn0, hd0] at h1
          unfold Hid
          rw [HT.out, hd0, ← h1]
          exact psum_zero 0 _
        subst hn0
        subst hd0
        clear hwn
        have hwn : IntKind.i64.wrap (((0 : Nat) : Int) - ((0 : Nat) : Int)) = 0 := by decide
        go_wp2_with fail
        go_loopw [10, 49] (fun t i wr => t = .int .i64 0 ∧ i = .int .i64 0 ∧ Hid (wr = w2)) (fun _ i _ => 0)
        case atStart => exact ⟨rfl, rfl, rfl⟩
        case round =>
          obtain ⟨rfl, rfl, hw⟩ := hrel
          obtain rfl := hw.out
          go_wp2_with fail
          go_ret
          exact ⟨ret_int HR0.out.symm, fin HB.out HB2.out⟩
      · have hsl := HSL.out
        obtain ⟨g, rfl, hq⟩ := HR2.out.addr (by omega)
        clear hq
        obtain ⟨hgw, hlg, hcl, hfr, cur, hcur⟩ := HR2.out.at (by omega)
        have hcap2 : n ≤ c2 := by
          rcases HR2.out with ⟨e, _⟩ | ⟨_, g', cap', cur', e, _, h3, _⟩
          · rw [e] at hsl; simp at hsl; omega
          · cases e; omega
        have HCL5 : Hid (∀ i, i < n → w2.cell? ⟨g, i, none⟩ = some (.int .i64 (s5.getD i 0))) := fun i hi => hcl i (by omega)
        have hdc : d < c2 := by omega
        have hdci : (d : Int) < (c2 : Int) := by omega
        have hdn : (d : Int) ≤ ((n - d : Nat) : Int) := by omega
        have hnc : ((n - d : Nat) : Int) ≤ (c2 : Int) := by omega
        have hdnn : d ≤ n - d := by omega
        have hncn : n - d ≤ c2 := by omega
        have hdne : ¬ d = c2 := by omega
        have hdne2 : ¬ c2 = d := by omega
        have hdne3 : ¬ (d : Int) = (c2 : Int) := by omega
        clear hcl hfr hcur hsl
        go_wp2_with fail
        go_loopw [10, 49] (fun t i wr => ∃ q : Nat, q + d + d ≤ n ∧ i = .int .i64 q ∧ t = .int .i64 (psum d (d + q) s5) ∧ Hid (wr = w2)) (fun _ i _ => n - (intOf i).toNat)
        case atStart => exact ⟨0, by omega, rfl, by rw [Nat.add_zero, HP0.out], rfl⟩
        case round =>
          obtain ⟨q, hq, rfl, rfl, hw⟩ := hrel
          obtain rfl := hw.out
          clear hw
          obtain ⟨sv, hsv⟩ : ∃ sv, psum d (d + q) s5 = sv := ⟨_, rfl⟩
          have HSV := Lib.hid hsv
          have hb1 := HPB.out (d + q) (by omega) (by omega)
          rw [hsv] at hb1 ⊢
          obtain ⟨hb1a, hb1b⟩ := hb1
          clear hsv
          by_cases hqn : q < n - d - d
          · obtain ⟨x, hx⟩ : ∃ x, s5.getD (d + q) 0 = x := ⟨_, rfl⟩
            have ck := HCL5.out (d + q) (by omega)
            rw [hx] at ck
            have hst : psum d (d + q + 1) s5 = sv + x := by rw [psum_step (by omega) (by rw [HSL.out]; omega), hx, HSV.out]
            have HST : Hid (psum d (d + (q + 1)) s5 = sv + x) := hst
            have hb2 := HPB.out (d + q + 1) (by omega) (by omega)
            rw [hst] at hb2
            obtain ⟨hb2a, hb2b⟩ := hb2
            have hqi : (q : Int) < ((n - d - d : Nat) : Int) := by omega
            clear hx hst
            go_wp2_with fail
            go_roundw
            case rel => exact ⟨q + 1, by omega, by go_num, by rw [HST.out], by first | exact rfl | exact trivial⟩
            case measure => simp [intOf]; omega
          · have hqi : ¬ (q : Int) < ((n - d - d : Nat) : Int) := by omega
            have hqe : d + q = n - d := by omega
            have HQE := Lib.hid hqe
            clear hqe
            go_wp2_with fail
            go_ret
            exact ⟨ret_int (by rw [HT.out, ← HT2.out, ← HQE.out, HSV.out]), fin HB.out HB2.out⟩

set_option maxHeartbeats 3200000 in
set_option maxRecDepth 100000 in
theorem ktotals_any (N : Nat) (v : Value) (S : JB) (k : Nat) (w : World) (h : ShowAt N w v S) (hR : RdJ S) (hk : k < S.np) :
    Calls Try.prog 56 #[v, .int .i64 k] w fun e w' => e = .returned (.agg #[.int .i64 (loT S k), .int .i64 (hiT S k)]) ∧ Below w.heap.size w w' := by
  obtain ⟨a1, c1, rfl⟩ := h.form
  obtain ⟨ws, hws, HB, hsz, hsz1, hblk, hblk1⟩ := box2 w (.cells #[.int .i64 S.J, .int .i64 S.D, .int .i64 S.Z, .slice a1 S.np c1] 74) (.cells #[.int .i64 0, .int .i64 0] 30)
  have q0 := cell_blk hblk 0 rfl
  have q1 := cell_blk hblk 1 rfl
  have q2 := cell_blk hblk 2 rfl
  have q3 := cell_blk hblk 3 rfl
  have HNZ : Hid (N ≤ w.heap.size) := h.1
  have HBK := Lib.hid (h.go HB.out)
  have HB0 : Hid (Below ws.heap.size ws ws) := Below.refl _ _
  have HNS : Hid (N ≤ ws.heap.size) := HBK.out.1
  have HZ1 := Lib.hid hblk1
  have hlen := h.len
  have HSQ : Hid (∀ W, Below ws.heap.size ws W → (W.cell? ⟨w.heap.size, 0, none⟩ = some (.int .i64 S.J) ∧ W.cell? ⟨w.heap.size, 1, none⟩ = some (.int .i64 S.D) ∧ W.cell? ⟨w.heap.size, 2, none⟩ = some (.int .i64 S.Z) ∧ W.cell? ⟨w.heap.size, 3, none⟩ = some (.slice a1 S.np c1))) := fun W hW => ⟨(hW.cell (p := ⟨w.heap.size, 0, none⟩) hsz).trans q0, (hW.cell (p := ⟨w.heap.size, 1, none⟩) hsz).trans q1, (hW.cell (p := ⟨w.heap.size, 2, none⟩) hsz).trans q2, (hW.cell (p := ⟨w.heap.size, 3, none⟩) hsz).trans q3⟩
  clear hblk hblk1 h
  have HR := Lib.hid hR
  obtain ⟨lo, hlo⟩ : ∃ x, totP S k 0 = x := ⟨_, rfl⟩
  obtain ⟨hi, hhi⟩ : ∃ x, totP S k 20 = x := ⟨_, rfl⟩
  have HLO := Lib.hid hlo
  have HHI := Lib.hid hhi
  clear hR q0 q1 q2 q3 hlo hhi
  go_enter Try.func56, Try.ntmps56
  go_upto_region 1 with fail
  clear hws
  have hS0 := HSQ.out ws.drew (Below.refl _ _).drew
  refine wp_region_held_drew (S := fun W => (W.cell? ⟨w.heap.size, 0, none⟩ = some (.int .i64 S.J) ∧ W.cell? ⟨w.heap.size, 1, none⟩ = some (.int .i64 S.D) ∧ W.cell? ⟨w.heap.size, 2, none⟩ = some (.int .i64 S.Z) ∧ W.cell? ⟨w.heap.size, 3, none⟩ = some (.slice a1 S.np c1))) (by kernel_rfl) hS0 (fun hHeld => ?_)
  (refine wpAnyH_take (i := 0) (v := ?_) rfl (by kernel_rfl) (by kernel_rfl) (by kernel_rfl) (fun _ _ _ h => h) (Or.inl ⟨by rfl, ?_⟩) (by assumption) ?_; rotate_left; (focus (intro w hSw; (try dsimp only at hSw); go_simp; (try with_reducible rfl))); (try simp only [List.getElem_toArray, List.getElem_cons_zero, List.getElem_cons_succ, Act.put, List.setIfInBounds_toArray, List.set_cons_zero, List.set_cons_succ])); (refine wpAnyH_take (i := 1) (v := ?_) rfl (by kernel_rfl) (by kernel_rfl) (by kernel_rfl) (fun _ _ _ h => h) (Or.inl ⟨by rfl, ?_⟩) (by assumption) ?_; rotate_left; (focus (intro w hSw; (try dsimp only at hSw); go_simp; (try with_reducible rfl))); (try simp only [List.getElem_toArray, List.getElem_cons_zero, List.getElem_cons_succ, Act.put, List.setIfInBounds_toArray, List.set_cons_zero, List.set_cons_succ]))
  (refine wpAnyH_take (i := 3) (v := ?_) rfl (by kernel_rfl) (by kernel_rfl) (by kernel_rfl) (fun _ _ _ h => h) (Or.inl ⟨by rfl, ?_⟩) (by assumption) ?_; rotate_left; (focus (intro w hSw; (try dsimp only at hSw); go_simp; (try with_reducible rfl))); (try simp only [List.getElem_toArray, List.getElem_cons_zero, List.getElem_cons_succ, Act.put, List.setIfInBounds_toArray, List.set_cons_zero, List.set_cons_succ])); (refine wpAnyH_take (i := 4) (v := ?_) rfl (by kernel_rfl) (by kernel_rfl) (by kernel_rfl) (fun _ _ _ h => h) (Or.inl ⟨by rfl, ?_⟩) (by assumption) ?_; rotate_left; (focus (intro w hSw; (try dsimp only at hSw); go_simp; (try with_reducible rfl))); (try simp only [List.getElem_toArray, List.getElem_cons_zero, List.getElem_cons_succ, Act.put, List.setIfInBounds_toArray, List.set_cons_zero, List.set_cons_succ]))
  refine wpAnyH_ready (rs := [2]) (by kernel_rfl) (by simp) ?_; refine AllReadyH.cons rfl (fun K hK => ?_) AllReadyH.nil; go_simp
  go_at_call 80
  refine (ktotal_any N _ S k 0 _ (HBK.out.go (Below.refl _ _).drew) HR.out hk (by omega)).mono ?_
  rw [HLO.out]
  rintro e w1 ⟨rfl, hb1⟩
  have HB1 : Hid (Below ws.heap.size ws w1) := (Below.refl _ _).drew.trans hb1
  have hS1 := HSQ.out w1 HB1.out
  clear hb1
  refine hK.out _ _ hS1 (fun hHeld => ?_); clear hK K; (try simp only [List.getElem_toArray, List.getElem_cons_zero, List.getElem_cons_succ, Act.put, List.setIfInBounds_toArray, List.set_cons_zero, List.set_cons_succ])
  refine wpAnyH_ready (rs := [5]) (by kernel_rfl) (by simp) ?_; refine AllReadyH.cons rfl (fun K hK => ?_) AllReadyH.nil; go_simp
  go_at_call 80
  refine (ktotal_any N _ S k 20 _ (HBK.out.go HB1.out) HR.out hk (by omega)).mono ?_
  rw [HHI.out]
  rintro e w2 ⟨rfl, hb2⟩
  have HB2 : Hid (Below ws.heap.size ws w2) := bel HB1.out hb2
  have hS2 := HSQ.out w2 HB2.out
  clear hb2 hS1
  refine hK.out _ _ hS2 (fun hHeld => ?_); clear hK K; (try simp only [List.getElem_toArray, List.getElem_cons_zero, List.getElem_cons_succ, Act.put, List.setIfInBounds_toArray, List.set_cons_zero, List.set_cons_succ])
  (refine wpAnyH_take (i := 6) (v := ?_) rfl (by kernel_rfl) (by kernel_rfl) (by kernel_rfl) (fun _ _ _ h => h) (Or.inl ⟨by rfl, ?_⟩) (by assumption) ?_; rotate_left; (focus (intro w hSw; (try dsimp only at hSw); go_simp; (try with_reducible rfl))); (try simp only [List.getElem_toArray, List.getElem_cons_zero, List.getElem_cons_succ, Act.put, List.setIfInBounds_toArray, List.set_cons_zero, List.set_cons_succ]))
  have hSz := hS2
  clear hS2
  have hz2 := (HB2.out.block _ hsz1).trans HZ1.out
  have x0 := cell_blk hz2 0 rfl
  have x1 := cell_blk hz2 1 rfl
  have y0 := free_blk hz2 0
  have y1 := free_blk hz2 1
  refine wpAnyH_ready (rs := [7]) (by kernel_rfl) (by simp) ?_; refine AllReadyH.cons rfl (fun K hK => ?_) AllReadyH.nil; go_simp
  obtain ⟨w5, hw5, hz5, ho5, hb5⟩ := put2o hz2 (.int .i64 lo) (.int .i64 hi)
  rw [hw5]
  have hc5 : ∀ b o, b ≠ w.heap.size + 1 → w5.cell? ⟨b, o, none⟩ = w2.cell? ⟨b, o, none⟩ := fun b o hne => World.cell?_of_block (w := w2) (ho5 b hne)
  have hne : w.heap.size ≠ w.heap.size + 1 := by omega
  have hS5 : (w5.cell? ⟨w.heap.size, 0, none⟩ = some (.int .i64 S.J) ∧ w5.cell? ⟨w.heap.size, 1, none⟩ = some (.int .i64 S.D) ∧ w5.cell? ⟨w.heap.size, 2, none⟩ = some (.int .i64 S.Z) ∧ w5.cell? ⟨w.heap.size, 3, none⟩ = some (.slice a1 S.np c1)) := ⟨(hc5 _ _ hne).trans hSz.1, (hc5 _ _ hne).trans hSz.2.1, (hc5 _ _ hne).trans hSz.2.2.1, (hc5 _ _ hne).trans hSz.2.2.2⟩
  have HZ5 := Lib.hid hz5
  have HB5 : Hid (Below w.heap.size w w5) := HB.out.trans ((HB2.out.mono HB.out.size).trans (hb5.mono (by omega)))
  clear hw5 hz5 ho5 hb5 hc5 hne hSz x0 x1 y0 y1 hz2
  refine hK.out _ _ hS5 (fun hHeld => ?_); clear hK K; (try simp only [List.getElem_toArray, List.getElem_cons_zero, List.getElem_cons_succ, Act.put, List.setIfInBounds_toArray, List.set_cons_zero, List.set_cons_succ])
  refine wpAnyH_done (by kernel_rfl) ?_ _; clear hHeld
  have r0 := cell_blk HZ5.out 0 rfl
  have r1 := cell_blk HZ5.out 1 rfl
  go_wp2_with fail
  exact bodyPost_ret (v := .agg #[.int .i64 lo, .int .i64 hi]) (by simp [results, Try.results56, go_sem, r0, r1]) rfl ⟨by rw [← HLO.out, ← HHI.out]; rfl, HB5.out⟩

end Go.Proofs.Ytffnlimgjnhmpaa
