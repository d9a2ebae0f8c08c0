/-
  SearchC3: question of the search over cubes.
-/
import Derived.Test.YtghimbggbgcgkaaSearchC2
namespace Go.Proofs.Ytghimbggbgcgkaa
open Go.RowKit Go.Maps

set_option maxRecDepth 100000 in
set_option maxHeartbeats 6400000 in
theorem questionC (B : KB) (hG : GoodB B) (bk b N f : Nat) (hls : SaysLC B bk b N f) : SaysQC B bk b N f := by
  intro c n w hc h1 hf henv hfo hn
  obtain ⟨i0, hi, hz0, hz1, hz2⟩ := info_parts Try.infoInt
  obtain ⟨wb, hwb, HBb, hszb, hszb1, k0, k1⟩ := box2 w (.cells #[.int .i64 B.nv, .func (.func 112) #[] #[.pointer (some ⟨bk, 0, none⟩)], .func (.func 114) #[] #[.pointer (some ⟨bk, 0, none⟩)], .func (.func 116) #[] #[], .map (some b)] 90) (.cells #[.int .i64 (c 0), .int .i64 (c 1), .int .i64 (c 2), .int .i64 (c 3), .int .i64 (c 4)] 94)
  have hgb : w.grownBy wb (some b) := grown_of_below HBb.out
  have HFO : Hid (FoundC B b n wb) := hfo.below HBb.out
  have hbw : b < w.heap.size := hfo.lt
  have hb2 : w.heap.size ≠ b := by omega
  have hb3 : w.heap.size + 1 ≠ b := by omega
  have HENV := Lib.hid (henv.go hgb)
  have s0 := cell_blk k0 0 rfl
  have s1 := cell_blk k0 1 rfl
  have s2 := cell_blk k0 2 rfl
  have s3 := cell_blk k0 3 rfl
  have s4 := cell_blk k0 4 rfl
  have p0 := cell_blk k1 0 rfl
  have p1 := cell_blk k1 1 rfl
  have p2 := cell_blk k1 2 rfl
  have p3 := cell_blk k1 3 rfl
  have p4 := cell_blk k1 4 rfl
  have HC := Lib.hid hc
  have HLS := Lib.hid hls
  have HG := Lib.hid hG
  have HGB := Lib.hid hgb
  have HF := Lib.hid hf
  have hnv5 := hG.nv
  obtain ⟨K, hK⟩ : ∃ K, 16 ^ f = K := ⟨_, rfl⟩
  have HK := Lib.hid hK
  rw [hK] at hn ⊢
  clear henv hfo k0 k1 hls hG hc hgb hK hf
  have HGr : Hid (wb.grownBy wb (some b)) := grown_of_below (Below.refl _ _)
  unfold seaC cubeV
  go_enter Try.func117, Try.ntmps117
  go_wp2
  (try rw [hwb])
  clear hwb
  go_loopw [4, 5, 14] (fun tm tc i wr => ∃ m : Nat, ∃ mk k : Int, m ≤ B.nv ∧ i = .int .i64 m ∧ tm = .int .i64 mk ∧ tc = .int .i64 k ∧ Hid (AskC B c m mk k) ∧ Hid (FoundC B b (n + m * (3 * K)) wr) ∧ Hid (wb.grownBy wr (some b))) (fun _ _ i _ => B.nv - (intOf i).toNat)
  case atStart => exact ⟨0, -1, 0, Nat.zero_le _, rfl, rfl, rfl, AskC.zero _ _, HFO.out.mono (by omega), HGr⟩
  case round =>
    obtain ⟨m, mk, k, hm, rfl, rfl, rfl, HA, HF1, HG1⟩ := hrel
    have g1 := fun o => (grown_cell HG1.out hszb hb2 o)
    have g2 := fun o => (grown_cell HG1.out hszb1 hb3 o)
    have t0 := (g1 0).trans s0
    have t1 := (g1 1).trans s1
    have t2 := (g1 2).trans s2
    have t3 := (g1 3).trans s3
    have t4 := (g1 4).trans s4
    have r0 := (g2 0).trans p0
    have r1 := (g2 1).trans p1
    have r2 := (g2 2).trans p2
    have r3 := (g2 3).trans p3
    have r4 := (g2 4).trans p4
    have hs1 := HG1.out.size
    clear g1 g2
    by_cases hmn : m < B.nv
    · have hmi : (m : Int) < (B.nv : Int) := by omega
      obtain ⟨a1, z1, a2, z2, a3, z3, hbk, hbook⟩ := (HENV.out.go HG1.out).book
      have hpa := partsC_any N bk B a1 a2 a3 z1 z2 z3 c m wr hbk hbook HG.out hmn
      unfold cubeV at hpa
      have HPA := Lib.hid hpa
      have HWC := Lib.hid (whole_cube (c := c) HG.out hmn)
      have HMN := Lib.hid hmn
      clear hbk hbook hpa
      have hV := HG.out.V m hmn
      have hbr : b < wr.heap.size := Nat.lt_of_lt_of_le hbw (Nat.le_trans HBb.out.size HG1.out.size)
      have hbb0 : w.heap.size < wr.heap.size := Nat.lt_of_lt_of_le hszb hs1
      have hbb1 : w.heap.size + 1 < wr.heap.size := Nat.lt_of_lt_of_le hszb1 hs1
      have hqp : partQ B c m ≤ 1000 := by unfold partQ; split <;> omega
      by_cases hcm : c m = -1
      · obtain ⟨q, hqq⟩ : ∃ q, (B.V m).toNat = q := ⟨_, rfl⟩
        have hq3 : q ≤ 3 := by omega
        have hq2 : 2 ≤ q := by omega
        have hPQ : partQ B c m = q := by unfold partQ; rw [if_pos hcm, hqq]
        have hPC : ∀ y, partC c m y = upd c m (y : Int) := fun y => by unfold partC; rw [if_pos hcm]
        have HW0 : Hid (decide (c m ≠ -1) = false) := decide_eq_false (fun h => h hcm)
        have HPC := Lib.hid hPC
        have HCM := Lib.hid hcm
        have HQQ := Lib.hid hqq
        rw [hPQ] at HPA HWC
        clear hcm hV hPQ hPC hqp hqq
        go_wp2_with (first
          | (go_at_call 114; refine HPA.out.mono ?_; rintro e w2 ⟨vP, rfl, hcu, hb2'⟩; have HCU := Lib.hid hcu; obtain ⟨gP, cP, rfl, hgP, hgPs, hcs⟩ := hcu; have HB2 := Lib.hid hb2'; have c2 := (old_of HB2.out).1; clear hb2')
          | (go_at_call 142; have hcc := containsCube_any wr.heap.size _ q (partC c m) c w2 HCU.out (by omega); unfold cubeV at hcc; refine hcc.mono ?_; rw [HWC.out, HW0.out]; rintro e w3 ⟨rfl, hb3'⟩; have HB23 := Lib.hid hb3'; have HB3 := Lib.hid (bel HB2.out hb3'); clear hb3' c2))
        obtain ⟨cf, hcf⟩ : ∃ cf : Nat → Int, (fun y : Nat => costK5 B (upd c m (y : Int))) = cf := ⟨_, rfl⟩
        have HCF := Lib.hid hcf
        have HCFy : Hid (∀ y : Nat, costK5 B (upd c m (y : Int)) = cf y) := fun y => by rw [← hcf]
        clear hcf
        have HCS : Hid (∀ y, y < q → ∀ i, i < 5 → w3.cell? ⟨gP, y * 5 + i, none⟩ = some (.int .i64 (upd c m (y : Int) i))) := fun y hy i hi => by
          rw [HB23.out.cell (p := ⟨gP, y * 5 + i, none⟩) hgPs, hcs y hy i hi, HPC.out]
        have hgP3 : gP < w3.heap.size := Nat.lt_of_lt_of_le hgPs HB23.out.size
        have hgPb : gP ≠ b := by omega
        have hb3s : b < w3.heap.size := Nat.lt_of_lt_of_le hbr HB3.out.size
        have HG3 : Hid (wb.grownBy w3 (some b)) := grown_trans HG1.out (grown_of_below HB3.out)
        have HF3 : Hid (FoundC B b (n + m * (3 * K)) w3) := HF1.out.below HB3.out
        have HGi : Hid (w3.grownBy w3 (some b)) := grown_of_below (Below.refl _ _)
        clear hcs t0 t1 t2 t3 t4 r0 r1 r2 r3 r4
        go_loopw [8, 27] (fun t i wr => ∃ y : Nat, y ≤ q ∧ i = .int .i64 y ∧ Hid (OwnI w3.heap.size wr t (costsL cf y)) ∧ Hid (FoundC B b (n + m * (3 * K) + y * K) wr) ∧ Hid (w3.grownBy wr (some b))) (fun _ i _ => q - (intOf i).toNat)
        case atStart => exact ⟨0, Nat.zero_le _, rfl, own_nil _ _, HF3.out.mono (by omega), HGi⟩
        case round =>
          obtain ⟨y, hy, rfl, ho, HFy, HGy⟩ := hrel
          have HGz : Hid (wb.grownBy wr (some b)) := grown_trans HG3.out HGy.out
          have g1 := fun o => (grown_cell HGz.out hszb hb2 o)
          have g2 := fun o => (grown_cell HGz.out hszb1 hb3 o)
          have t0 := (g1 0).trans s0
          have t1 := (g1 1).trans s1
          have t2 := (g1 2).trans s2
          have t3 := (g1 3).trans s3
          have t4 := (g1 4).trans s4
          have r0 := (g2 0).trans p0
          have r1 := (g2 1).trans p1
          have r2 := (g2 2).trans p2
          have r3 := (g2 3).trans p3
          have r4 := (g2 4).trans p4
          have hsy := HGy.out.size
          have hbz0 : w.heap.size < wr.heap.size := Nat.lt_of_lt_of_le hszb HGz.out.size
          have hbz1 : w.heap.size + 1 < wr.heap.size := Nat.lt_of_lt_of_le hszb1 HGz.out.size
          clear g1 g2
          have hyK : (y + 1) * K = y * K + K := Nat.succ_mul _ _
          have hyK3 : y * K ≤ 3 * K := Nat.mul_le_mul_right _ (by omega)
          have hmK : (m + 1) * (3 * K) = m * (3 * K) + 3 * K := Nat.succ_mul _ _
          have hmK5 : (m + 1) * (3 * K) ≤ 5 * (3 * K) := Nat.mul_le_mul_right _ (by have := HMN.out; omega)
          have hown := own_mono ho.out (Nat.le_refl _)
          have hcl := costsL_len cf y
          by_cases hyq : y < q
          · have hyi : (y : Int) < (q : Int) := by omega
            have hyK4 : (y + 1) * K ≤ 3 * K := Nat.mul_le_mul_right _ (by omega)
            obtain ⟨d, hd⟩ : ∃ d, upd c m (y : Int) = d := ⟨_, rfl⟩
            have e0 := (grown_cell HGy.out hgP3 hgPb _).trans (HCS.out y hyq 0 (by omega))
            rw [Nat.add_zero] at e0
            have e1 := (grown_cell HGy.out hgP3 hgPb _).trans (HCS.out y hyq 1 (by omega))
            have e2 := (grown_cell HGy.out hgP3 hgPb _).trans (HCS.out y hyq 2 (by omega))
            have e3 := (grown_cell HGy.out hgP3 hgPb _).trans (HCS.out y hyq 3 (by omega))
            have e4 := (grown_cell HGy.out hgP3 hgPb _).trans (HCS.out y hyq 4 (by omega))
            have HSN := Lib.hid (costsL_snoc cf y)
            have hcd : CubeOk B (upd c m (y : Int)) := HC.out.part HMN.out (by have := HQQ.out; omega)
            have hfd : freeC B (upd c m (y : Int)) ≤ f := by have := freeC_part (B := B) (v := y) HMN.out HCM.out; have := HF.out; omega
            obtain ⟨wa, hwa, HBa, hsza, hblka⟩ := box1 wr (.cells #[.int .i64 (d 0), .int .i64 (d 1), .int .i64 (d 2), .int .i64 (d 3), .int .i64 (d 4)] 94)
            have hle := HLS.out (upd c m (y : Int)) (n + m * (3 * K) + y * K) wa hcd hfd (HENV.out.go (grown_trans HGz.out (grown_of_below HBa.out))) (HFy.out.below HBa.out) (by rw [HK.out]; omega)
            rw [HK.out, HCFy.out] at hle
            rw [hd] at hle e0 e1 e2 e3 e4
            unfold seaC cubeV at hle
            have HLE := Lib.hid hle
            have v0 := cell_blk hblka 0 rfl
            have v1 := cell_blk hblka 1 rfl
            have v2 := cell_blk hblka 2 rfl
            have v3 := cell_blk hblka 3 rfl
            have v4 := cell_blk hblka 4 rfl
            have ca := (old_of HBa.out).1
            have HYQ := Lib.hid hyq
            have howna := own_below hown HBa.out
            clear hle hd hcd hfd hblka hyq hy
            generalize costsL cf y = li at *
            go_wp2_with (first
              | (go_at_call 78; (try rw [hwa]); refine HLE.out.mono ?_; rintro e w4 ⟨rfl, hf4, hg4⟩; have HF4 := Lib.hid hf4; have HG4 := Lib.hid hg4; have hs4 := hg4.size; have hown4 := World.ownsRow.kept howna hg4 (.inr (by intro e9; have := (howna.lt b e9).1; omega)); clear hf4 hg4 ca v0 v1 v2 v3 v4)
              | (at_builtin; refine wpList_append_own _ rfl _ _ 22 rfl w3.heap.size 3 i0 (.int .i64 0) 1 8 Try.underlying22 hi hz0 hz1 hz2 rfl (by decide) _ _ _ rfl (hown4.alloc _) ⟨w4.heap.size, 0, none⟩ 1 1 [.int .i64 (cf y)] rfl rfl (cell_one_new _ _ _) (by simp [Value.oneCell']) (by unfold maxLen; omega) (by omega) (by simp; omega) ?_; intro v' w5 hown5 hgrow _))
            go_roundw
            case rel =>
              have hga := grown_own (b := b) (grown_trans (grown_trans (grown_trans HGy.out (grown_of_below HBa.out)) HG4.out) (World.grownBy_alloc w4 _ _)) hgrow (fun j e => (hown4.lt j e).1)
              refine ⟨y + 1, HYQ.out, by go_num, by rw [HSN.out]; unfold Hid OwnI; rw [List.length_append, List.map_append]; exact hown5, ?_, hga⟩
              exact ((HF4.out.kept (World.grownBy_alloc w4 _ none) (by simp)).kept hgrow (by intro e9; have := (hown4.lt b e9.symm).1; omega)).mono (by omega)
            case measure => simp [intOf]; have := HYQ.out; omega
          · have hyq' : y = q := by omega
            subst hyq'
            obtain ⟨r, hr⟩ : ∃ r, y = r + 1 := ⟨y - 1, by omega⟩
            have hcq : costQ B c m = 1 + maxF cf r := by
              unfold costQ costM
              rw [HQQ.out, hr, ← HCF.out]
              exact worst_maxC (fun v => (costK5_bd HG.out.nv _).1) r
            have HCI : Hid (IntsAt wr.heap.size wr u8 (r + 1) cf) := by rw [← hr]; exact costs_ints ho.out (by omega)
            have HMB : Hid (-1 ≤ maxF cf r ∧ maxF cf r ≤ 1048576) := by
              have := costQ_bd HG.out.nv HMN.out HCM.out
              rw [hcq] at this
              unfold Hid; omega
            have HCC : Hid (1 + maxF cf r = costQ B c m) := hcq.symm
            obtain ⟨cS, hcS⟩ : ∃ cS, costQ B c m = cS := ⟨_, rfl⟩
            have HCQ := Lib.hid hcS
            rw [hcS] at HCC
            have hyi : ¬ ((y : Nat) : Int) < ((y : Nat) : Int) := by omega
            by_cases hmk : mk = -1
            · have hmke : (mk == -1) = true := by rw [hmk]; rfl
              have HAT : Hid (AskC B c (m + 1) m cS) := by have := HA.out.take HG.out.nv HMN.out HCM.out (.inl hmk); rw [hcS] at this; exact this
              clear hmk
              go_wp2_with (go_at_call 116; have hwo := worstCube_any wr.heap.size r _ c cf wr HCI.out (Nat.le_refl _) (by omega) HMB.out; unfold cubeV at hwo; refine hwo.mono ?_; rw [HCC.out]; rintro e w6 ⟨rfl, hb6⟩; have HB6 := Lib.hid hb6; clear hb6)
              go_roundw
              case rel => exact ⟨m + 1, m, cS, HMN.out, by go_num, rfl, rfl, HAT, (HFy.out.below HB6.out).mono (by omega), grown_trans HGz.out (grown_of_below HB6.out)⟩
              case measure => simp [intOf]; omega
            · have hmke : (mk == -1) = false := by simp [hmk]
              by_cases hlt : cS < k
              · have HAT : Hid (AskC B c (m + 1) m cS) := by have := HA.out.take HG.out.nv HMN.out HCM.out (.inr (by rw [hcS]; exact hlt)); rw [hcS] at this; exact this
                clear hmk
                go_wp2_with (go_at_call 116; have hwo := worstCube_any wr.heap.size r _ c cf wr HCI.out (Nat.le_refl _) (by omega) HMB.out; unfold cubeV at hwo; refine hwo.mono ?_; rw [HCC.out]; rintro e w6 ⟨rfl, hb6⟩; have HB6 := Lib.hid hb6; clear hb6)
                go_roundw
                case rel => exact ⟨m + 1, m, cS, HMN.out, by go_num, rfl, rfl, HAT, (HFy.out.below HB6.out).mono (by omega), grown_trans HGz.out (grown_of_below HB6.out)⟩
                case measure => simp [intOf]; omega
              · have HAT : Hid (AskC B c (m + 1) mk k) := HA.out.keep HCM.out hmk (by rw [hcS]; exact hlt)
                clear hmk
                go_wp2_with (go_at_call 116; have hwo := worstCube_any wr.heap.size r _ c cf wr HCI.out (Nat.le_refl _) (by omega) HMB.out; unfold cubeV at hwo; refine hwo.mono ?_; rw [HCC.out]; rintro e w6 ⟨rfl, hb6⟩; have HB6 := Lib.hid hb6; clear hb6)
                go_roundw
                case rel => exact ⟨m + 1, mk, k, HMN.out, by go_num, rfl, rfl, HAT, (HFy.out.below HB6.out).mono (by omega), grown_trans HGz.out (grown_of_below HB6.out)⟩
                case measure => simp [intOf]; omega
      · have HAS : Hid (AskC B c (m + 1) mk k) := HA.out.skip hcm
        have HW1 : Hid (decide (c m ≠ -1) = true) := decide_eq_true hcm
        obtain ⟨pq, hpq⟩ : ∃ z, partQ B c m = z := ⟨_, rfl⟩
        rw [hpq] at HPA HWC hqp
        clear hcm hV hpq
        go_wp2_with (first
          | (go_at_call 114; refine HPA.out.mono ?_; rintro e w2 ⟨vP, rfl, hcu, hb2'⟩; have HCU := Lib.hid hcu; have HB2 := Lib.hid hb2'; have c2 := (old_of HB2.out).1; clear hb2' hcu)
          | (go_at_call 142; have hcc := containsCube_any wr.heap.size vP pq (partC c m) c w2 HCU.out hqp; unfold cubeV at hcc; refine hcc.mono ?_; rw [HWC.out, HW1.out]; rintro e w3 ⟨rfl, hb3'⟩; have HB3 := Lib.hid (bel HB2.out hb3'); clear hb3' c2))
        go_roundw
        case rel =>
          have h15 : (m + 1) * (3 * K) = m * (3 * K) + 3 * K := Nat.succ_mul _ _
          exact ⟨m + 1, mk, k, HMN.out, by go_num, rfl, rfl, HAS, (HF1.out.below HB3.out).mono (by omega), grown_trans HG1.out (grown_of_below HB3.out)⟩
        case measure => simp [intOf]; omega
    · have hmi : ¬ (m : Int) < (B.nv : Int) := by omega
      have hme : m = B.nv := by omega
      subst hme
      go_wp2
      go_ret2
      have h15 : B.nv * (3 * K) ≤ 5 * (3 * K) := Nat.mul_le_mul_right _ (by omega)
      exact ⟨mk, k, rfl, HA.out, HF1.out.mono (by omega), grown_trans HGB.out HG1.out⟩

end Go.Proofs.Ytghimbggbgcgkaa
