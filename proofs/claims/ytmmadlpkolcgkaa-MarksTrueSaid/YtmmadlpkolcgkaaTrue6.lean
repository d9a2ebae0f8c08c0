/-
  MarksTrue for a truth.
-/
import Derived.Test.YtmmadlpkolcgkaaTrue5
namespace Go.Proofs.Ytmmadlpkolcgkaa
open Go.RowKit

set_option maxHeartbeats 8000000 in
set_option maxRecDepth 100000 in
theorem true_in (N : Nat) (v u : Value) (B : Bk) (R : Fr) (k : Nat) (aq : Option Addr) (cq : Nat) (Q : Fr) (w : World) (h : BookAt N w v B) (hf : FruitsAt N w u R) (hq : FruitsAt N w (.slice aq Q.n cq) Q)
    (hr : rdy B R = true) (hl : longB Q.n Q.L = false) (ht : truthB B R (k : Int) Q = true) (hT : IsT B R Q k) (hw : (wrongIn R Q : Int) ≤ B.wr) :
    Calls Try.prog 7 #[v, u, .agg #[.int .i64 k, .slice aq Q.n cq]] w fun e w' => e = .returned (.bool true) ∧ Below w.heap.size w w' := by
  have h' := h
  obtain ⟨_, a1, c1, a2, c2, a3, c3, rfl, _⟩ := h'
  obtain ⟨ws, hws, HB, hsz, hsz1, hblk, hblk1⟩ := box2 w (.cells #[.slice a1 B.nv c1, .slice a2 B.nf c2, .slice a3 B.ns c3, .int .i64 B.wr] 25) (.cells #[.int .i64 k, .slice aq Q.n cq] 58)
  have q0 := cell_blk hblk 0 rfl
  have q1 := cell_blk hblk 1 rfl
  have q2 := cell_blk hblk 2 rfl
  have q3 := cell_blk hblk 3 rfl
  have p0 := cell_blk hblk1 0 rfl
  have p1 := cell_blk hblk1 1 rfl
  obtain ⟨HBQ, _⟩ := entry HB.out h hq
  obtain ⟨HBF, HB0⟩ := entry HB.out h hf
  clear hblk hblk1 h hf hq
  obtain ⟨af, cf, rfl, hRn, _⟩ := id HBF.out.2
  have HNS : Hid (N ≤ ws.heap.size) := HBF.out.1.1
  have hc := (rdy_parts hr).1
  have HCK := Lib.hid hc
  have HR := Lib.hid hr
  have HG := Lib.hid (rdy_parts hr).2.2
  have HK := Lib.hid (rdy_parts hr).2.1
  have HL := Lib.hid hl
  have HTR := Lib.hid ht
  have HT := Lib.hid hT
  have HW := Lib.hid hw
  have hwi := wrongIn_le (Q := Q) HG.out
  obtain ⟨ls, wn, fw, kk, es, hls, hin, ew, hwn, ef, hfw, ei, hkk⟩ := truth_facts hc hT hw
  obtain ⟨lx, ex_, hlx, hmx⟩ := mistakes_facts hc hT hw
  obtain ⟨wi, hwie⟩ : ∃ n, wrongIn R Q = n := ⟨_, rfl⟩
  have HLQ : Hid (∀ f, f < R.n → R.L f ≤ 1000 ∧ f < Q.n ∧ R.L f ≤ Q.L f) := fun f hf => by
    have h1 := HG.out.L f hf
    have h2 := hT.L f hf
    have h3 := HG.out.nv
    have h4 := hT.n
    exact ⟨by omega, by omega, by omega⟩
  rw [hwie] at hwi hwn hlx
  have HES := Lib.hid es
  have HIN := Lib.hid hin
  have HEW := Lib.hid ew
  have HEF := Lib.hid ef
  have HEI := Lib.hid ei
  have HEX := Lib.hid ex_
  have HMX := Lib.hid hmx
  have HWI := Lib.hid hwie
  have hns := HG.out.ns
  have hlsi : (ls.length : Int) ≤ (B.ns : Int) := by omega
  have hwni : (wn : Int) ≤ (wi : Int) := by omega
  have hfwi : (fw : Int) ≤ (wn : Int) := by omega
  have hlxi : (lx.length : Int) ≤ (wi : Int) := by omega
  have d0 : decide (wi < wn) = false := by simp; omega
  have d1 : decide (wn < fw) = false := by simp; omega
  have d2 : decide (B.ns < ls.length) = false := by simp; omega
  have d3 : decide ((wn : Int) < 0) = false := by simp
  have d4 : decide ((fw : Int) < 0) = false := by simp
  have d5 : decide (wi < lx.length) = false := by simp; omega
  have HBD : Hid (ls.length ≤ 140737488351232 ∧ lx.length ≤ 140737488351232) := ⟨by omega, by omega⟩
  have hlen : (kk = 1 ∧ ((ls.length : Int) == 1) = true) ∨ (kk = 3 ∧ ((ls.length : Int) == 1) = false) := by
    rw [hkk]
    by_cases h1 : ls.length = 1
    · exact .inl ⟨by simp [h1], by simp [h1]⟩
    · exact .inr ⟨by simp [h1], by simp; omega⟩
  clear hr hl ht hT hw hc es hls hin ew hwn ef hfw ei hkk ex_ hlx hmx hwie
  go_enter Try.func7, Try.ntmps7
  go_upto_region 8 with (first
    | (go_at_call 44; refine (ready_any N _ _ B R _ (HBF.out.go HB0.out).1 (HBF.out.go HB0.out).2).mono ?_; rintro e w1 ⟨rfl, hb1⟩; rw [HR.out]; (try clear c0); have HB1 := Lib.hid (bel HB0.out hb1); have c1 := (old_of HB1.out).1; clear hb1)
    | (go_at_call 45; refine (longLists_any N _ _ _ _ _ (HBQ.out.go HB1.out).2).mono ?_; rintro e w2 ⟨rfl, rfl⟩; rw [show (decide (40 < Q.n) || anyB Q.n fun i => decide (40 < Q.L i)) = false from HL.out])
    | (go_at_call 46; refine (isTruth_any N _ _ B R _ aq cq Q _ (HBF.out.go HB1.out).1 (HBF.out.go HB1.out).2 HG.out HK.out (HBQ.out.go HB1.out).2).mono ?_; rintro e w3 ⟨rfl, hb3⟩; rw [HTR.out]; (try clear c1); have HB3 := Lib.hid (bel HB1.out hb3); have c3 := (old_of HB3.out).1; clear hb3)
    | (go_at_call 47; refine (wrongIn_any N _ _ R Q _ (HBF.out.go HB3.out).1.1 (HBF.out.go HB3.out).2 (HBQ.out.go HB3.out).2 (by have := HG.out.n; omega) HLQ.out).mono ?_; rintro e w4 ⟨rfl, hb4⟩; rw [HWI.out]; (try clear c3); have HB4 := Lib.hid (bel HB3.out hb4); have c4 := (old_of HB4.out).1; clear hb4)
    | (go_at_call 26; refine (mSorts_any N _ _ B R _ (HBF.out.go HB4.out).1 (HBF.out.go HB4.out).2).mono ?_; rintro e w5 ⟨u5, rfl, hu5, hb5⟩; rw [HES.out] at hu5; rw [HES.out]; obtain ⟨ao5, co5, rfl⟩ := hu5.form; have HU5 := Lib.hid hu5; clear hu5; (try clear c4); have HB5 := Lib.hid (bel HB4.out hb5); have c5 := (old_of HB5.out).1; clear hb5)
    | (go_at_call 20; refine (mWrong_any N _ _ B R _ _ (HBF.out.go HB5.out).1 (HBF.out.go HB5.out).2).mono ?_; rintro e w6 ⟨rfl, hb6⟩; rw [HEW.out]; have HC6 := Lib.hid hb6; (try clear c5); have HB6 := Lib.hid (bel HB5.out hb6); have c6 := (old_of HB6.out).1; clear hb6)
    | (go_at_call 22; refine (mFewest_any N _ _ B R _ (HBF.out.go HB6.out).1 (HBF.out.go HB6.out).2).mono ?_; rintro e w7 ⟨rfl, hb7⟩; rw [HEF.out]; have HC7 := Lib.hid (bel HC6.out hb7); (try clear c6); have HB7 := Lib.hid (bel HB6.out hb7); have c7 := (old_of HB7.out).1; clear hb7)
    | (go_at_call 28; refine (mIs_any N _ _ B R _ _ (HBF.out.go HB7.out).1 (HBF.out.go HB7.out).2).mono ?_; rintro e w8 ⟨rfl, hb8⟩; rw [HEI.out]; have HC8 := Lib.hid (bel HC7.out hb8); (try clear c7); have HB8 := Lib.hid (bel HB7.out hb8); have c8 := (old_of HB8.out).1; clear hb8))
  clear hws
  go_cut [14, 133] (fun kv c wx => (∃ z : Int, kv = .int .i64 z) ∧ c = .bool false ∧ wx = w8)
  case first =>
    rcases hlen with ⟨rfl, hk2⟩ | ⟨rfl, hk2⟩
    all_goals
      go_wp2_with (first
        | (go_at_call 48; refine (in_any _ _ _ _ _ _ ((OwnI.ints (l := ls) HU5.out HBD.out.1).mono HC8.out (Nat.le_refl _))).mono ?_; rintro e wx ⟨rfl, rfl⟩; rw [HIN.out]))
      go_meet
      exact ⟨⟨_, rfl⟩, rfl, rfl⟩
  case rest =>
  obtain ⟨⟨zk, rfl⟩, rfl, rfl⟩ := hcut
  go_wp2
  go_loopw [16] (fun i wr => ∃ f : Nat, f ≤ R.n ∧ i = .int .i64 f ∧ Hid (Below ws.heap.size ws wr)) (fun i _ => R.n - (intOf i).toNat)
  case atStart => exact ⟨0, Nat.zero_le _, rfl, HB8.out⟩
  clear c8 HB8
  case round =>
  obtain ⟨f, hf, rfl, HBr⟩ := hrel
  have cr := (old_of HBr.out).1
  by_cases hfn : f < R.n
  · have hfi : (f : Int) < (R.n : Int) := by omega
    have HFN := Lib.hid hfn
    have hfi5 : f ≤ 5 := by have := HG.out.n; omega
    clear hfn
    go_wp2
    go_loopw [17] (fun i wr => ∃ m : Nat, m ≤ B.nv ∧ i = .int .i64 m ∧ Hid (Below ws.heap.size ws wr)) (fun i _ => B.nv - (intOf i).toNat)
    case atStart => exact ⟨0, Nat.zero_le _, rfl, HBr.out⟩
    clear HBr
    case round =>
    obtain ⟨m, hm, rfl, HBr⟩ := hrel
    have cr := (old_of HBr.out).1
    by_cases hmn : m < B.nv
    · obtain ⟨lv, ev, hlv, hiv⟩ := values_facts HCK.out HT.out HW.out HFN.out hmn
      have HEV := Lib.hid ev
      have HIV := Lib.hid hiv
      have hlvi : (lv.length : Int) ≤ 5 := by omega
      have HLV : Hid (lv.length ≤ 140737488351232) := by unfold Hid; omega
      obtain ⟨b5, o5, b6, o6, c6, rfl, hb5, hb6, hq5, hq6⟩ := fruit_at HBQ.out.2 (f := f) (m := m) (by rw [HT.out.n]; exact HFN.out) (by rw [HT.out.L f HFN.out]; exact hmn)
      have g5 : b5 < ws.heap.size := Nat.lt_of_lt_of_le hb5 HNS.out
      have g6 : b6 < ws.heap.size := Nat.lt_of_lt_of_le hb6 HNS.out
      have hmi : (m : Int) < (B.nv : Int) := by omega
      have hfq : (f : Int) < (Q.n : Int) := by rw [HT.out.n]; omega
      have hmq : (m : Int) < (Q.L f : Int) := by rw [HT.out.L f HFN.out]; omega
      have hm6 : m ≤ 6 := by have := HG.out.nv; omega
      have HMN := Lib.hid hmn
      clear ev hlv hiv hb5 hb6 hmn
      go_wp2_with (first
        | (go_at_call 31; refine (mValues_any N _ _ B R _ _ _ (HBF.out.go HBr.out).1 (HBF.out.go HBr.out).2).mono ?_; rintro e w9 ⟨u9, rfl, hu9, hb9⟩; rw [HEV.out] at hu9; rw [HEV.out]; obtain ⟨ao9, co9, rfl⟩ := hu9.form; have HU9 := Lib.hid hu9; clear hu9; (try clear cr); have HB9 := Lib.hid (bel HBr.out hb9); have c9 := (old_of HB9.out).1; clear hb9)
        | (go_at_call 48; refine (in_any _ _ _ _ _ _ (OwnI.ints (l := lv) HU9.out HLV.out)).mono ?_; rintro e wx ⟨rfl, rfl⟩; rw [HIV.out]))
      go_roundw
      case rel => exact ⟨m + 1, by have := HMN.out; omega, by go_num, HB9.out⟩
      case measure => simp [intOf]; have := HMN.out; omega
    · go_wp2
      go_roundw
      case rel => exact ⟨f + 1, by have := HFN.out; omega, by go_num, HBr.out⟩
      case measure => simp [intOf]; have := HFN.out; omega
  · clear hf
    go_wp2_with (first
      | (go_at_call 33; refine (mMistakes_any N _ _ B R _ (HBF.out.go HBr.out).1 (HBF.out.go HBr.out).2).mono ?_; rintro e wm ⟨um, rfl, hum, hbm⟩; rw [HEX.out] at hum; rw [HEX.out]; have HP := Lib.hid (hum.places HBD.out.2); obtain ⟨aom, com, rfl⟩ := hum.form; clear hum; (try clear cr); have HBm := Lib.hid (bel HBr.out hbm); have cm := (old_of HBm.out).1; clear hbm))
    clear HBr
    go_loopw [21] (fun i wr => ∃ j : Nat, j ≤ lx.length ∧ i = .int .i64 j ∧ Hid (Below wm.heap.size wm wr)) (fun i _ => lx.length - (intOf i).toNat)
    case atStart => exact ⟨0, Nat.zero_le _, rfl, Below.refl _ _⟩
    clear cm
    case round =>
    obtain ⟨j, hj, rfl, HCr⟩ := hrel
    have HBr := Lib.hid (bel HBm.out HCr.out)
    have cr := (old_of HBr.out).1
    have hszr := Nat.lt_of_lt_of_le hsz HBr.out.size
    have hszr1 := Nat.lt_of_lt_of_le hsz1 HBr.out.size
    by_cases hjn : j < lx.length
    · obtain ⟨hx1, hx2, hx3⟩ := HMX.out j hjn
      obtain ⟨_, _, e, _, hpc⟩ := HP.out.mono HCr.out (Nat.le_refl _)
      cases e
      obtain ⟨bp, op, rfl, hbp, hpr⟩ := hpc (by omega)
      obtain ⟨hp1, hp2⟩ := hpr j hjn
      have hbq := Nat.lt_of_lt_of_le hbp HCr.out.size
      generalize (lx.getD j (0, 0)).1 = f at *
      generalize (lx.getD j (0, 0)).2 = m at *
      obtain ⟨b5, o5, b6, o6, c6, rfl, hb5, hb6, hq5, hq6⟩ := fruit_at (HBQ.out.go HBr.out).2 (f := f) (m := m) (by rw [HT.out.n]; exact hx1) (by rw [HT.out.L f hx1]; exact hx2)
      obtain ⟨b7, o7, b8, o8, c8, rfl, hb7, hb8, hq7, hq8⟩ := fruit_at (HBF.out.go HBr.out).2 (f := f) (m := m) hx1 (by rw [HG.out.L f hx1]; exact hx2)
      have hNr : N ≤ wr.heap.size := (HBF.out.go HBr.out).1.1
      have g5 : b5 < wr.heap.size := Nat.lt_of_lt_of_le hb5 hNr
      have g6 : b6 < wr.heap.size := Nat.lt_of_lt_of_le hb6 hNr
      have g7 : b7 < wr.heap.size := Nat.lt_of_lt_of_le hb7 hNr
      have g8 : b8 < wr.heap.size := Nat.lt_of_lt_of_le hb8 hNr
      have hfr : (f : Int) < (R.n : Int) := by omega
      have hfq : (f : Int) < (Q.n : Int) := by rw [HT.out.n]; omega
      have hmr : (m : Int) < (R.L f : Int) := by rw [HG.out.L f hx1]; omega
      have hmq : (m : Int) < (Q.L f : Int) := by rw [HT.out.L f hx1]; omega
      have hji : (j : Int) < (lx.length : Int) := by omega
      have hIP : Hid (inPlace B R (f : Int) (m : Int) = true) := by unfold Hid; simp [inPlace]; omega
      unfold offB at hx3
      simp only [Bool.and_eq_true, decide_eq_true_eq] at hx3
      have e1 : (R.X f m == -1) = false := by simp [hx3.1]
      have e2 : (R.X f m == Q.X f m) = false := by simp [hx3.2]
      have HJN := Lib.hid hjn
      have HB0' : Hid (Below wr.heap.size wr wr) := Below.refl _ _
      have S0d := old_of HB0'.out.drew
      have HB0d := S0d.2
      clear hx1 hx2 hx3 hpr hpc hbp hb5 hb6 hb7 hb8 hNr hjn
      go_upto_region 25 with fail
      refine wp_region_held_drew (S := (fun w' => (∀ b o, b < wr.heap.size → w'.cell? ⟨b, o, none⟩ = wr.cell? ⟨b, o, none⟩) ∧ Hid (Below wr.heap.size wr w'))) (by kernel_rfl) S0d (fun hHeld => ?_)
      (refine wpAnyH_take (i := 0) (v := ?_) rfl (by kernel_rfl) (by kernel_rfl) (by kernel_rfl) (fun _ _ _ h => h) (Or.inl ⟨by rfl, ?_⟩) (by assumption) ?_; rotate_left; (focus (intro w hSw; (try dsimp only at hSw); go_simp; (try with_reducible rfl))); (try simp only [List.getElem_toArray, List.getElem_cons_zero, List.getElem_cons_succ, Act.put, List.setIfInBounds_toArray, List.set_cons_zero, List.set_cons_succ])); (refine wpAnyH_take (i := 1) (v := ?_) rfl (by kernel_rfl) (by kernel_rfl) (by kernel_rfl) (fun _ _ _ h => h) (Or.inl ⟨by rfl, ?_⟩) (by assumption) ?_; rotate_left; (focus (intro w hSw; (try dsimp only at hSw); go_simp; (try with_reducible rfl))); (try simp only [List.getElem_toArray, List.getElem_cons_zero, List.getElem_cons_succ, Act.put, List.setIfInBounds_toArray, List.set_cons_zero, List.set_cons_succ])); (refine wpAnyH_take (i := 2) (v := ?_) rfl (by kernel_rfl) (by kernel_rfl) (by kernel_rfl) (fun _ _ _ h => h) (Or.inl ⟨by rfl, ?_⟩) (by assumption) ?_; rotate_left; (focus (intro w hSw; (try dsimp only at hSw); go_simp; (try with_reducible rfl))); (try simp only [List.getElem_toArray, List.getElem_cons_zero, List.getElem_cons_succ, Act.put, List.setIfInBounds_toArray, List.set_cons_zero, List.set_cons_succ])); (refine wpAnyH_take (i := 3) (v := ?_) rfl (by kernel_rfl) (by kernel_rfl) (by kernel_rfl) (fun _ _ _ h => h) (Or.inl ⟨by rfl, ?_⟩) (by assumption) ?_; rotate_left; (focus (intro w hSw; (try dsimp only at hSw); go_simp; (try with_reducible rfl))); (try simp only [List.getElem_toArray, List.getElem_cons_zero, List.getElem_cons_succ, Act.put, List.setIfInBounds_toArray, List.set_cons_zero, List.set_cons_succ])); (refine wpAnyH_take (i := 4) (v := ?_) rfl (by kernel_rfl) (by kernel_rfl) (by kernel_rfl) (fun _ _ _ h => h) (Or.inl ⟨by rfl, ?_⟩) (by assumption) ?_; rotate_left; (focus (intro w hSw; (try dsimp only at hSw); go_simp; (try with_reducible rfl))); (try simp only [List.getElem_toArray, List.getElem_cons_zero, List.getElem_cons_succ, Act.put, List.setIfInBounds_toArray, List.set_cons_zero, List.set_cons_succ])); (refine wpAnyH_take (i := 5) (v := ?_) rfl (by kernel_rfl) (by kernel_rfl) (by kernel_rfl) (fun _ _ _ h => h) (Or.inl ⟨by rfl, ?_⟩) (by assumption) ?_; rotate_left; (focus (intro w hSw; (try dsimp only at hSw); go_simp; (try with_reducible rfl))); (try simp only [List.getElem_toArray, List.getElem_cons_zero, List.getElem_cons_succ, Act.put, List.setIfInBounds_toArray, List.set_cons_zero, List.set_cons_succ]))
      refine wpAnyH_ready (rs := [6]) (by kernel_rfl) (by simp) ?_; refine AllReadyH.cons rfl (fun K hK => ?_) AllReadyH.nil; go_simp
      go_at_call 49
      refine (isPlace_any N _ _ B R f m _ ((HBF.out.go HBr.out).1.go HB0d.out) ((HBF.out.go HBr.out).go HB0d.out).2).mono ?_
      rintro e w2 ⟨rfl, hb2⟩
      rw [hIP.out]
      have S2 := old_of (bel HB0d.out hb2)
      have HB2 := S2.2
      clear hb2
      refine hK.out _ _ S2 (fun hHeld => ?_); clear hK K; (try simp only [List.getElem_toArray, List.getElem_cons_zero, List.getElem_cons_succ, Act.put, List.setIfInBounds_toArray, List.set_cons_zero, List.set_cons_succ])
      (refine wpAnyH_take (i := 7) (v := ?_) rfl (by kernel_rfl) (by kernel_rfl) (by kernel_rfl) (fun _ _ _ h => h) (Or.inl ⟨by rfl, ?_⟩) (by assumption) ?_; rotate_left; (focus (intro w hSw; (try dsimp only at hSw); go_simp; (try with_reducible rfl))); (try simp only [List.getElem_toArray, List.getElem_cons_zero, List.getElem_cons_succ, Act.put, List.setIfInBounds_toArray, List.set_cons_zero, List.set_cons_succ])); (refine wpAnyH_take (i := 8) (v := ?_) rfl (by kernel_rfl) (by kernel_rfl) (by kernel_rfl) (fun _ _ _ h => h) (Or.inl ⟨by rfl, ?_⟩) (by assumption) ?_; rotate_left; (focus (intro w hSw; (try dsimp only at hSw); go_simp; (try with_reducible rfl))); (try simp only [List.getElem_toArray, List.getElem_cons_zero, List.getElem_cons_succ, Act.put, List.setIfInBounds_toArray, List.set_cons_zero, List.set_cons_succ])); (refine wpAnyH_take (i := 9) (v := ?_) rfl (by kernel_rfl) (by kernel_rfl) (by kernel_rfl) (fun _ _ _ h => h) (Or.inl ⟨by rfl, ?_⟩) (by assumption) ?_; rotate_left; (focus (intro w hSw; (try dsimp only at hSw); go_simp; (try with_reducible rfl))); (try simp only [List.getElem_toArray, List.getElem_cons_zero, List.getElem_cons_succ, Act.put, List.setIfInBounds_toArray, List.set_cons_zero, List.set_cons_succ])); (refine wpAnyH_take (i := 10) (v := ?_) rfl (by kernel_rfl) (by kernel_rfl) (by kernel_rfl) (fun _ _ _ h => h) (Or.inl ⟨by rfl, ?_⟩) (by assumption) ?_; rotate_left; (focus (intro w hSw; (try dsimp only at hSw); go_simp; (try with_reducible rfl))); (try simp only [List.getElem_toArray, List.getElem_cons_zero, List.getElem_cons_succ, Act.put, List.setIfInBounds_toArray, List.set_cons_zero, List.set_cons_succ])); (refine wpAnyH_take (i := 11) (v := ?_) rfl (by kernel_rfl) (by kernel_rfl) (by kernel_rfl) (fun _ _ _ h => h) (Or.inl ⟨by rfl, ?_⟩) (by assumption) ?_; rotate_left; (focus (intro w hSw; (try dsimp only at hSw); go_simp; (try with_reducible rfl))); (try simp only [List.getElem_toArray, List.getElem_cons_zero, List.getElem_cons_succ, Act.put, List.setIfInBounds_toArray, List.set_cons_zero, List.set_cons_succ])); (refine wpAnyH_take (i := 12) (v := ?_) rfl (by kernel_rfl) (by kernel_rfl) (by kernel_rfl) (fun _ _ _ h => h) (Or.inl ⟨by rfl, ?_⟩) (by assumption) ?_; rotate_left; (focus (intro w hSw; (try dsimp only at hSw); go_simp; (try with_reducible rfl))); (try simp only [List.getElem_toArray, List.getElem_cons_zero, List.getElem_cons_succ, Act.put, List.setIfInBounds_toArray, List.set_cons_zero, List.set_cons_succ])); (refine wpAnyH_take (i := 13) (v := ?_) rfl (by kernel_rfl) (by kernel_rfl) (by kernel_rfl) (fun _ _ _ h => h) (Or.inl ⟨by rfl, ?_⟩) (by assumption) ?_; rotate_left; (focus (intro w hSw; (try dsimp only at hSw); go_simp; (try with_reducible rfl))); (try simp only [List.getElem_toArray, List.getElem_cons_zero, List.getElem_cons_succ, Act.put, List.setIfInBounds_toArray, List.set_cons_zero, List.set_cons_succ])); (refine wpAnyH_take (i := 14) (v := ?_) rfl (by kernel_rfl) (by kernel_rfl) (by kernel_rfl) (fun _ _ _ h => h) (Or.inl ⟨by rfl, ?_⟩) (by assumption) ?_; rotate_left; (focus (intro w hSw; (try dsimp only at hSw); go_simp; (try with_reducible rfl))); (try simp only [List.getElem_toArray, List.getElem_cons_zero, List.getElem_cons_succ, Act.put, List.setIfInBounds_toArray, List.set_cons_zero, List.set_cons_succ])); (refine wpAnyH_take (i := 15) (v := ?_) rfl (by kernel_rfl) (by kernel_rfl) (by kernel_rfl) (fun _ _ _ h => h) (Or.inl ⟨by rfl, ?_⟩) (by assumption) ?_; rotate_left; (focus (intro w hSw; (try dsimp only at hSw); go_simp; (try with_reducible rfl))); (try simp only [List.getElem_toArray, List.getElem_cons_zero, List.getElem_cons_succ, Act.put, List.setIfInBounds_toArray, List.set_cons_zero, List.set_cons_succ])); (refine wpAnyH_take (i := 16) (v := ?_) rfl (by kernel_rfl) (by kernel_rfl) (by kernel_rfl) (fun _ _ _ h => h) (Or.inl ⟨by rfl, ?_⟩) (by assumption) ?_; rotate_left; (focus (intro w hSw; (try dsimp only at hSw); go_simp; (try with_reducible rfl))); (try simp only [List.getElem_toArray, List.getElem_cons_zero, List.getElem_cons_succ, Act.put, List.setIfInBounds_toArray, List.set_cons_zero, List.set_cons_succ])); (refine wpAnyH_take (i := 17) (v := ?_) rfl (by kernel_rfl) (by kernel_rfl) (by kernel_rfl) (fun _ _ _ h => h) (Or.inl ⟨by rfl, ?_⟩) (by assumption) ?_; rotate_left; (focus (intro w hSw; (try dsimp only at hSw); go_simp; (try with_reducible rfl))); (try simp only [List.getElem_toArray, List.getElem_cons_zero, List.getElem_cons_succ, Act.put, List.setIfInBounds_toArray, List.set_cons_zero, List.set_cons_succ])); (refine wpAnyH_take (i := 18) (v := ?_) rfl (by kernel_rfl) (by kernel_rfl) (by kernel_rfl) (fun _ _ _ h => h) (Or.inl ⟨by rfl, ?_⟩) (by assumption) ?_; rotate_left; (focus (intro w hSw; (try dsimp only at hSw); go_simp; (try with_reducible rfl))); (try simp only [List.getElem_toArray, List.getElem_cons_zero, List.getElem_cons_succ, Act.put, List.setIfInBounds_toArray, List.set_cons_zero, List.set_cons_succ])); (refine wpAnyH_take (i := 19) (v := ?_) rfl (by kernel_rfl) (by kernel_rfl) (by kernel_rfl) (fun _ _ _ h => h) (Or.inl ⟨by rfl, ?_⟩) (by assumption) ?_; rotate_left; (focus (intro w hSw; (try dsimp only at hSw); go_simp; (try with_reducible rfl))); (try simp only [List.getElem_toArray, List.getElem_cons_zero, List.getElem_cons_succ, Act.put, List.setIfInBounds_toArray, List.set_cons_zero, List.set_cons_succ])); (refine wpAnyH_take (i := 20) (v := ?_) rfl (by kernel_rfl) (by kernel_rfl) (by kernel_rfl) (fun _ _ _ h => h) (Or.inl ⟨by rfl, ?_⟩) (by assumption) ?_; rotate_left; (focus (intro w hSw; (try dsimp only at hSw); go_simp; (try with_reducible rfl))); (try simp only [List.getElem_toArray, List.getElem_cons_zero, List.getElem_cons_succ, Act.put, List.setIfInBounds_toArray, List.set_cons_zero, List.set_cons_succ])); (refine wpAnyH_take (i := 21) (v := ?_) rfl (by kernel_rfl) (by kernel_rfl) (by kernel_rfl) (fun _ _ _ h => h) (Or.inl ⟨by rfl, ?_⟩) (by assumption) ?_; rotate_left; (focus (intro w hSw; (try dsimp only at hSw); go_simp; (try with_reducible rfl))); (try simp only [List.getElem_toArray, List.getElem_cons_zero, List.getElem_cons_succ, Act.put, List.setIfInBounds_toArray, List.set_cons_zero, List.set_cons_succ])); (refine wpAnyH_take (i := 22) (v := ?_) rfl (by kernel_rfl) (by kernel_rfl) (by kernel_rfl) (fun _ _ _ h => h) (Or.inl ⟨by rfl, ?_⟩) (by assumption) ?_; rotate_left; (focus (intro w hSw; (try dsimp only at hSw); go_simp; (try with_reducible rfl))); (try simp only [List.getElem_toArray, List.getElem_cons_zero, List.getElem_cons_succ, Act.put, List.setIfInBounds_toArray, List.set_cons_zero, List.set_cons_succ])); (refine wpAnyH_take (i := 23) (v := ?_) rfl (by kernel_rfl) (by kernel_rfl) (by kernel_rfl) (fun _ _ _ h => h) (Or.inl ⟨by rfl, ?_⟩) (by assumption) ?_; rotate_left; (focus (intro w hSw; (try dsimp only at hSw); go_simp; (try with_reducible rfl))); (try simp only [List.getElem_toArray, List.getElem_cons_zero, List.getElem_cons_succ, Act.put, List.setIfInBounds_toArray, List.set_cons_zero, List.set_cons_succ])); (refine wpAnyH_take (i := 24) (v := ?_) rfl (by kernel_rfl) (by kernel_rfl) (by kernel_rfl) (fun _ _ _ h => h) (Or.inl ⟨by rfl, ?_⟩) (by assumption) ?_; rotate_left; (focus (intro w hSw; (try dsimp only at hSw); go_simp; (try with_reducible rfl))); (try simp only [List.getElem_toArray, List.getElem_cons_zero, List.getElem_cons_succ, Act.put, List.setIfInBounds_toArray, List.set_cons_zero, List.set_cons_succ])); (refine wpAnyH_take (i := 25) (v := ?_) rfl (by kernel_rfl) (by kernel_rfl) (by kernel_rfl) (fun _ _ _ h => h) (Or.inl ⟨by rfl, ?_⟩) (by assumption) ?_; rotate_left; (focus (intro w hSw; (try dsimp only at hSw); go_simp; (try with_reducible rfl))); (try simp only [List.getElem_toArray, List.getElem_cons_zero, List.getElem_cons_succ, Act.put, List.setIfInBounds_toArray, List.set_cons_zero, List.set_cons_succ])); (refine wpAnyH_take (i := 26) (v := ?_) rfl (by kernel_rfl) (by kernel_rfl) (by kernel_rfl) (fun _ _ _ h => h) (Or.inl ⟨by rfl, ?_⟩) (by assumption) ?_; rotate_left; (focus (intro w hSw; (try dsimp only at hSw); go_simp; (try with_reducible rfl))); (try simp only [List.getElem_toArray, List.getElem_cons_zero, List.getElem_cons_succ, Act.put, List.setIfInBounds_toArray, List.set_cons_zero, List.set_cons_succ])); (refine wpAnyH_take (i := 27) (v := ?_) rfl (by kernel_rfl) (by kernel_rfl) (by kernel_rfl) (fun _ _ _ h => h) (Or.inl ⟨by rfl, ?_⟩) (by assumption) ?_; rotate_left; (focus (intro w hSw; (try dsimp only at hSw); go_simp; (try with_reducible rfl))); (try simp only [List.getElem_toArray, List.getElem_cons_zero, List.getElem_cons_succ, Act.put, List.setIfInBounds_toArray, List.set_cons_zero, List.set_cons_succ])); (refine wpAnyH_take (i := 28) (v := ?_) rfl (by kernel_rfl) (by kernel_rfl) (by kernel_rfl) (fun _ _ _ h => h) (Or.inl ⟨by rfl, ?_⟩) (by assumption) ?_; rotate_left; (focus (intro w hSw; (try dsimp only at hSw); go_simp; (try with_reducible rfl))); (try simp only [List.getElem_toArray, List.getElem_cons_zero, List.getElem_cons_succ, Act.put, List.setIfInBounds_toArray, List.set_cons_zero, List.set_cons_succ])); (refine wpAnyH_take (i := 29) (v := ?_) rfl (by kernel_rfl) (by kernel_rfl) (by kernel_rfl) (fun _ _ _ h => h) (Or.inl ⟨by rfl, ?_⟩) (by assumption) ?_; rotate_left; (focus (intro w hSw; (try dsimp only at hSw); go_simp; (try with_reducible rfl))); (try simp only [List.getElem_toArray, List.getElem_cons_zero, List.getElem_cons_succ, Act.put, List.setIfInBounds_toArray, List.set_cons_zero, List.set_cons_succ])); (refine wpAnyH_take (i := 30) (v := ?_) rfl (by kernel_rfl) (by kernel_rfl) (by kernel_rfl) (fun _ _ _ h => h) (Or.inl ⟨by rfl, ?_⟩) (by assumption) ?_; rotate_left; (focus (intro w hSw; (try dsimp only at hSw); go_simp; (try with_reducible rfl))); (try simp only [List.getElem_toArray, List.getElem_cons_zero, List.getElem_cons_succ, Act.put, List.setIfInBounds_toArray, List.set_cons_zero, List.set_cons_succ])); (refine wpAnyH_take (i := 31) (v := ?_) rfl (by kernel_rfl) (by kernel_rfl) (by kernel_rfl) (fun _ _ _ h => h) (Or.inl ⟨by rfl, ?_⟩) (by assumption) ?_; rotate_left; (focus (intro w hSw; (try dsimp only at hSw); go_simp; (try with_reducible rfl))); (try simp only [List.getElem_toArray, List.getElem_cons_zero, List.getElem_cons_succ, Act.put, List.setIfInBounds_toArray, List.set_cons_zero, List.set_cons_succ])); (refine wpAnyH_take (i := 32) (v := ?_) rfl (by kernel_rfl) (by kernel_rfl) (by kernel_rfl) (fun _ _ _ h => h) (Or.inl ⟨by rfl, ?_⟩) (by assumption) ?_; rotate_left; (focus (intro w hSw; (try dsimp only at hSw); go_simp; (try with_reducible rfl))); (try simp only [List.getElem_toArray, List.getElem_cons_zero, List.getElem_cons_succ, Act.put, List.setIfInBounds_toArray, List.set_cons_zero, List.set_cons_succ])); (refine wpAnyH_take (i := 33) (v := ?_) rfl (by kernel_rfl) (by kernel_rfl) (by kernel_rfl) (fun _ _ _ h => h) (Or.inl ⟨by rfl, ?_⟩) (by assumption) ?_; rotate_left; (focus (intro w hSw; (try dsimp only at hSw); go_simp; (try with_reducible rfl))); (try simp only [List.getElem_toArray, List.getElem_cons_zero, List.getElem_cons_succ, Act.put, List.setIfInBounds_toArray, List.set_cons_zero, List.set_cons_succ])); (refine wpAnyH_take (i := 34) (v := ?_) rfl (by kernel_rfl) (by kernel_rfl) (by kernel_rfl) (fun _ _ _ h => h) (Or.inl ⟨by rfl, ?_⟩) (by assumption) ?_; rotate_left; (focus (intro w hSw; (try dsimp only at hSw); go_simp; (try with_reducible rfl))); (try simp only [List.getElem_toArray, List.getElem_cons_zero, List.getElem_cons_succ, Act.put, List.setIfInBounds_toArray, List.set_cons_zero, List.set_cons_succ])); (refine wpAnyH_take (i := 35) (v := ?_) rfl (by kernel_rfl) (by kernel_rfl) (by kernel_rfl) (fun _ _ _ h => h) (Or.inl ⟨by rfl, ?_⟩) (by assumption) ?_; rotate_left; (focus (intro w hSw; (try dsimp only at hSw); go_simp; (try with_reducible rfl))); (try simp only [List.getElem_toArray, List.getElem_cons_zero, List.getElem_cons_succ, Act.put, List.setIfInBounds_toArray, List.set_cons_zero, List.set_cons_succ])); (refine wpAnyH_take (i := 36) (v := ?_) rfl (by kernel_rfl) (by kernel_rfl) (by kernel_rfl) (fun _ _ _ h => h) (Or.inl ⟨by rfl, ?_⟩) (by assumption) ?_; rotate_left; (focus (intro w hSw; (try dsimp only at hSw); go_simp; (try with_reducible rfl))); (try simp only [List.getElem_toArray, List.getElem_cons_zero, List.getElem_cons_succ, Act.put, List.setIfInBounds_toArray, List.set_cons_zero, List.set_cons_succ])); (refine wpAnyH_take (i := 37) (v := ?_) rfl (by kernel_rfl) (by kernel_rfl) (by kernel_rfl) (fun _ _ _ h => h) (Or.inl ⟨by rfl, ?_⟩) (by assumption) ?_; rotate_left; (focus (intro w hSw; (try dsimp only at hSw); go_simp; (try with_reducible rfl))); (try simp only [List.getElem_toArray, List.getElem_cons_zero, List.getElem_cons_succ, Act.put, List.setIfInBounds_toArray, List.set_cons_zero, List.set_cons_succ])); (refine wpAnyH_take (i := 38) (v := ?_) rfl (by kernel_rfl) (by kernel_rfl) (by kernel_rfl) (fun _ _ _ h => h) (Or.inl ⟨by rfl, ?_⟩) (by assumption) ?_; rotate_left; (focus (intro w hSw; (try dsimp only at hSw); go_simp; (try with_reducible rfl))); (try simp only [List.getElem_toArray, List.getElem_cons_zero, List.getElem_cons_succ, Act.put, List.setIfInBounds_toArray, List.set_cons_zero, List.set_cons_succ])); (refine wpAnyH_take (i := 39) (v := ?_) rfl (by kernel_rfl) (by kernel_rfl) (by kernel_rfl) (fun _ _ _ h => h) (Or.inl ⟨by rfl, ?_⟩) (by assumption) ?_; rotate_left; (focus (intro w hSw; (try dsimp only at hSw); go_simp; (try with_reducible rfl))); (try simp only [List.getElem_toArray, List.getElem_cons_zero, List.getElem_cons_succ, Act.put, List.setIfInBounds_toArray, List.set_cons_zero, List.set_cons_succ])); (refine wpAnyH_take (i := 40) (v := ?_) rfl (by kernel_rfl) (by kernel_rfl) (by kernel_rfl) (fun _ _ _ h => h) (Or.inl ⟨by rfl, ?_⟩) (by assumption) ?_; rotate_left; (focus (intro w hSw; (try dsimp only at hSw); go_simp; (try with_reducible rfl))); (try simp only [List.getElem_toArray, List.getElem_cons_zero, List.getElem_cons_succ, Act.put, List.setIfInBounds_toArray, List.set_cons_zero, List.set_cons_succ])); (refine wpAnyH_take (i := 41) (v := ?_) rfl (by kernel_rfl) (by kernel_rfl) (by kernel_rfl) (fun _ _ _ h => h) (Or.inl ⟨by rfl, ?_⟩) (by assumption) ?_; rotate_left; (focus (intro w hSw; (try dsimp only at hSw); go_simp; (try with_reducible rfl))); (try simp only [List.getElem_toArray, List.getElem_cons_zero, List.getElem_cons_succ, Act.put, List.setIfInBounds_toArray, List.set_cons_zero, List.set_cons_succ])); (refine wpAnyH_take (i := 42) (v := ?_) rfl (by kernel_rfl) (by kernel_rfl) (by kernel_rfl) (fun _ _ _ h => h) (Or.inl ⟨by rfl, ?_⟩) (by assumption) ?_; rotate_left; (focus (intro w hSw; (try dsimp only at hSw); go_simp; (try with_reducible rfl))); (try simp only [List.getElem_toArray, List.getElem_cons_zero, List.getElem_cons_succ, Act.put, List.setIfInBounds_toArray, List.set_cons_zero, List.set_cons_succ])); (refine wpAnyH_take (i := 43) (v := ?_) rfl (by kernel_rfl) (by kernel_rfl) (by kernel_rfl) (fun _ _ _ h => h) (Or.inl ⟨by rfl, ?_⟩) (by assumption) ?_; rotate_left; (focus (intro w hSw; (try dsimp only at hSw); go_simp; (try with_reducible rfl))); (try simp only [List.getElem_toArray, List.getElem_cons_zero, List.getElem_cons_succ, Act.put, List.setIfInBounds_toArray, List.set_cons_zero, List.set_cons_succ])); (refine wpAnyH_take (i := 44) (v := ?_) rfl (by kernel_rfl) (by kernel_rfl) (by kernel_rfl) (fun _ _ _ h => h) (Or.inl ⟨by rfl, ?_⟩) (by assumption) ?_; rotate_left; (focus (intro w hSw; (try dsimp only at hSw); go_simp; (try with_reducible rfl))); (try simp only [List.getElem_toArray, List.getElem_cons_zero, List.getElem_cons_succ, Act.put, List.setIfInBounds_toArray, List.set_cons_zero, List.set_cons_succ])); (refine wpAnyH_take (i := 45) (v := ?_) rfl (by kernel_rfl) (by kernel_rfl) (by kernel_rfl) (fun _ _ _ h => h) (Or.inl ⟨by rfl, ?_⟩) (by assumption) ?_; rotate_left; (focus (intro w hSw; (try dsimp only at hSw); go_simp; (try with_reducible rfl))); (try simp only [List.getElem_toArray, List.getElem_cons_zero, List.getElem_cons_succ, Act.put, List.setIfInBounds_toArray, List.set_cons_zero, List.set_cons_succ])); (refine wpAnyH_take (i := 46) (v := ?_) rfl (by kernel_rfl) (by kernel_rfl) (by kernel_rfl) (fun _ _ _ h => h) (Or.inl ⟨by rfl, ?_⟩) (by assumption) ?_; rotate_left; (focus (intro w hSw; (try dsimp only at hSw); go_simp; (try with_reducible rfl))); (try simp only [List.getElem_toArray, List.getElem_cons_zero, List.getElem_cons_succ, Act.put, List.setIfInBounds_toArray, List.set_cons_zero, List.set_cons_succ])); (refine wpAnyH_take (i := 47) (v := ?_) rfl (by kernel_rfl) (by kernel_rfl) (by kernel_rfl) (fun _ _ _ h => h) (Or.inl ⟨by rfl, ?_⟩) (by assumption) ?_; rotate_left; (focus (intro w hSw; (try dsimp only at hSw); go_simp; (try with_reducible rfl))); (try simp only [List.getElem_toArray, List.getElem_cons_zero, List.getElem_cons_succ, Act.put, List.setIfInBounds_toArray, List.set_cons_zero, List.set_cons_succ])); (refine wpAnyH_take (i := 48) (v := ?_) rfl (by kernel_rfl) (by kernel_rfl) (by kernel_rfl) (fun _ _ _ h => h) (Or.inl ⟨by rfl, ?_⟩) (by assumption) ?_; rotate_left; (focus (intro w hSw; (try dsimp only at hSw); go_simp; (try with_reducible rfl))); (try simp only [List.getElem_toArray, List.getElem_cons_zero, List.getElem_cons_succ, Act.put, List.setIfInBounds_toArray, List.set_cons_zero, List.set_cons_succ])); (refine wpAnyH_take (i := 49) (v := ?_) rfl (by kernel_rfl) (by kernel_rfl) (by kernel_rfl) (fun _ _ _ h => h) (Or.inl ⟨by rfl, ?_⟩) (by assumption) ?_; rotate_left; (focus (intro w hSw; (try dsimp only at hSw); go_simp; (try with_reducible rfl))); (try simp only [List.getElem_toArray, List.getElem_cons_zero, List.getElem_cons_succ, Act.put, List.setIfInBounds_toArray, List.set_cons_zero, List.set_cons_succ])); (refine wpAnyH_take (i := 50) (v := ?_) rfl (by kernel_rfl) (by kernel_rfl) (by kernel_rfl) (fun _ _ _ h => h) (Or.inl ⟨by rfl, ?_⟩) (by assumption) ?_; rotate_left; (focus (intro w hSw; (try dsimp only at hSw); go_simp; (try with_reducible rfl))); (try simp only [List.getElem_toArray, List.getElem_cons_zero, List.getElem_cons_succ, Act.put, List.setIfInBounds_toArray, List.set_cons_zero, List.set_cons_succ])); (refine wpAnyH_take (i := 51) (v := ?_) rfl (by kernel_rfl) (by kernel_rfl) (by kernel_rfl) (fun _ _ _ h => h) (Or.inl ⟨by rfl, ?_⟩) (by assumption) ?_; rotate_left; (focus (intro w hSw; (try dsimp only at hSw); go_simp; (try with_reducible rfl))); (try simp only [List.getElem_toArray, List.getElem_cons_zero, List.getElem_cons_succ, Act.put, List.setIfInBounds_toArray, List.set_cons_zero, List.set_cons_succ])); (refine wpAnyH_take (i := 52) (v := ?_) rfl (by kernel_rfl) (by kernel_rfl) (by kernel_rfl) (fun _ _ _ h => h) (Or.inl ⟨by rfl, ?_⟩) (by assumption) ?_; rotate_left; (focus (intro w hSw; (try dsimp only at hSw); go_simp; (try with_reducible rfl))); (try simp only [List.getElem_toArray, List.getElem_cons_zero, List.getElem_cons_succ, Act.put, List.setIfInBounds_toArray, List.set_cons_zero, List.set_cons_succ])); (refine wpAnyH_take (i := 53) (v := ?_) rfl (by kernel_rfl) (by kernel_rfl) (by kernel_rfl) (fun _ _ _ h => h) (Or.inl ⟨by rfl, ?_⟩) (by assumption) ?_; rotate_left; (focus (intro w hSw; (try dsimp only at hSw); go_simp; (try with_reducible rfl))); (try simp only [List.getElem_toArray, List.getElem_cons_zero, List.getElem_cons_succ, Act.put, List.setIfInBounds_toArray, List.set_cons_zero, List.set_cons_succ])); (refine wpAnyH_take (i := 54) (v := ?_) rfl (by kernel_rfl) (by kernel_rfl) (by kernel_rfl) (fun _ _ _ h => h) (Or.inl ⟨by rfl, ?_⟩) (by assumption) ?_; rotate_left; (focus (intro w hSw; (try dsimp only at hSw); go_simp; (try with_reducible rfl))); (try simp only [List.getElem_toArray, List.getElem_cons_zero, List.getElem_cons_succ, Act.put, List.setIfInBounds_toArray, List.set_cons_zero, List.set_cons_succ])); (refine wpAnyH_take (i := 55) (v := ?_) rfl (by kernel_rfl) (by kernel_rfl) (by kernel_rfl) (fun _ _ _ h => h) (Or.inl ⟨by rfl, ?_⟩) (by assumption) ?_; rotate_left; (focus (intro w hSw; (try dsimp only at hSw); go_simp; (try with_reducible rfl))); (try simp only [List.getElem_toArray, List.getElem_cons_zero, List.getElem_cons_succ, Act.put, List.setIfInBounds_toArray, List.set_cons_zero, List.set_cons_succ])); (refine wpAnyH_take (i := 56) (v := ?_) rfl (by kernel_rfl) (by kernel_rfl) (by kernel_rfl) (fun _ _ _ h => h) (Or.inl ⟨by rfl, ?_⟩) (by assumption) ?_; rotate_left; (focus (intro w hSw; (try dsimp only at hSw); go_simp; (try with_reducible rfl))); (try simp only [List.getElem_toArray, List.getElem_cons_zero, List.getElem_cons_succ, Act.put, List.setIfInBounds_toArray, List.set_cons_zero, List.set_cons_succ])); (refine wpAnyH_take (i := 57) (v := ?_) rfl (by kernel_rfl) (by kernel_rfl) (by kernel_rfl) (fun _ _ _ h => h) (Or.inl ⟨by rfl, ?_⟩) (by assumption) ?_; rotate_left; (focus (intro w hSw; (try dsimp only at hSw); go_simp; (try with_reducible rfl))); (try simp only [List.getElem_toArray, List.getElem_cons_zero, List.getElem_cons_succ, Act.put, List.setIfInBounds_toArray, List.set_cons_zero, List.set_cons_succ])); (refine wpAnyH_take (i := 58) (v := ?_) rfl (by kernel_rfl) (by kernel_rfl) (by kernel_rfl) (fun _ _ _ h => h) (Or.inl ⟨by rfl, ?_⟩) (by assumption) ?_; rotate_left; (focus (intro w hSw; (try dsimp only at hSw); go_simp; (try with_reducible rfl))); (try simp only [List.getElem_toArray, List.getElem_cons_zero, List.getElem_cons_succ, Act.put, List.setIfInBounds_toArray, List.set_cons_zero, List.set_cons_succ])); (refine wpAnyH_take (i := 59) (v := ?_) rfl (by kernel_rfl) (by kernel_rfl) (by kernel_rfl) (fun _ _ _ h => h) (Or.inl ⟨by rfl, ?_⟩) (by assumption) ?_; rotate_left; (focus (intro w hSw; (try dsimp only at hSw); go_simp; (try with_reducible rfl))); (try simp only [List.getElem_toArray, List.getElem_cons_zero, List.getElem_cons_succ, Act.put, List.setIfInBounds_toArray, List.set_cons_zero, List.set_cons_succ]))
      refine wpAnyH_done (by kernel_rfl) ?_ _; clear hHeld
      clear S2 S0d
      go_wp2
      go_roundw
      case rel => exact ⟨j + 1, by have := HJN.out; omega, by go_num, bel HCr.out HB2.out⟩
      case measure => simp [intOf]; have := HJN.out; omega
    · go_wp2_with (first
        | (go_at_call 15; refine (works_any _).mono ?_; rintro e wz ⟨rfl, hbz⟩; (try clear cr); have HBz := Lib.hid (bel HBr.out hbz); have cz := (old_of HBz.out).1; clear hbz))
      go_ret
      exact ⟨rfl, fin HB.out HBz.out⟩

end Go.Proofs.Ytmmadlpkolcgkaa
