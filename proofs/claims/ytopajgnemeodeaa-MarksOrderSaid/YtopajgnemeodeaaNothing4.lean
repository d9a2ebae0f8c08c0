/-
  MarksNothing where all is valid.
-/
import Derived.Test.YtopajgnemeodeaaNothing2
namespace Go.Proofs.Ytopajgnemeodeaa
open Go.RowKit

theorem apart_more {va va' vb : Value} {n : Nat} (hat : va'.ownBlock = va.ownBlock ∨ va'.ownBlock = some n) (h : ∀ g, va.ownBlock = some g → vb.ownBlock ≠ some g) (hlt : ∀ g, vb.ownBlock = some g → g < n) :
    Hid (∀ g, va'.ownBlock = some g → vb.ownBlock ≠ some g) := by
  intro g hg hb
  rcases hat with e | e
  · rw [e] at hg; exact h g hg hb
  · rw [e] at hg
    have := hlt g hb
    injection hg with hg
    omega
theorem apart_back {va vb : Value} (h : ∀ g, va.ownBlock = some g → vb.ownBlock ≠ some g) : Hid (∀ g, vb.ownBlock = some g → va.ownBlock ≠ some g) :=
  fun g hg ha => h g ha hg

theorem nil_apart (u : Value) : Hid (∀ g, (Value.slice none 0 0).ownBlock = some g → u.ownBlock ≠ some g) := by
  intro g hg; cases hg

set_option maxHeartbeats 8000000 in
set_option maxRecDepth 100000 in
theorem nothing_in (N : Nat) (v : Value) (B : Bk) (s t : Nat) (pf pm : Int) (w : World) (h : BookAt N w v B)
    (hr : rdy B R0 = true) (hs : s < B.ns) (ht : t < B.ns) :
    Calls Try.prog 13 #[v, .agg #[.int .i64 s, .int .i64 pf, .int .i64 pm, .int .i64 t]] w fun e w' => e = .returned (.bool true) ∧ Below w.heap.size w w' := by
  have hf := nil_fruits N w
  obtain ⟨s', hs'⟩ : ∃ s' : Int, (s : Int) = s' := ⟨_, rfl⟩
  obtain ⟨t', ht'⟩ : ∃ t' : Int, (t : Int) = t' := ⟨_, rfl⟩
  have h' := h
  obtain ⟨_, a1, c1, a2, c2, a3, c3, rfl, _⟩ := h'
  obtain ⟨ws, hws, HB, hsz, hsz1, hblk, hblk1⟩ := box2 w (.cells #[.slice a1 B.nv c1, .slice a2 B.nf c2, .slice a3 B.ns c3, .int .i64 B.wr] 25) (.cells #[.int .i64 s, .int .i64 pf, .int .i64 pm, .int .i64 t] 42)
  have q0 := cell_blk hblk 0 rfl
  have q1 := cell_blk hblk 1 rfl
  have q2 := cell_blk hblk 2 rfl
  have q3 := cell_blk hblk 3 rfl
  have p0 := cell_blk hblk1 0 rfl
  have p3 := cell_blk hblk1 3 rfl
  obtain ⟨HBF, HB0⟩ := entry HB.out h hf
  clear hblk hblk1 h hf hs' ht' s' t'
  obtain ⟨i0, hi, hz0, hz1, hz2⟩ := info_parts Try.infoInt
  have HNS : Hid (N ≤ ws.heap.size) := HBF.out.1.1
  have HR := Lib.hid hr
  have HOK := Lib.hid (rdy_parts hr).2.1
  have HG := Lib.hid (rdy_parts hr).2.2
  have hnv := HG.out.nv
  have hns := HG.out.ns
  have HS : Hid ((decide (0 ≤ (s : Int)) && decide ((s : Int) < (B.ns : Int))) = true) := by unfold Hid; simp; omega
  have HT : Hid ((decide (0 ≤ (t : Int)) && decide ((t : Int) < (B.ns : Int))) = true) := by unfold Hid; simp; omega
  have HSN := Lib.hid hs
  have HTN := Lib.hid ht
  have hsi : (s : Int) < (B.ns : Int) := by omega
  have hti : (t : Int) < (B.ns : Int) := by omega
  clear hr hs ht
  go_enter Try.func13, Try.ntmps13
  go_wp2_with (first
    | (go_at_call 44; refine (ready_any N _ _ B R0 _ (HBF.out.go HB0.out).1 (HBF.out.go HB0.out).2).mono ?_; rintro e w1 ⟨rfl, hb1⟩; rw [HR.out]; (try clear c0); have HB1 := Lib.hid (bel HB0.out hb1); have c1 := (old_of HB1.out).1; clear hb1)
    | (go_at_call 54; have _t := HB2; refine (isSort_any N _ B t _ (HBF.out.go HB2.out).1).mono ?_; rintro e w3 ⟨rfl, hb3⟩; rw [HT.out]; (try clear c2); have HB3 := Lib.hid (bel HB2.out hb3); have c3 := (old_of HB3.out).1; clear hb3)
    | (go_at_call 54; refine (isSort_any N _ B s _ (HBF.out.go HB1.out).1).mono ?_; rintro e w2 ⟨rfl, hb2⟩; rw [HS.out]; (try clear c1); have HB2 := Lib.hid (bel HB1.out hb2); have c2 := (old_of HB2.out).1; clear hb2))
  clear hws
  go_loopw [5, 6, 7, 8] (fun va vb fl i wr => ∃ k : Nat, k ≤ B.nv ∧ i = .int .i64 k ∧ fl = .bool (cmB B s t k) ∧ Hid (OwnI ws.heap.size wr va (fromF k fun _ => -1)) ∧ Hid (OwnI ws.heap.size wr vb (fromF k fun i => lastv B s t i (B.V i).toNat)) ∧ Hid (∀ g, va.ownBlock = some g → vb.ownBlock ≠ some g) ∧ Hid (Below ws.heap.size ws wr)) (fun _ _ _ i _ => B.nv - (intOf i).toNat)
  case atStart => exact ⟨0, Nat.zero_le _, rfl, rfl, own_nil _ _, own_nil _ _, nil_apart _, HB3.out⟩
  case round =>
    clear c3 HB3
    obtain ⟨k, hk, rfl, rfl, HA, HO, HD, HBr⟩ := hrel
    have cr := (old_of HBr.out).1
    by_cases hkn : k < B.nv
    · obtain ⟨n, hn⟩ : ∃ n : Nat, B.V k = n := ⟨(B.V k).toNat, by have := HG.out.V k hkn; omega⟩
      obtain ⟨b1, o1, rfl, hb1, hv1⟩ := val_at HBF.out.1 hkn
      obtain ⟨b3, o3, cap3, b4, o4, asl, csl, rfl, hb3, hq3, hb4, hq4, HI3, _⟩ := can_at HBF.out.1 HSN.out (i := k) (by rw [HG.out.nc s HSN.out]; exact hkn)
      obtain ⟨b3', o3', cap3', b4', o4', atl, ctl, e3, _, hq3', hb4', hq4', HI4, _⟩ := can_at HBF.out.1 HTN.out (i := k) (by rw [HG.out.nc t HTN.out]; exact hkn)
      cases e3
      have g1 : b1 < ws.heap.size := Nat.lt_of_lt_of_le hb1 HNS.out
      have g3 : b3 < ws.heap.size := Nat.lt_of_lt_of_le hb3 HNS.out
      have g4 : b4 < ws.heap.size := Nat.lt_of_lt_of_le hb4 HNS.out
      have g4' : b4' < ws.heap.size := Nat.lt_of_lt_of_le hb4' HNS.out
      have hki : (k : Int) < (B.nv : Int) := by omega
      have hks : (k : Int) < (B.nc s : Int) := by rw [HG.out.nc s HSN.out]; omega
      have hkt : (k : Int) < (B.nc t : Int) := by rw [HG.out.nc t HTN.out]; omega
      have HNE : Hid ((B.V k).toNat = n) := by unfold Hid; omega
      have hn5 : n ≤ 5 := by have := HG.out.V k hkn; omega
      rw [hn] at hv1
      have HLE : Hid (ws.heap.size ≤ wr.heap.size) := HBr.out.size
      have hla : (fromF k fun _ => -1).length = k := fromF_len _ _
      have hlb : (fromF k fun i => lastv B s t i (B.V i).toNat).length = k := fromF_len _ _
      have hown1 := HA.out
      have HKN := Lib.hid hkn
      unfold OwnI at hown1
      rw [hla] at hown1
      clear hn hb1 hb3 hb4 hb4' hla
      go_wp2_with (first
        | (at_builtin; refine wpList_append_own_at _ rfl (.tmp 43) (.tmp 44) 22 rfl ws.heap.size 3 i0 (.int .i64 0) 1 8 Try.underlying22 hi hz0 hz1 hz2 rfl (by decide) _ _ _ rfl (hown1.alloc _) ⟨wr.heap.size, 0, none⟩ 1 1 [.int .i64 (-1)] rfl rfl (cell_one_new _ _ _) (by simp [Value.oneCell']) (by unfold maxLen; omega) (by omega) (Nat.le_trans HLE.out (by simp)) ?_; intro va' w2 hown2 hgrow2 _ hat2; have HA2 := Lib.hid hown2; have HO2 := Lib.hid (HO.out.beside (below_alloc (Nat.le_refl _) _) hgrow2 HD.out); have HD2 := apart_more hat2 HD.out (fun g hg => Nat.lt_of_lt_of_le (HO.out.lt g hg).2 (Nat.le_of_lt (by simp))); have HB2 : Hid (Below ws.heap.size ws w2) := (HBr.out.alloc HBr.out.size _).grown hgrow2 (Nat.le_trans HBr.out.size (by simp)) (fun j e => (hown1.lt j e).1); clear hown2 hgrow2 hat2 hown1 HO HA HD))
      have hown3 := HO2.out
      unfold OwnI at hown3
      rw [hlb] at hown3
      have HO3 := Lib.hid hown3
      have HLE2 : Hid (ws.heap.size ≤ w2.heap.size) := HB2.out.size
      have c2' := (old_of HB2.out).1
      clear hlb hown3
      go_loop [9, 10] (fun val j => ∃ m : Nat, m ≤ n ∧ j = .int .i64 m ∧ val = .int .i64 (lastv B s t k m)) (fun _ j => n - (intOf j).toNat)
      case atStart => exact ⟨0, Nat.zero_le _, rfl, rfl⟩
      case round =>
        obtain ⟨m, hm, rfl, rfl⟩ := hrel
        by_cases hmn : m < n
        · cases hc1 : cin B s k m with
          | false =>
            have HL : Hid (lastv B s t k (m + 1) = lastv B s t k m) := by unfold Hid; simp [lastv, hc1]
            have HC1 := Lib.hid hc1
            clear hc1
            generalize lastv B s t k m = z at *
            go_wp2_with (first
              | (go_at_call 48; refine (in_any N _ _ _ _ _ (HI3.out.mono (HB2.out.mono HNS.out) (Nat.le_refl _))).mono ?_; rintro e wx ⟨rfl, rfl⟩; rw [show (anyB (B.ncc s k) fun i => decide (B.can s k i = (m : Int))) = false from HC1.out]))
            go_round
            case rel => exact ⟨m + 1, by omega, by go_num, by rw [HL.out]⟩
            case measure => simp [intOf]; omega
          | true =>
            cases hc2 : cin B t k m with
            | false =>
              have HL : Hid (lastv B s t k (m + 1) = lastv B s t k m) := by unfold Hid; simp [lastv, hc2]
              have HC1 := Lib.hid hc1
              have HC2 := Lib.hid hc2
              clear hc1 hc2
              generalize lastv B s t k m = z at *
              go_wp2_with (first
                | (go_at_call 48; have _t := HF1; refine (in_any N _ _ _ _ _ (HI4.out.mono (HB2.out.mono HNS.out) (Nat.le_refl _))).mono ?_; rintro e wx ⟨rfl, rfl⟩; rw [show (anyB (B.ncc t k) fun i => decide (B.can t k i = (m : Int))) = false from HC2.out])
                | (go_at_call 48; refine (in_any N _ _ _ _ _ (HI3.out.mono (HB2.out.mono HNS.out) (Nat.le_refl _))).mono ?_; rintro e wx ⟨rfl, rfl⟩; rw [show (anyB (B.ncc s k) fun i => decide (B.can s k i = (m : Int))) = true from HC1.out]; have HF1 : Hid True := trivial))
              go_round
              case rel => exact ⟨m + 1, by omega, by go_num, by rw [HL.out]⟩
              case measure => simp [intOf]; omega
            | true =>
              have HL : Hid (lastv B s t k (m + 1) = (m : Int)) := by unfold Hid; simp [lastv, hc1, hc2]
              have HC1 := Lib.hid hc1
              have HC2 := Lib.hid hc2
              clear hc1 hc2
              generalize lastv B s t k m = z at *
              go_wp2_with (first
                | (go_at_call 48; have _t := HF1; refine (in_any N _ _ _ _ _ (HI4.out.mono (HB2.out.mono HNS.out) (Nat.le_refl _))).mono ?_; rintro e wx ⟨rfl, rfl⟩; rw [show (anyB (B.ncc t k) fun i => decide (B.can t k i = (m : Int))) = true from HC2.out])
                | (go_at_call 48; refine (in_any N _ _ _ _ _ (HI3.out.mono (HB2.out.mono HNS.out) (Nat.le_refl _))).mono ?_; rintro e wx ⟨rfl, rfl⟩; rw [show (anyB (B.ncc s k) fun i => decide (B.can s k i = (m : Int))) = true from HC1.out]; have HF1 : Hid True := trivial))
              go_round
              case rel => exact ⟨m + 1, by omega, by go_num, by rw [HL.out]⟩
              case measure => simp [intOf]; omega
        · have hme : m = n := by omega
          subst hme
          have HLS : Hid (lastv B s t k m = lastv B s t k (B.V k).toNat) := by unfold Hid; rw [HNE.out]
          have hlv := lastv_ne B s t k m
          have HCB := Lib.hid (cmB_suc B s t k)
          rw [HNE.out] at HCB
          clear hm
          cases hcb : cmB B s t k
          all_goals
            cases hcm : cmn B s t k m
            all_goals
              rw [hcb, hcm] at HCB
              rw [hcm] at hlv
              have HBB := HB2
              clear hcb hcm
              generalize lastv B s t k m = z at *
              go_wp2_with (first
                | (at_builtin; refine wpList_append_own_at _ rfl (.tmp 87) (.tmp 89) 22 rfl ws.heap.size 3 i0 (.int .i64 0) 1 8 Try.underlying22 hi hz0 hz1 hz2 rfl (by decide) _ _ _ rfl (HO3.out.alloc _) ⟨w2.heap.size, 0, none⟩ 1 1 [.int .i64 z] rfl rfl (cell_one_new _ _ _) (by simp [Value.oneCell']) (by unfold maxLen; omega) (by omega) (Nat.le_trans HLE2.out (by simp)) ?_; intro vb' w4 hown4 hgrow4 _ hat4; have HA4 : Hid (OwnI ws.heap.size w4 va' (fromF (k + 1) fun _ => -1)) := (OwnI.beside (by unfold OwnI; rw [fromF_suc, List.length_append, fromF_len, List.map_append]; exact HA2.out) (below_alloc (Nat.le_refl _) _) hgrow4 (apart_back HD2.out)); have HO4 : Hid (OwnI ws.heap.size w4 vb' (fromF (k + 1) fun i => lastv B s t i (B.V i).toNat)) := (by unfold Hid OwnI; rw [fromF_suc, List.length_append, fromF_len, List.map_append, ← HLS.out]; exact hown4); have HD4 := apart_back (apart_more hat4 (apart_back HD2.out) (fun g hg => Nat.lt_of_lt_of_le (HA2.out.lt g hg).2 (Nat.le_of_lt (by simp)))).out; have HB4 : Hid (Below ws.heap.size ws w4) := (HBB.out.alloc HBB.out.size _).grown hgrow4 (Nat.le_trans HBB.out.size (by simp)) (fun j e => (HO3.out.lt j e).1); clear hown4 hgrow4 hat4))
              go_roundw
              case rel => exact ⟨k + 1, by have := HKN.out; omega, by go_num, by rw [HCB.out]; rfl, HA4, HO4, HD4, HB4⟩
              case measure => simp [intOf]; have := HKN.out; omega
    · have hke : k = B.nv := by omega
      subst hke
      have HBr' := HBr
      obtain ⟨⟨a5, c5, rfl⟩, hi5⟩ := HA.out.from (by omega)
      obtain ⟨⟨a6, c6, rfl⟩, hi6⟩ := HO.out.from (by omega)
      have HI5 := Lib.hid hi5
      have HI6 := Lib.hid hi6
      clear HA HO HD hi5 hi6 hk hkn
      obtain ⟨ls, hls⟩ : ∃ l, sorts B (notR 2 B.nv) = l := ⟨_, rfl⟩
      have hll : ls.length = B.ns := by rw [← hls]; exact sorts_not HG.out
      have HE1 : Hid (eSorts B (notR 2 B.nv) = (ls, 0)) := by unfold Hid; rw [eSorts_ok (chk_not HOK.out (by omega)), hls, if_neg (by have := HSN.out; omega)]
      obtain ⟨lt, hlt⟩ : ∃ l, twinsL B s = l := ⟨_, rfl⟩
      have HE2 : Hid (eTwins B (s : Int) = (lt, 0)) := by unfold Hid eTwins; rw [if_neg (by rw [HOK.out]; simp), if_neg (by rw [HS.out]; simp), Int.toNat_natCast, hlt]
      have hltl : lt.length ≤ B.ns := by rw [← hlt]; exact sel_len _ _
      have HE3 : Hid (eWrong B (oneR B.nv fun _ => -1) (s : Int) = (0, 0)) := by
        unfold Hid
        have e : oneR B.nv (fun _ => -1) = notR 1 B.nv := rfl
        rw [e, eWrong_ok (chk_not HOK.out (by omega)) HSN.out, wrong_not HG.out HSN.out]; rfl
      obtain ⟨tw, htw⟩ : ∃ b, twinB B s t = b := ⟨_, rfl⟩
      obtain ⟨cb, hcb⟩ : ∃ b, cmB B s t B.nv = b := ⟨_, rfl⟩
      obtain ⟨df, hdf⟩ : ∃ b, ((s : Int) != (t : Int)) = b := ⟨_, rfl⟩
      have HTW : Hid ((anyB lt.length fun i => decide (lt.getD i 0 = (t : Int))) = tw) := by unfold Hid; rw [← hlt, ← htw]; exact sel_in _ HTN.out
      have HTC : Hid (tw = (cb && df)) := by unfold Hid; rw [← htw, twin_cm HG.out HSN.out, hcb, hdf]
      have HE4 : Hid (cb = true → eWrong B (oneR B.nv fun i => lastv B s t i (B.V i).toNat) (s : Int) = (0, 0) ∧ eWrong B (oneR B.nv fun i => lastv B s t i (B.V i).toNat) (t : Int) = (0, 0)) := fun hh => by
        have hw := wrong_both HG.out HSN.out HTN.out (hcb.trans hh)
        exact ⟨by rw [eWrong_ok (chk_both HOK.out HG.out) HSN.out, hw.1]; rfl, by rw [eWrong_ok (chk_both HOK.out HG.out) HTN.out, hw.2]; rfl⟩
      have hli : ((ls.length : Int) != (B.ns : Int)) = false := by simp [hll]
      have hltli : (lt.length : Int) ≤ (B.ns : Int) := by omega
      have HBD : Hid (lt.length ≤ 140737488351232) := by unfold Hid; omega
      rw [hcb]
      clear hls hll hlt hltl htw hcb
      have Srd := old_of HBr.out.drew; have HBrd := Srd.2
      go_upto_region 17 with fail
      go_cut [11, 12] (fun sl er wx => (∃ ao cap, sl = .slice ao ls.length cap) ∧ er = .int .i64 0 ∧ Hid (Below wr.heap.size wr wx) ∧ Hid (Below ws.heap.size ws wx))
      case first =>
        refine wp_region_held_drew (S := (fun w' => (∀ b o, b < ws.heap.size → w'.cell? ⟨b, o, none⟩ = ws.cell? ⟨b, o, none⟩) ∧ Hid (Below ws.heap.size ws w'))) (by kernel_rfl) Srd (fun hHeld => ?_)
        (refine wpAnyH_take (i := 0) (v := ?_) rfl (by kernel_rfl) (by kernel_rfl) (by kernel_rfl) (fun _ _ _ h => h) (Or.inl ⟨by rfl, ?_⟩) (by assumption) ?_; rotate_left; (focus (intro w hSw; (try dsimp only at hSw); go_simp; (try with_reducible rfl))); (try simp only [List.getElem_toArray, List.getElem_cons_zero, List.getElem_cons_succ, Act.put, List.setIfInBounds_toArray, List.set_cons_zero, List.set_cons_succ]))
        (refine wpAnyH_take (i := 2) (v := ?_) rfl (by kernel_rfl) (by kernel_rfl) (by kernel_rfl) (fun _ _ _ h => h) (Or.inl ⟨by rfl, ?_⟩) (by assumption) ?_; rotate_left; (focus (intro w hSw; (try dsimp only at hSw); go_simp; (try with_reducible rfl))); (try simp only [List.getElem_toArray, List.getElem_cons_zero, List.getElem_cons_succ, Act.put, List.setIfInBounds_toArray, List.set_cons_zero, List.set_cons_succ]))
        (refine wpAnyH_take (i := 4) (v := ?_) rfl (by kernel_rfl) (by kernel_rfl) (by kernel_rfl) (fun _ _ _ h => h) (Or.inl ⟨by rfl, ?_⟩) (by assumption) ?_; rotate_left; (focus (intro w hSw; (try dsimp only at hSw); go_simp; (try with_reducible rfl))); (try simp only [List.getElem_toArray, List.getElem_cons_zero, List.getElem_cons_succ, Act.put, List.setIfInBounds_toArray, List.set_cons_zero, List.set_cons_succ]))
        refine wpAnyH_ready (rs := [1]) (by kernel_rfl) (by simp) ?_; refine AllReadyH.cons rfl (fun K hK => ?_) AllReadyH.nil; go_simp
        obtain ⟨w3, hw3⟩ : ∃ w3 : World, (wr.alloc (.cells #[] 3)).drew = w3 := ⟨_, rfl⟩
        rw [hw3]
        have hb3 : Below wr.heap.size wr w3 := (by rw [← hw3]; exact (below_alloc (Nat.le_refl _) _).drew)
        have S3 := old_of (bel HBr.out hb3)
        have HB3 := S3.2
        have HC3 := Lib.hid hb3
        clear hw3 hb3
        refine hK.out _ _ S3 (fun hHeld => ?_); clear hK K; (try simp only [List.getElem_toArray, List.getElem_cons_zero, List.getElem_cons_succ, Act.put, List.setIfInBounds_toArray, List.set_cons_zero, List.set_cons_succ])
        refine wpAnyH_ready (rs := [3]) (by kernel_rfl) (by simp) ?_; refine AllReadyH.cons rfl (fun K hK => ?_) AllReadyH.nil; rw [if_pos (by rfl)]
        refine wp_clone _ (.tmp 93) (.tmp 94) rfl rfl wr.heap.size _ _ B.nv _ (fun _ => -1) rfl rfl (IntsAt.mono HI5.out HC3.out (Nat.le_refl _)) (by omega) ?_
        intro v4 w4 hrow4 hb4
        obtain ⟨g4, p4, rfl⟩ := hrow4.form
        have HRW := Lib.hid (hrow4.ints (by omega))
        have HC4 := Lib.hid (bel HC3.out hb4)
        have S4 := old_of (bel HB3.out hb4)
        have HB4 := S4.2
        clear hrow4 hb4
        refine hK.out _ _ S4 (fun hHeld => ?_); clear hK K; (try simp only [List.getElem_toArray, List.getElem_cons_zero, List.getElem_cons_succ, Act.put, List.setIfInBounds_toArray, List.set_cons_zero, List.set_cons_succ])
        refine wpAnyH_ready (rs := [5]) (by kernel_rfl) (by simp) ?_; refine AllReadyH.cons rfl (fun K hK => ?_) AllReadyH.nil; go_simp
        obtain ⟨w5, hw5⟩ : ∃ w5 : World, w4.alloc (.cells #[.slice (some ⟨g4, 0, none⟩) B.nv p4, .slice a5 B.nv c5] 22) = w5 := ⟨_, rfl⟩
        rw [hw5]
        have hb5 : Below w4.heap.size w4 w5 := (by rw [← hw5]; exact below_alloc (Nat.le_refl _) _)
        have HFR : Hid (FruitsAt w5.heap.size w5 (.slice (some ⟨w4.heap.size, 0, none⟩) 2 2) (notR 2 B.nv)) := (by rw [← hw5]; exact two_rows HRW.out (IntsAt.mono HI5.out HC4.out HC4.out.size))
        have S5 := old_of (bel HB4.out hb5)
        have HB5 := S5.2
        have HC5 := Lib.hid (bel HC4.out hb5)
        clear hw5 hb5
        refine hK.out _ _ S5 (fun hHeld => ?_); clear hK K; (try simp only [List.getElem_toArray, List.getElem_cons_zero, List.getElem_cons_succ, Act.put, List.setIfInBounds_toArray, List.set_cons_zero, List.set_cons_succ])
        refine wpAnyH_ready (rs := [6]) (by kernel_rfl) (by simp) ?_; refine AllReadyH.cons rfl (fun K hK => ?_) AllReadyH.nil; go_simp
        go_at_call 26
        refine (mSorts_any w5.heap.size _ _ B (notR 2 B.nv) _ ((HBF.out.go HB5.out).1.raise (HBF.out.go HB5.out).1.1 (Nat.le_refl _)) HFR.out).mono ?_
        rintro e w6 ⟨u6, rfl, hu6, hb6⟩
        rw [HE1.out] at hu6
        rw [HE1.out]
        obtain ⟨ao6, co6, rfl⟩ := hu6.form
        have S6 := old_of (bel HB5.out hb6)
        have HB6 := S6.2
        have HC6 := Lib.hid (bel HC5.out hb6)
        clear hu6 hb6
        refine hK.out _ _ S6 (fun hHeld => ?_); clear hK K; (try simp only [List.getElem_toArray, List.getElem_cons_zero, List.getElem_cons_succ, Act.put, List.setIfInBounds_toArray, List.set_cons_zero, List.set_cons_succ])
        (refine wpAnyH_take (i := 7) (v := ?_) rfl (by kernel_rfl) (by kernel_rfl) (by kernel_rfl) (fun _ _ _ h => h) (Or.inl ⟨by rfl, ?_⟩) (by assumption) ?_; rotate_left; (focus (intro w hSw; (try dsimp only at hSw); go_simp; (try with_reducible rfl))); (try simp only [List.getElem_toArray, List.getElem_cons_zero, List.getElem_cons_succ, Act.put, List.setIfInBounds_toArray, List.set_cons_zero, List.set_cons_succ])); (refine wpAnyH_take (i := 8) (v := ?_) rfl (by kernel_rfl) (by kernel_rfl) (by kernel_rfl) (fun _ _ _ h => h) (Or.inl ⟨by rfl, ?_⟩) (by assumption) ?_; rotate_left; (focus (intro w hSw; (try dsimp only at hSw); go_simp; (try with_reducible rfl))); (try simp only [List.getElem_toArray, List.getElem_cons_zero, List.getElem_cons_succ, Act.put, List.setIfInBounds_toArray, List.set_cons_zero, List.set_cons_succ])); (refine wpAnyH_take (i := 9) (v := ?_) rfl (by kernel_rfl) (by kernel_rfl) (by kernel_rfl) (fun _ _ _ h => h) (Or.inl ⟨by rfl, ?_⟩) (by assumption) ?_; rotate_left; (focus (intro w hSw; (try dsimp only at hSw); go_simp; (try with_reducible rfl))); (try simp only [List.getElem_toArray, List.getElem_cons_zero, List.getElem_cons_succ, Act.put, List.setIfInBounds_toArray, List.set_cons_zero, List.set_cons_succ])); (refine wpAnyH_take (i := 10) (v := ?_) rfl (by kernel_rfl) (by kernel_rfl) (by kernel_rfl) (fun _ _ _ h => h) (Or.inl ⟨by rfl, ?_⟩) (by assumption) ?_; rotate_left; (focus (intro w hSw; (try dsimp only at hSw); go_simp; (try with_reducible rfl))); (try simp only [List.getElem_toArray, List.getElem_cons_zero, List.getElem_cons_succ, Act.put, List.setIfInBounds_toArray, List.set_cons_zero, List.set_cons_succ])); (refine wpAnyH_take (i := 11) (v := ?_) rfl (by kernel_rfl) (by kernel_rfl) (by kernel_rfl) (fun _ _ _ h => h) (Or.inl ⟨by rfl, ?_⟩) (by assumption) ?_; rotate_left; (focus (intro w hSw; (try dsimp only at hSw); go_simp; (try with_reducible rfl))); (try simp only [List.getElem_toArray, List.getElem_cons_zero, List.getElem_cons_succ, Act.put, List.setIfInBounds_toArray, List.set_cons_zero, List.set_cons_succ]))
        refine wpAnyH_done (by kernel_rfl) ?_ _; clear hHeld
        go_wp2_with fail
        go_meet
        exact ⟨⟨_, _, rfl⟩, rfl, HC6, HB6⟩
      case rest =>
      obtain ⟨⟨ao6, co6, rfl⟩, rfl, HC6, HB6⟩ := hcut
      clear cr
      have c6 := (old_of HB6.out).1
      go_upto_region 20 with (first
        | (go_at_call 42; refine (mTwins_any N _ B (s : Int) _ (HBF.out.go HB6.out).1).mono ?_; rintro e w7 ⟨u7, rfl, hu7, hb7⟩; rw [HE2.out] at hu7; rw [HE2.out]; obtain ⟨ao7, co7, rfl⟩ := hu7.form; have HU7 := Lib.hid hu7; have HC7 := Lib.hid (bel HC6.out hb7); clear hu7; (try clear c6); have HB7 := Lib.hid (bel HB6.out hb7); have c7 := (old_of HB7.out).1; clear hb7; have hsz7 := Nat.lt_of_lt_of_le hsz HB7.out.size; have hsz7b := Nat.lt_of_lt_of_le hsz1 HB7.out.size)
        | (go_at_call 20; refine (mWrong_any _ _ _ B (oneR B.nv fun _ => -1) (s : Int) _ (BookAt.raise (HBF.out.go (bel HB7.out (below_alloc (Nat.le_refl _) _))).1 (Nat.le_trans HNS.out (bel HB7.out (below_alloc (Nat.le_refl _) _)).size) (Nat.le_refl _)) (one_row (IntsAt.mono HI5.out HC7.out HC7.out.size))).mono ?_; rintro e w8 ⟨rfl, hb8⟩; rw [HE3.out]; replace hb8 := (below_alloc (Nat.le_refl _) _).trans (hb8.mono (Nat.le_of_lt (by simp)) : Below w7.heap.size _ w8); have HC8 := Lib.hid (bel HC7.out hb8); have HU8 := Lib.hid (own_below HU7.out hb8 : OwnI _ _ _ _); (try clear c7); have HB8 := Lib.hid (bel HB7.out hb8); have c8 := (old_of HB8.out).1; clear hb8))
      cases cb
      · cases df
        all_goals
          obtain rfl : tw = false := HTC.out
          go_wp2_with (first
            | (go_at_call 48; refine (in_any _ _ _ _ _ _ (OwnI.ints (l := lt) HU8.out HBD.out)).mono ?_; rintro e wx ⟨rfl, rfl⟩; rw [HTW.out])
            | (go_at_call 15; refine (works_any _).mono ?_; rintro e w9 ⟨rfl, hb9⟩; (try clear c8); have HB9 := Lib.hid (bel HB8.out hb9); have c9 := (old_of HB9.out).1; clear hb9))
          go_ret
          exact ⟨rfl, fin HB.out HB9.out⟩
      · have HE5 := Lib.hid (HE4.out rfl).1
        have HE6 := Lib.hid (HE4.out rfl).2
        clear HE4
        cases df
        all_goals
          obtain rfl := HTC.out
          go_upto_region 24 with (go_at_call 48; refine (in_any _ _ _ _ _ _ (OwnI.ints (l := lt) HU8.out HBD.out)).mono ?_; rintro e wx ⟨rfl, rfl⟩; rw [HTW.out])
          have S8d := old_of HB8.out.drew; have HB8d := S8d.2
          refine wp_region_held_drew (S := (fun w' => (∀ b o, b < ws.heap.size → w'.cell? ⟨b, o, none⟩ = ws.cell? ⟨b, o, none⟩) ∧ Hid (Below ws.heap.size ws w'))) (by kernel_rfl) S8d (fun hHeld => ?_)
          (refine wpAnyH_take (i := 0) (v := ?_) rfl (by kernel_rfl) (by kernel_rfl) (by kernel_rfl) (fun _ _ _ h => h) (Or.inl ⟨by rfl, ?_⟩) (by assumption) ?_; rotate_left; (focus (intro w hSw; (try dsimp only at hSw); go_simp; (try with_reducible rfl))); (try simp only [List.getElem_toArray, List.getElem_cons_zero, List.getElem_cons_succ, Act.put, List.setIfInBounds_toArray, List.set_cons_zero, List.set_cons_succ]))
          (refine wpAnyH_take (i := 2) (v := ?_) rfl (by kernel_rfl) (by kernel_rfl) (by kernel_rfl) (fun _ _ _ h => h) (Or.inl ⟨by rfl, ?_⟩) (by assumption) ?_; rotate_left; (focus (intro w hSw; (try dsimp only at hSw); go_simp; (try with_reducible rfl))); (try simp only [List.getElem_toArray, List.getElem_cons_zero, List.getElem_cons_succ, Act.put, List.setIfInBounds_toArray, List.set_cons_zero, List.set_cons_succ]))
          (refine wpAnyH_take (i := 5) (v := ?_) rfl (by kernel_rfl) (by kernel_rfl) (by kernel_rfl) (fun _ _ _ h => h) (Or.inl ⟨by rfl, ?_⟩) (by assumption) ?_; rotate_left; (focus (intro w hSw; (try dsimp only at hSw); go_simp; (try with_reducible rfl))); (try simp only [List.getElem_toArray, List.getElem_cons_zero, List.getElem_cons_succ, Act.put, List.setIfInBounds_toArray, List.set_cons_zero, List.set_cons_succ])); (refine wpAnyH_take (i := 6) (v := ?_) rfl (by kernel_rfl) (by kernel_rfl) (by kernel_rfl) (fun _ _ _ h => h) (Or.inl ⟨by rfl, ?_⟩) (by assumption) ?_; rotate_left; (focus (intro w hSw; (try dsimp only at hSw); go_simp; (try with_reducible rfl))); (try simp only [List.getElem_toArray, List.getElem_cons_zero, List.getElem_cons_succ, Act.put, List.setIfInBounds_toArray, List.set_cons_zero, List.set_cons_succ]))
          refine wpAnyH_ready (rs := [1]) (by kernel_rfl) (by simp) ?_; refine AllReadyH.cons rfl (fun K hK => ?_) AllReadyH.nil; go_simp
          obtain ⟨w9, hw9⟩ : ∃ w9 : World, (wx.alloc (.cells #[] 3)).drew = w9 := ⟨_, rfl⟩
          rw [hw9]
          have hb9 : Below wx.heap.size wx w9 := (by rw [← hw9]; exact (below_alloc (Nat.le_refl _) _).drew)
          have S9 := old_of (bel HB8.out hb9)
          have HB9 := S9.2
          have HC9 := Lib.hid (bel HC8.out hb9)
          clear hw9 hb9
          refine hK.out _ _ S9 (fun hHeld => ?_); clear hK K; (try simp only [List.getElem_toArray, List.getElem_cons_zero, List.getElem_cons_succ, Act.put, List.setIfInBounds_toArray, List.set_cons_zero, List.set_cons_succ])
          refine wpAnyH_ready (rs := [3]) (by kernel_rfl) (by simp) ?_; refine AllReadyH.cons rfl (fun K hK => ?_) AllReadyH.nil; rw [if_pos (by rfl)]
          refine wp_clone _ (.tmp 167) (.tmp 168) rfl rfl wr.heap.size _ _ B.nv _ _ rfl rfl (IntsAt.mono HI6.out HC9.out (Nat.le_refl _)) (by omega) ?_
          intro vA wA hrowA hbA
          obtain ⟨gA, pA, rfl⟩ := hrowA.form
          have HRW := Lib.hid (hrowA.ints (by omega))
          have HCA := Lib.hid (bel HC9.out hbA)
          have SA := old_of (bel HB9.out hbA)
          have HBA := SA.2
          clear hrowA hbA
          refine hK.out _ _ SA (fun hHeld => ?_); clear hK K; (try simp only [List.getElem_toArray, List.getElem_cons_zero, List.getElem_cons_succ, Act.put, List.setIfInBounds_toArray, List.set_cons_zero, List.set_cons_succ])
          refine wpAnyH_ready (rs := [4]) (by kernel_rfl) (by simp) ?_; refine AllReadyH.cons rfl (fun K hK => ?_) AllReadyH.nil; go_simp
          obtain ⟨wD, hwD⟩ : ∃ wD : World, wA.alloc (.cells #[.slice (some ⟨gA, 0, none⟩) B.nv pA] 22) = wD := ⟨_, rfl⟩
          rw [hwD]
          have hbD : Below wA.heap.size wA wD := (by rw [← hwD]; exact below_alloc (Nat.le_refl _) _)
          have HFR : Hid (FruitsAt wD.heap.size wD (.slice (some ⟨wA.heap.size, 0, none⟩) 1 1) (oneR B.nv fun i => lastv B s t i (B.V i).toNat)) := (by rw [← hwD]; exact one_row HRW.out)
          have SD := old_of (bel HBA.out hbD)
          have HBD2 := SD.2
          have HCD := Lib.hid (bel HCA.out hbD)
          clear hwD hbD
          refine hK.out _ _ SD (fun hHeld => ?_); clear hK K; (try simp only [List.getElem_toArray, List.getElem_cons_zero, List.getElem_cons_succ, Act.put, List.setIfInBounds_toArray, List.set_cons_zero, List.set_cons_succ])
          refine wpAnyH_ready (rs := [7]) (by kernel_rfl) (by simp) ?_; refine AllReadyH.cons rfl (fun K hK => ?_) AllReadyH.nil; go_simp
          go_at_call 20
          refine (mWrong_any wD.heap.size _ _ B (oneR B.nv fun i => lastv B s t i (B.V i).toNat) (s : Int) _ ((HBF.out.go HBD2.out).1.raise (HBF.out.go HBD2.out).1.1 (Nat.le_refl _)) HFR.out).mono ?_
          rintro e wE ⟨rfl, hbE⟩
          rw [HE5.out]
          have SE := old_of (bel HBD2.out hbE)
          have HBE := SE.2
          have HCE := Lib.hid (bel HCD.out hbE)
          clear hbE
          refine hK.out _ _ SE (fun hHeld => ?_); clear hK K; (try simp only [List.getElem_toArray, List.getElem_cons_zero, List.getElem_cons_succ, Act.put, List.setIfInBounds_toArray, List.set_cons_zero, List.set_cons_succ])
          (refine wpAnyH_take (i := 8) (v := ?_) rfl (by kernel_rfl) (by kernel_rfl) (by kernel_rfl) (fun _ _ _ h => h) (Or.inl ⟨by rfl, ?_⟩) (by assumption) ?_; rotate_left; (focus (intro w hSw; (try dsimp only at hSw); go_simp; (try with_reducible rfl))); (try simp only [List.getElem_toArray, List.getElem_cons_zero, List.getElem_cons_succ, Act.put, List.setIfInBounds_toArray, List.set_cons_zero, List.set_cons_succ])); (refine wpAnyH_take (i := 9) (v := ?_) rfl (by kernel_rfl) (by kernel_rfl) (by kernel_rfl) (fun _ _ _ h => h) (Or.inl ⟨by rfl, ?_⟩) (by assumption) ?_; rotate_left; (focus (intro w hSw; (try dsimp only at hSw); go_simp; (try with_reducible rfl))); (try simp only [List.getElem_toArray, List.getElem_cons_zero, List.getElem_cons_succ, Act.put, List.setIfInBounds_toArray, List.set_cons_zero, List.set_cons_succ])); (refine wpAnyH_take (i := 10) (v := ?_) rfl (by kernel_rfl) (by kernel_rfl) (by kernel_rfl) (fun _ _ _ h => h) (Or.inl ⟨by rfl, ?_⟩) (by assumption) ?_; rotate_left; (focus (intro w hSw; (try dsimp only at hSw); go_simp; (try with_reducible rfl))); (try simp only [List.getElem_toArray, List.getElem_cons_zero, List.getElem_cons_succ, Act.put, List.setIfInBounds_toArray, List.set_cons_zero, List.set_cons_succ])); (refine wpAnyH_take (i := 11) (v := ?_) rfl (by kernel_rfl) (by kernel_rfl) (by kernel_rfl) (fun _ _ _ h => h) (Or.inl ⟨by rfl, ?_⟩) (by assumption) ?_; rotate_left; (focus (intro w hSw; (try dsimp only at hSw); go_simp; (try with_reducible rfl))); (try simp only [List.getElem_toArray, List.getElem_cons_zero, List.getElem_cons_succ, Act.put, List.setIfInBounds_toArray, List.set_cons_zero, List.set_cons_succ])); (refine wpAnyH_take (i := 12) (v := ?_) rfl (by kernel_rfl) (by kernel_rfl) (by kernel_rfl) (fun _ _ _ h => h) (Or.inl ⟨by rfl, ?_⟩) (by assumption) ?_; rotate_left; (focus (intro w hSw; (try dsimp only at hSw); go_simp; (try with_reducible rfl))); (try simp only [List.getElem_toArray, List.getElem_cons_zero, List.getElem_cons_succ, Act.put, List.setIfInBounds_toArray, List.set_cons_zero, List.set_cons_succ]))
          refine wpAnyH_done (by kernel_rfl) ?_ _; clear hHeld
          have cE := SE.1
          have hszE := Nat.lt_of_lt_of_le hsz HBE.out.size
          have hszEb := Nat.lt_of_lt_of_le hsz1 HBE.out.size
          clear SE SD SA S9 S8d
          go_wp2_with (first
            | (go_at_call 20; refine (mWrong_any _ _ _ B (oneR B.nv fun i => lastv B s t i (B.V i).toNat) (t : Int) _ (BookAt.raise (HBF.out.go (bel HBE.out (below_alloc (Nat.le_refl _) _))).1 (Nat.le_trans HNS.out (bel HBE.out (below_alloc (Nat.le_refl _) _)).size) (Nat.le_refl _)) (one_row (IntsAt.mono HI6.out HCE.out HCE.out.size))).mono ?_; rintro e wF ⟨rfl, hbF⟩; rw [HE6.out]; replace hbF := (below_alloc (Nat.le_refl _) _).trans (hbF.mono (Nat.le_of_lt (by simp)) : Below wE.heap.size _ wF); (try clear cE); have HBF := Lib.hid (bel HBE.out hbF); have cF := (old_of HBF.out).1; clear hbF)
            | (go_at_call 15; refine (works_any _).mono ?_; rintro e wG ⟨rfl, hbG⟩; (try clear cF); have HBG := Lib.hid (bel HBF.out hbG); have cG := (old_of HBG.out).1; clear hbG))
          go_ret
          exact ⟨rfl, fin HB.out HBG.out⟩

end Go.Proofs.Ytopajgnemeodeaa
