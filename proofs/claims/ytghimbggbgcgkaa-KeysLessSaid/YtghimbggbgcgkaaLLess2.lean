/-
  LLess2: KeysLess, what is asked about.
-/
import Derived.Test.YtghimbggbgcgkaaLBox
namespace Go.Proofs.Ytghimbggbgcgkaa
open Go.RowKit

set_option maxHeartbeats 20000000 in
set_option maxRecDepth 100000 in
theorem cless_in (N : Nat) (v : Value) (B : KB) (s m : Nat) (w : World) (h : BookAt N w v B)
    (hrd : readyB B = true) (hs : s < B.ns) (hm : m < 2 ^ B.nv) :
    Calls Try.prog 7 #[v, .int .i64 s, .int .i64 m] w fun e w' => e = .returned (.bool true) ∧ Below w.heap.size w w' := by
  obtain ⟨i1, hi1, hz0, hz1, hz2⟩ := info_parts Try.infoInts
  have h' := h
  obtain ⟨_, a1, z1, a2, z2, a3, z3, rfl, _⟩ := h'
  obtain ⟨ws, hws, HB, hsz, hblk⟩ := box1 w (.cells #[.slice a1 B.nv z1, .slice a2 B.ns z2, .slice a3 B.D.n z3] 26)
  have q0 := cell_blk hblk 0 rfl
  have q1 := cell_blk hblk 1 rfl
  have q2 := cell_blk hblk 2 rfl
  have HBK := Lib.hid (h.go HB.out)
  have HB0 : Hid (Below ws.heap.size ws ws) := Below.refl _ _
  have HNS : Hid (N ≤ ws.heap.size) := HBK.out.1
  have hlens := h.lens
  obtain ⟨hlv, hls, hln⟩ := hlens
  clear hblk h
  have HRD := Lib.hid hrd
  have hfar : farB B = false := by unfold readyB at hrd; cases hf : farB B with | false => rfl | true => rw [hf] at hrd; cases hrd
  have hok : okKB B = true := by unfold readyB at hrd; cases hf : okKB B with | true => rfl | false => rw [hf] at hrd; simp at hrd
  have HNE := Lib.hid (near_of hfar)
  have HG := Lib.hid (goodB hok)
  have HOK := Lib.hid hok
  have hnv5 := HG.out.nv
  have hsl := shl_oneI hnv5
  have HS : Hid ((decide ((0 : Int) ≤ (s : Int)) && decide ((s : Int) < (B.ns : Int))) = true) := by unfold Hid; rw [Bool.and_eq_true, decide_eq_true_eq, decide_eq_true_eq]; omega
  have HM0 := Lib.hid hm
  obtain ⟨p2, hp2⟩ : ∃ p, (2 : Nat) ^ B.nv = p := ⟨_, rfl⟩
  have HP2 := Lib.hid hp2
  rw [hp2] at hsl hm
  have hmi : ¬ ((p2 : Int) ≤ (m : Int)) := by omega
  have hm0 : ¬ ((m : Int) < 0) := by omega
  have hns8 := HG.out.ns
  have HSS := Lib.hid hs
  clear hrd hfar hok hp2 hm
  go_enter Try.func7, Try.ntmps7
  go_wp2_with (first
    | (go_at_call 15; go_must (refine (ready_any N _ B _ (HBK.out.go HB0.out)).mono ?_; rintro e w1 ⟨rfl, hb1⟩; rw [HRD.out]; (try clear c0); have HB1 := Lib.hid (bel HB0.out hb1); have c1 := (old_of HB1.out).1; clear hb1))
    | (go_at_call 39; go_must (refine (isSort_any N _ B s _ (HBK.out.go HB1.out)).mono ?_; rintro e w2 ⟨rfl, hb2⟩; rw [HS.out]; (try clear c1); have HB2 := Lib.hid (bel HB1.out hb2); have c2 := (old_of HB2.out).1; clear hb2))
    | (go_at_call 28; go_must (refine (copy_near N _ B _ (HBK.out.go HB2.out) HNE.out).mono ?_; rintro e w4 ⟨b1, d1, b2, d2, b3, d3, rfl, how4, hbk4, hb4⟩; have HOW4 := Lib.hid how4; have HBK4 := Lib.hid hbk4; clear how4 hbk4; (try clear c2); have HB4 := Lib.hid (bel HB2.out hb4); have c4 := (old_of HB4.out).1; clear hb4; obtain ⟨w5, hw5, HB45, hsz45, hblk5⟩ := box1 w4 (.cells #[.slice b1 B.nv d1, .slice b2 B.ns d2, .slice b3 B.D.n d3] 26); have x0 := cell_blk hblk5 0 rfl; have x1 := cell_blk hblk5 1 rfl; have x2 := cell_blk hblk5 2 rfl; have hb5 := HB45.out; have HX5 := Lib.hid hblk5; (try clear c4); have HB5 := Lib.hid (bel HB4.out hb5); have c5 := (old_of HB5.out).1; clear hb5; clear hblk5)))
  clear hws hw5
  have HB55 : Hid (Below w5.heap.size w5 w5) := Below.refl _ _
  obtain ⟨hi, hhi⟩ : ∃ z, w4.heap.size = z := ⟨_, rfl⟩
  obtain ⟨b, off, R, rfl, hb2, hd2, HR, HR4⟩ : ∃ (b off : Nat) (R : Nat → Value), b2 = some ⟨b, off, none⟩ ∧ b < hi ∧ B.ns ≤ d2 ∧ Hid (∀ j, j < B.ns → w5.cell? ⟨b, off + j, none⟩ = some (R j) ∧ (R j).oneCell' = true ∧ IntsAt w5.heap.size w5 (R j) (B.L j) (B.X j)) ∧ Hid (∀ j, j < B.ns → IntsAt w4.heap.size w4 (R j) (B.L j) (B.X j)) := by
    have hs := HSS.out
    obtain ⟨b, off, e, hb, hr⟩ := HBK4.out.sorts.cells (by omega)
    have hcap : B.ns ≤ d2 := by
      obtain ⟨_, v2, _, _, e, _, _, _, hown, _⟩ := HOW4.out
      cases e
      obtain ⟨_, ⟨_, h0⟩ | ⟨g, c, cur, e, _, _, h4, _⟩⟩ := hown
      · omega
      · cases e; exact h4
    refine ⟨b, off, fun j => (w5.cell? ⟨b, off + j, none⟩).getD (.slice none 0 0), e, by omega, hcap, fun j hj => ?_, fun j hj => ?_⟩
    · obtain ⟨ai, ci, h1, h2⟩ := hr j hj
      have h3 : w5.cell? ⟨b, off + j, none⟩ = some (.slice ai (B.L j) ci) := (HB45.cell (p := ⟨b, off + j, none⟩) hb).trans h1
      simp only [h3, Option.getD_some]
      exact ⟨trivial, rfl, h2.mono HB45 (by omega)⟩
    · obtain ⟨ai, ci, h1, h2⟩ := hr j hj
      have h3 : w5.cell? ⟨b, off + j, none⟩ = some (.slice ai (B.L j) ci) := (HB45.cell (p := ⟨b, off + j, none⟩) hb).trans h1
      simp only [h3, Option.getD_some]
      exact h2
  have hhl : hi < w5.heap.size := by omega
  rw [hhi] at x0 x1 x2 HX5 ⊢
  have hsi : (s : Int) ≤ (d2 : Int) := by have := HSS.out; omega
  obtain ⟨s1, hs1⟩ : ∃ s1, s + 1 = s1 := ⟨_, rfl⟩
  have HS1 := Lib.hid hs1
  have hsi1 : (s1 : Int) ≤ (B.ns : Int) := by have := HSS.out; omega
  have hwr : IntKind.i64.wrap ((s : Int) + 1) = (s1 : Int) := by
    have := HSS.out
    have key : ∀ n : Fin 9, IntKind.i64.wrap (n.val : Int) = (n.val : Int) := by decide +kernel
    rw [show (s : Int) + 1 = ((s + 1 : Nat) : Int) by omega, hs1]; exact key ⟨s1, by omega⟩
  obtain ⟨ad, had⟩ : ∃ ad : Addr, (if d2 = s1 then some (⟨b, off, none⟩ : Addr) else some ⟨b, off + s1, none⟩) = some ad := by
    by_cases h : d2 = s1
    · exact ⟨_, if_pos h⟩
    · exact ⟨_, if_neg h⟩
  have HAD := Lib.hid had
  clear hs1 had
  have HAJ : Hid (∀ j, j < B.ns - s1 → ad.add j = ⟨b, off + (s1 + j), none⟩) := fun j hj => by
    have h1 := HAD.out
    rw [if_neg (by omega)] at h1
    rw [← Option.some.inj h1, addr_add, Nat.add_assoc]
  have hsn : 0 + s ≤ B.ns := by have := HSS.out; omega
  have hsn1 : s1 + (B.ns - s1) ≤ B.ns := by omega
  have hb5 : b < w5.heap.size := by omega
  have H45 := Lib.hid HB45
  have hh4 : w4.heap.size ≤ hi := by omega
  go_cut [7] (fun s7 wx => s7 = .pointer (some ⟨hi, 0, none⟩) ∧ ∃ v2, Hid (wx.ownsRow w5.heap.size 22 1 v2 (s + (B.ns - s1)) (newsF R 0 s ++ newsF R s1 (B.ns - s1))) ∧ wx.heap[hi]? = some (Obj.cells #[.slice b1 B.nv d1, v2, .slice b3 B.D.n d3] 26 (0, 0)) ∧ Below w4.heap.size w4 wx)
  case first =>
    as_aux_lemma =>
      have HBc : Hid (Below w5.heap.size w5 w5.drew) := HB55.out.drew
      refine wp_region_held_drew (S := (fun w' => (∀ b o, b < w4.heap.size → w'.cell? ⟨b, o, none⟩ = w4.cell? ⟨b, o, none⟩) ∧ Hid (Below w4.heap.size w4 w'))) (by kernel_rfl) (old_of (bel H45.out HBc.out)) (fun hHeld => ?_)
      obtain ⟨wc, hwc⟩ : ∃ w' : World, w5.drew = w' := ⟨_, rfl⟩
      rw [hwc] at HBc hHeld ⊢
      clear hwc
      have Sn := old_of (bel H45.out HBc.out)
      (refine wpAnyH_take (i := 1) (v := ?_) rfl (by kernel_rfl) (by kernel_rfl) (by kernel_rfl) (fun _ _ _ h => h) (Or.inl ⟨by rfl, ?_⟩) (by assumption) ?_; rotate_left; (focus (intro w hSw; (try dsimp only at hSw); go_simp; (try with_reducible rfl))); (try simp only [List.getElem_toArray, List.getElem_cons_zero, List.getElem_cons_succ, Act.put, List.setIfInBounds_toArray, List.set_cons_zero, List.set_cons_succ]))
      (refine wpAnyH_take (i := 3) (v := ?_) rfl (by kernel_rfl) (by kernel_rfl) (by kernel_rfl) (fun _ _ _ h => h) (Or.inl ⟨by rfl, ?_⟩) (by assumption) ?_; rotate_left; (focus (intro w hSw; (try dsimp only at hSw); go_simp; (try with_reducible rfl))); (try simp only [List.getElem_toArray, List.getElem_cons_zero, List.getElem_cons_succ, Act.put, List.setIfInBounds_toArray, List.set_cons_zero, List.set_cons_succ]))
      (refine wpAnyH_take (i := 6) (v := ?_) rfl (by kernel_rfl) (by kernel_rfl) (by kernel_rfl) (fun _ _ _ h => h) (Or.inl ⟨by rfl, ?_⟩) (by assumption) ?_; rotate_left; (focus (intro w hSw; (try dsimp only at hSw); go_simp; (try with_reducible rfl))); (try simp only [List.getElem_toArray, List.getElem_cons_zero, List.getElem_cons_succ, Act.put, List.setIfInBounds_toArray, List.set_cons_zero, List.set_cons_succ]))
      (refine wpAnyH_take (i := 8) (v := ?_) rfl (by kernel_rfl) (by kernel_rfl) (by kernel_rfl) (fun _ _ _ h => h) (Or.inl ⟨by rfl, ?_⟩) (by assumption) ?_; rotate_left; (focus (intro w hSw; (try dsimp only at hSw); go_simp; (try with_reducible rfl))); (try simp only [List.getElem_toArray, List.getElem_cons_zero, List.getElem_cons_succ, Act.put, List.setIfInBounds_toArray, List.set_cons_zero, List.set_cons_succ])); (refine wpAnyH_take (i := 9) (v := ?_) rfl (by kernel_rfl) (by kernel_rfl) (by kernel_rfl) (fun _ _ _ h => h) (Or.inl ⟨by rfl, ?_⟩) (by assumption) ?_; rotate_left; (focus (intro w hSw; (try dsimp only at hSw); go_simp; (try with_reducible rfl))); (try simp only [List.getElem_toArray, List.getElem_cons_zero, List.getElem_cons_succ, Act.put, List.setIfInBounds_toArray, List.set_cons_zero, List.set_cons_succ]))
      clear Sn
      refine wpAnyH_ready (rs := [0, 2, 7]) (by kernel_rfl) (by simp) ?_
      refine (AllReadyH.cons rfl (fun K hK => ?_) (AllReadyH.cons rfl (fun K hK => ?_) (AllReadyH.cons rfl (fun K hK => ?_) AllReadyH.nil)))
      · go_simp
        obtain ⟨wn, hwn⟩ : ∃ wn : World, wc.alloc (.cells #[] 22) = wn := ⟨_, rfl⟩
        rw [hwn]
        have hb : Below wc.heap.size wc wn := (by rw [← hwn]; exact below_alloc (Nat.le_refl _) _)
        have hnew : wn.heap[wc.heap.size]? = some (Obj.cells #[] 22 (0, 0)) := (by rw [← hwn]; exact World.alloc_heap_new _ _)
        clear hwn
        have HO0 : Hid (wn.ownsRow w5.heap.size 22 1 (.slice (some ⟨wc.heap.size, 0, none⟩) 0 0) 0 []) := rows_empty HBc.out.size hnew
        replace HBc : Hid (Below w5.heap.size w5 wn) := bel HBc.out hb
        clear hb hnew
        obtain ⟨g5, hg⟩ : ∃ g, wc.heap.size = g := ⟨_, rfl⟩
        rw [hg] at HO0 ⊢
        clear hg
        have Sn := old_of (bel H45.out HBc.out)
        refine hK.out _ _ Sn (fun hHeld => ?_)
        clear hK K
        (try simp only [List.getElem_toArray, List.getElem_cons_zero, List.getElem_cons_succ, Act.put, List.setIfInBounds_toArray, List.set_cons_zero, List.set_cons_succ])
        clear Sn
        obtain ⟨wc, rfl⟩ : ∃ w' : World, w' = wn := ⟨_, rfl⟩
        refine wpAnyH_ready (rs := [2, 7]) (by kernel_rfl) (by simp) ?_
        refine (AllReadyH.cons rfl (fun K hK => ?_) (AllReadyH.cons rfl (fun K hK => ?_) AllReadyH.nil))
        · have x1c := (HBc.out.cell (p := ⟨hi, 1, none⟩) hhl).trans x1
          go_simp
          have Sn := old_of (bel H45.out HBc.out)
          refine hK.out _ _ Sn (fun hHeld => ?_)
          clear hK K
          (try simp only [List.getElem_toArray, List.getElem_cons_zero, List.getElem_cons_succ, Act.put, List.setIfInBounds_toArray, List.set_cons_zero, List.set_cons_succ])
          clear x1c
          (refine wpAnyH_take (i := 4) (v := ?_) rfl (by kernel_rfl) (by kernel_rfl) (by kernel_rfl) (fun _ _ _ h => h) (Or.inl ⟨by rfl, ?_⟩) (by assumption) ?_; rotate_left; (focus (intro w hSw; (try dsimp only at hSw); go_simp; (try with_reducible rfl))); (try simp only [List.getElem_toArray, List.getElem_cons_zero, List.getElem_cons_succ, Act.put, List.setIfInBounds_toArray, List.set_cons_zero, List.set_cons_succ]))
          clear Sn
          refine wpAnyH_ready (rs := [5, 7]) (by kernel_rfl) (by simp) ?_
          refine (AllReadyH.cons rfl (fun K hK => ?_) (AllReadyH.cons rfl (fun K hK => ?_) AllReadyH.nil))
          · rw [if_pos (by rfl)]
            refine wp_append_own _ (.tmp 48) (.tmp 52) 23 rfl w5.heap.size 22 i1 (.slice none 0 0) 1 24 Try.underlying23 hi1 hz0 hz1 hz2 rfl (by decide) _ 0 [] rfl HO0.out ⟨b, off, none⟩ s d2 (newsF R 0 s) rfl (by rw [newsF_len]; omega) (news_cells HBc.out hb5 HR.out (fun j _ => by rw [addrAdd, Nat.zero_add]) hsn) (news_one HR.out hsn) (by unfold maxLen; omega) (by omega) HBc.out.size ?_
            intro v1 wn ho6 hg6 _
            rw [Nat.zero_add, List.nil_append] at ho6
            have HO6 := Lib.hid ho6
            replace HBc : Hid (Below w5.heap.size w5 wn) := Lib.hid (Below.grown HBc.out hg6 HBc.out.size (fun j e => (HO0.out.lt j e).1))
            clear ho6 hg6 HO0
            have Sn := old_of (bel H45.out HBc.out)
            refine hK.out _ _ Sn (fun hHeld => ?_)
            clear hK K
            (try simp only [List.getElem_toArray, List.getElem_cons_zero, List.getElem_cons_succ, Act.put, List.setIfInBounds_toArray, List.set_cons_zero, List.set_cons_succ])
            clear Sn
            obtain ⟨wc, rfl⟩ : ∃ w' : World, w' = wn := ⟨_, rfl⟩
            refine wpAnyH_ready (rs := [7]) (by kernel_rfl) (by simp) ?_
            refine (AllReadyH.cons rfl (fun K hK => ?_) AllReadyH.nil)
            · have x1c := (HBc.out.cell (p := ⟨hi, 1, none⟩) hhl).trans x1
              go_simp
              have Sn := old_of (bel H45.out HBc.out)
              refine hK.out _ _ Sn (fun hHeld => ?_)
              clear hK K
              (try simp only [List.getElem_toArray, List.getElem_cons_zero, List.getElem_cons_succ, Act.put, List.setIfInBounds_toArray, List.set_cons_zero, List.set_cons_succ])
              clear x1c
              refine wpAnyH_take (i := 10) (v := ?_) rfl (by kernel_rfl) (by kernel_rfl) (by kernel_rfl) (fun _ _ _ h => h) (Or.inl ⟨by rfl, ?_⟩) (by assumption) ?_
              rotate_left
              focus (intro w hSw; (try dsimp only at hSw); go_simp; rw [HAD.out])
              (try simp only [List.getElem_toArray, List.getElem_cons_zero, List.getElem_cons_succ, Act.put, List.setIfInBounds_toArray, List.set_cons_zero, List.set_cons_succ])
              clear Sn
              refine wpAnyH_ready (rs := [11]) (by kernel_rfl) (by simp) ?_
              refine (AllReadyH.cons rfl (fun K hK => ?_) AllReadyH.nil)
              · rw [if_pos (by rfl)]
                refine wp_append_own _ (.tmp 53) (.tmp 58) 23 rfl w5.heap.size 22 i1 (.slice none 0 0) 1 24 Try.underlying23 hi1 hz0 hz1 hz2 rfl (by decide) _ _ _ rfl HO6.out ad (B.ns - s1) (d2 - s1) (newsF R s1 (B.ns - s1)) rfl (by rw [newsF_len]; omega) (news_cells HBc.out hb5 HR.out HAJ.out hsn1) (news_one HR.out hsn1) (by unfold maxLen; omega) (by omega) HBc.out.size ?_
                intro v2 wn ho7 hg7 _
                have HO7 := Lib.hid ho7
                replace HBc : Hid (Below w5.heap.size w5 wn) := Lib.hid (Below.grown HBc.out hg7 HBc.out.size (fun j e => (HO6.out.lt j e).1))
                clear ho7 hg7 HO6
                have Sn := old_of (bel H45.out HBc.out)
                refine hK.out _ _ Sn (fun hHeld => ?_)
                clear hK K
                (try simp only [List.getElem_toArray, List.getElem_cons_zero, List.getElem_cons_succ, Act.put, List.setIfInBounds_toArray, List.set_cons_zero, List.set_cons_succ])
                (refine wpAnyH_take (i := 12) (v := ?_) rfl (by kernel_rfl) (by kernel_rfl) (by kernel_rfl) (fun _ _ _ h => h) (Or.inl ⟨by rfl, ?_⟩) (by assumption) ?_; rotate_left; (focus (intro w hSw; (try dsimp only at hSw); go_simp; (try with_reducible rfl))); (try simp only [List.getElem_toArray, List.getElem_cons_zero, List.getElem_cons_succ, Act.put, List.setIfInBounds_toArray, List.set_cons_zero, List.set_cons_succ]))
                clear Sn
                obtain ⟨wc, rfl⟩ : ∃ w' : World, w' = wn := ⟨_, rfl⟩
                refine wpAnyH_ready (rs := [13]) (by kernel_rfl) (by simp) ?_
                refine (AllReadyH.cons rfl (fun K hK => ?_) AllReadyH.nil)
                · have e := keep_blk HBc.out HX5.out
                  obtain ⟨av, cv, rfl⟩ := rows_slice HO7.out
                  have zc1 := cell_blk e 1 rfl
                  have y := frozen_blk e
                  go_simp
                  obtain ⟨f1, f2, f3⟩ := store_mid e (.slice av (s + (B.ns - s1)) cv)
                  have HOF := own_set1 HO7.out hhl (.slice av (s + (B.ns - s1)) cv)
                  obtain ⟨wn, hwn⟩ : ∃ wn : World, wc.setCell ⟨hi, 1, none⟩ (.slice av (s + (B.ns - s1)) cv) = wn := ⟨_, rfl⟩
                  rw [hwn] at f1 f2 HOF ⊢
                  have HBn : Hid (Below w4.heap.size w4 wn) := (bel H45.out HBc.out).trans (f2 _ hh4)
                  have Sn := old_of HBn.out
                  clear hwn f3
                  refine hK.out _ _ Sn (fun hHeld => ?_)
                  clear hK K Sn
                  refine wpAnyH_done (by kernel_rfl) ?_ _
                  clear hHeld
                  go_wp2_with fail
                  go_meet
                  exact ⟨rfl, _, HOF, f1, HBn.out⟩
          · have x1c := (HBc.out.cell (p := ⟨hi, 1, none⟩) hhl).trans x1
            go_simp
            have Sn := old_of (bel H45.out HBc.out)
            refine hK.out _ _ Sn (fun hHeld => ?_)
            clear hK K
            (try simp only [List.getElem_toArray, List.getElem_cons_zero, List.getElem_cons_succ, Act.put, List.setIfInBounds_toArray, List.set_cons_zero, List.set_cons_succ])
            clear x1c
            refine wpAnyH_take (i := 10) (v := ?_) rfl (by kernel_rfl) (by kernel_rfl) (by kernel_rfl) (fun _ _ _ h => h) (Or.inl ⟨by rfl, ?_⟩) (by assumption) ?_
            rotate_left
            focus (intro w hSw; (try dsimp only at hSw); go_simp; rw [HAD.out])
            (try simp only [List.getElem_toArray, List.getElem_cons_zero, List.getElem_cons_succ, Act.put, List.setIfInBounds_toArray, List.set_cons_zero, List.set_cons_succ])
            clear Sn
            refine wpAnyH_ready (rs := [5]) (by kernel_rfl) (by simp) ?_
            refine (AllReadyH.cons rfl (fun K hK => ?_) AllReadyH.nil)
            · rw [if_pos (by rfl)]
              refine wp_append_own _ (.tmp 48) (.tmp 52) 23 rfl w5.heap.size 22 i1 (.slice none 0 0) 1 24 Try.underlying23 hi1 hz0 hz1 hz2 rfl (by decide) _ 0 [] rfl HO0.out ⟨b, off, none⟩ s d2 (newsF R 0 s) rfl (by rw [newsF_len]; omega) (news_cells HBc.out hb5 HR.out (fun j _ => by rw [addrAdd, Nat.zero_add]) hsn) (news_one HR.out hsn) (by unfold maxLen; omega) (by omega) HBc.out.size ?_
              intro v1 wn ho6 hg6 _
              rw [Nat.zero_add, List.nil_append] at ho6
              have HO6 := Lib.hid ho6
              replace HBc : Hid (Below w5.heap.size w5 wn) := Lib.hid (Below.grown HBc.out hg6 HBc.out.size (fun j e => (HO0.out.lt j e).1))
              clear ho6 hg6 HO0
              have Sn := old_of (bel H45.out HBc.out)
              refine hK.out _ _ Sn (fun hHeld => ?_)
              clear hK K
              (try simp only [List.getElem_toArray, List.getElem_cons_zero, List.getElem_cons_succ, Act.put, List.setIfInBounds_toArray, List.set_cons_zero, List.set_cons_succ])
              clear Sn
              obtain ⟨wc, rfl⟩ : ∃ w' : World, w' = wn := ⟨_, rfl⟩
              refine wpAnyH_ready (rs := [11]) (by kernel_rfl) (by simp) ?_
              refine (AllReadyH.cons rfl (fun K hK => ?_) AllReadyH.nil)
              · rw [if_pos (by rfl)]
                refine wp_append_own _ (.tmp 53) (.tmp 58) 23 rfl w5.heap.size 22 i1 (.slice none 0 0) 1 24 Try.underlying23 hi1 hz0 hz1 hz2 rfl (by decide) _ _ _ rfl HO6.out ad (B.ns - s1) (d2 - s1) (newsF R s1 (B.ns - s1)) rfl (by rw [newsF_len]; omega) (news_cells HBc.out hb5 HR.out HAJ.out hsn1) (news_one HR.out hsn1) (by unfold maxLen; omega) (by omega) HBc.out.size ?_
                intro v2 wn ho7 hg7 _
                have HO7 := Lib.hid ho7
                replace HBc : Hid (Below w5.heap.size w5 wn) := Lib.hid (Below.grown HBc.out hg7 HBc.out.size (fun j e => (HO6.out.lt j e).1))
                clear ho7 hg7 HO6
                have Sn := old_of (bel H45.out HBc.out)
                refine hK.out _ _ Sn (fun hHeld => ?_)
                clear hK K
                (try simp only [List.getElem_toArray, List.getElem_cons_zero, List.getElem_cons_succ, Act.put, List.setIfInBounds_toArray, List.set_cons_zero, List.set_cons_succ])
                (refine wpAnyH_take (i := 12) (v := ?_) rfl (by kernel_rfl) (by kernel_rfl) (by kernel_rfl) (fun _ _ _ h => h) (Or.inl ⟨by rfl, ?_⟩) (by assumption) ?_; rotate_left; (focus (intro w hSw; (try dsimp only at hSw); go_simp; (try with_reducible rfl))); (try simp only [List.getElem_toArray, List.getElem_cons_zero, List.getElem_cons_succ, Act.put, List.setIfInBounds_toArray, List.set_cons_zero, List.set_cons_succ]))
                clear Sn
                obtain ⟨wc, rfl⟩ : ∃ w' : World, w' = wn := ⟨_, rfl⟩
                refine wpAnyH_ready (rs := [13]) (by kernel_rfl) (by simp) ?_
                refine (AllReadyH.cons rfl (fun K hK => ?_) AllReadyH.nil)
                · have e := keep_blk HBc.out HX5.out
                  obtain ⟨av, cv, rfl⟩ := rows_slice HO7.out
                  have zc1 := cell_blk e 1 rfl
                  have y := frozen_blk e
                  go_simp
                  obtain ⟨f1, f2, f3⟩ := store_mid e (.slice av (s + (B.ns - s1)) cv)
                  have HOF := own_set1 HO7.out hhl (.slice av (s + (B.ns - s1)) cv)
                  obtain ⟨wn, hwn⟩ : ∃ wn : World, wc.setCell ⟨hi, 1, none⟩ (.slice av (s + (B.ns - s1)) cv) = wn := ⟨_, rfl⟩
                  rw [hwn] at f1 f2 HOF ⊢
                  have HBn : Hid (Below w4.heap.size w4 wn) := (bel H45.out HBc.out).trans (f2 _ hh4)
                  have Sn := old_of HBn.out
                  clear hwn f3
                  refine hK.out _ _ Sn (fun hHeld => ?_)
                  clear hK K Sn
                  refine wpAnyH_done (by kernel_rfl) ?_ _
                  clear hHeld
                  go_wp2_with fail
                  go_meet
                  exact ⟨rfl, _, HOF, f1, HBn.out⟩
        · have x1c := (HBc.out.cell (p := ⟨hi, 1, none⟩) hhl).trans x1
          go_simp
          have Sn := old_of (bel H45.out HBc.out)
          refine hK.out _ _ Sn (fun hHeld => ?_)
          clear hK K
          (try simp only [List.getElem_toArray, List.getElem_cons_zero, List.getElem_cons_succ, Act.put, List.setIfInBounds_toArray, List.set_cons_zero, List.set_cons_succ])
          clear x1c
          refine wpAnyH_take (i := 10) (v := ?_) rfl (by kernel_rfl) (by kernel_rfl) (by kernel_rfl) (fun _ _ _ h => h) (Or.inl ⟨by rfl, ?_⟩) (by assumption) ?_
          rotate_left
          focus (intro w hSw; (try dsimp only at hSw); go_simp; rw [HAD.out])
          (try simp only [List.getElem_toArray, List.getElem_cons_zero, List.getElem_cons_succ, Act.put, List.setIfInBounds_toArray, List.set_cons_zero, List.set_cons_succ])
          clear Sn
          refine wpAnyH_ready (rs := [2]) (by kernel_rfl) (by simp) ?_
          refine (AllReadyH.cons rfl (fun K hK => ?_) AllReadyH.nil)
          · have x1c := (HBc.out.cell (p := ⟨hi, 1, none⟩) hhl).trans x1
            go_simp
            have Sn := old_of (bel H45.out HBc.out)
            refine hK.out _ _ Sn (fun hHeld => ?_)
            clear hK K
            (try simp only [List.getElem_toArray, List.getElem_cons_zero, List.getElem_cons_succ, Act.put, List.setIfInBounds_toArray, List.set_cons_zero, List.set_cons_succ])
            clear x1c
            (refine wpAnyH_take (i := 4) (v := ?_) rfl (by kernel_rfl) (by kernel_rfl) (by kernel_rfl) (fun _ _ _ h => h) (Or.inl ⟨by rfl, ?_⟩) (by assumption) ?_; rotate_left; (focus (intro w hSw; (try dsimp only at hSw); go_simp; (try with_reducible rfl))); (try simp only [List.getElem_toArray, List.getElem_cons_zero, List.getElem_cons_succ, Act.put, List.setIfInBounds_toArray, List.set_cons_zero, List.set_cons_succ]))
            clear Sn
            refine wpAnyH_ready (rs := [5]) (by kernel_rfl) (by simp) ?_
            refine (AllReadyH.cons rfl (fun K hK => ?_) AllReadyH.nil)
            · rw [if_pos (by rfl)]
              refine wp_append_own _ (.tmp 48) (.tmp 52) 23 rfl w5.heap.size 22 i1 (.slice none 0 0) 1 24 Try.underlying23 hi1 hz0 hz1 hz2 rfl (by decide) _ 0 [] rfl HO0.out ⟨b, off, none⟩ s d2 (newsF R 0 s) rfl (by rw [newsF_len]; omega) (news_cells HBc.out hb5 HR.out (fun j _ => by rw [addrAdd, Nat.zero_add]) hsn) (news_one HR.out hsn) (by unfold maxLen; omega) (by omega) HBc.out.size ?_
              intro v1 wn ho6 hg6 _
              rw [Nat.zero_add, List.nil_append] at ho6
              have HO6 := Lib.hid ho6
              replace HBc : Hid (Below w5.heap.size w5 wn) := Lib.hid (Below.grown HBc.out hg6 HBc.out.size (fun j e => (HO0.out.lt j e).1))
              clear ho6 hg6 HO0
              have Sn := old_of (bel H45.out HBc.out)
              refine hK.out _ _ Sn (fun hHeld => ?_)
              clear hK K
              (try simp only [List.getElem_toArray, List.getElem_cons_zero, List.getElem_cons_succ, Act.put, List.setIfInBounds_toArray, List.set_cons_zero, List.set_cons_succ])
              clear Sn
              obtain ⟨wc, rfl⟩ : ∃ w' : World, w' = wn := ⟨_, rfl⟩
              refine wpAnyH_ready (rs := [11]) (by kernel_rfl) (by simp) ?_
              refine (AllReadyH.cons rfl (fun K hK => ?_) AllReadyH.nil)
              · rw [if_pos (by rfl)]
                refine wp_append_own _ (.tmp 53) (.tmp 58) 23 rfl w5.heap.size 22 i1 (.slice none 0 0) 1 24 Try.underlying23 hi1 hz0 hz1 hz2 rfl (by decide) _ _ _ rfl HO6.out ad (B.ns - s1) (d2 - s1) (newsF R s1 (B.ns - s1)) rfl (by rw [newsF_len]; omega) (news_cells HBc.out hb5 HR.out HAJ.out hsn1) (news_one HR.out hsn1) (by unfold maxLen; omega) (by omega) HBc.out.size ?_
                intro v2 wn ho7 hg7 _
                have HO7 := Lib.hid ho7
                replace HBc : Hid (Below w5.heap.size w5 wn) := Lib.hid (Below.grown HBc.out hg7 HBc.out.size (fun j e => (HO6.out.lt j e).1))
                clear ho7 hg7 HO6
                have Sn := old_of (bel H45.out HBc.out)
                refine hK.out _ _ Sn (fun hHeld => ?_)
                clear hK K
                (try simp only [List.getElem_toArray, List.getElem_cons_zero, List.getElem_cons_succ, Act.put, List.setIfInBounds_toArray, List.set_cons_zero, List.set_cons_succ])
                (refine wpAnyH_take (i := 12) (v := ?_) rfl (by kernel_rfl) (by kernel_rfl) (by kernel_rfl) (fun _ _ _ h => h) (Or.inl ⟨by rfl, ?_⟩) (by assumption) ?_; rotate_left; (focus (intro w hSw; (try dsimp only at hSw); go_simp; (try with_reducible rfl))); (try simp only [List.getElem_toArray, List.getElem_cons_zero, List.getElem_cons_succ, Act.put, List.setIfInBounds_toArray, List.set_cons_zero, List.set_cons_succ]))
                clear Sn
                obtain ⟨wc, rfl⟩ : ∃ w' : World, w' = wn := ⟨_, rfl⟩
                refine wpAnyH_ready (rs := [13]) (by kernel_rfl) (by simp) ?_
                refine (AllReadyH.cons rfl (fun K hK => ?_) AllReadyH.nil)
                · have e := keep_blk HBc.out HX5.out
                  obtain ⟨av, cv, rfl⟩ := rows_slice HO7.out
                  have zc1 := cell_blk e 1 rfl
                  have y := frozen_blk e
                  go_simp
                  obtain ⟨f1, f2, f3⟩ := store_mid e (.slice av (s + (B.ns - s1)) cv)
                  have HOF := own_set1 HO7.out hhl (.slice av (s + (B.ns - s1)) cv)
                  obtain ⟨wn, hwn⟩ : ∃ wn : World, wc.setCell ⟨hi, 1, none⟩ (.slice av (s + (B.ns - s1)) cv) = wn := ⟨_, rfl⟩
                  rw [hwn] at f1 f2 HOF ⊢
                  have HBn : Hid (Below w4.heap.size w4 wn) := (bel H45.out HBc.out).trans (f2 _ hh4)
                  have Sn := old_of HBn.out
                  clear hwn f3
                  refine hK.out _ _ Sn (fun hHeld => ?_)
                  clear hK K Sn
                  refine wpAnyH_done (by kernel_rfl) ?_ _
                  clear hHeld
                  go_wp2_with fail
                  go_meet
                  exact ⟨rfl, _, HOF, f1, HBn.out⟩
      · have x1c := (HBc.out.cell (p := ⟨hi, 1, none⟩) hhl).trans x1
        go_simp
        have Sn := old_of (bel H45.out HBc.out)
        refine hK.out _ _ Sn (fun hHeld => ?_)
        clear hK K
        (try simp only [List.getElem_toArray, List.getElem_cons_zero, List.getElem_cons_succ, Act.put, List.setIfInBounds_toArray, List.set_cons_zero, List.set_cons_succ])
        clear x1c
        (refine wpAnyH_take (i := 4) (v := ?_) rfl (by kernel_rfl) (by kernel_rfl) (by kernel_rfl) (fun _ _ _ h => h) (Or.inl ⟨by rfl, ?_⟩) (by assumption) ?_; rotate_left; (focus (intro w hSw; (try dsimp only at hSw); go_simp; (try with_reducible rfl))); (try simp only [List.getElem_toArray, List.getElem_cons_zero, List.getElem_cons_succ, Act.put, List.setIfInBounds_toArray, List.set_cons_zero, List.set_cons_succ]))
        clear Sn
        refine wpAnyH_ready (rs := [0, 7]) (by kernel_rfl) (by simp) ?_
        refine (AllReadyH.cons rfl (fun K hK => ?_) (AllReadyH.cons rfl (fun K hK => ?_) AllReadyH.nil))
        · go_simp
          obtain ⟨wn, hwn⟩ : ∃ wn : World, wc.alloc (.cells #[] 22) = wn := ⟨_, rfl⟩
          rw [hwn]
          have hb : Below wc.heap.size wc wn := (by rw [← hwn]; exact below_alloc (Nat.le_refl _) _)
          have hnew : wn.heap[wc.heap.size]? = some (Obj.cells #[] 22 (0, 0)) := (by rw [← hwn]; exact World.alloc_heap_new _ _)
          clear hwn
          have HO0 : Hid (wn.ownsRow w5.heap.size 22 1 (.slice (some ⟨wc.heap.size, 0, none⟩) 0 0) 0 []) := rows_empty HBc.out.size hnew
          replace HBc : Hid (Below w5.heap.size w5 wn) := bel HBc.out hb
          clear hb hnew
          obtain ⟨g5, hg⟩ : ∃ g, wc.heap.size = g := ⟨_, rfl⟩
          rw [hg] at HO0 ⊢
          clear hg
          have Sn := old_of (bel H45.out HBc.out)
          refine hK.out _ _ Sn (fun hHeld => ?_)
          clear hK K
          (try simp only [List.getElem_toArray, List.getElem_cons_zero, List.getElem_cons_succ, Act.put, List.setIfInBounds_toArray, List.set_cons_zero, List.set_cons_succ])
          clear Sn
          obtain ⟨wc, rfl⟩ : ∃ w' : World, w' = wn := ⟨_, rfl⟩
          refine wpAnyH_ready (rs := [5, 7]) (by kernel_rfl) (by simp) ?_
          refine (AllReadyH.cons rfl (fun K hK => ?_) (AllReadyH.cons rfl (fun K hK => ?_) AllReadyH.nil))
          · rw [if_pos (by rfl)]
            refine wp_append_own _ (.tmp 48) (.tmp 52) 23 rfl w5.heap.size 22 i1 (.slice none 0 0) 1 24 Try.underlying23 hi1 hz0 hz1 hz2 rfl (by decide) _ 0 [] rfl HO0.out ⟨b, off, none⟩ s d2 (newsF R 0 s) rfl (by rw [newsF_len]; omega) (news_cells HBc.out hb5 HR.out (fun j _ => by rw [addrAdd, Nat.zero_add]) hsn) (news_one HR.out hsn) (by unfold maxLen; omega) (by omega) HBc.out.size ?_
            intro v1 wn ho6 hg6 _
            rw [Nat.zero_add, List.nil_append] at ho6
            have HO6 := Lib.hid ho6
            replace HBc : Hid (Below w5.heap.size w5 wn) := Lib.hid (Below.grown HBc.out hg6 HBc.out.size (fun j e => (HO0.out.lt j e).1))
            clear ho6 hg6 HO0
            have Sn := old_of (bel H45.out HBc.out)
            refine hK.out _ _ Sn (fun hHeld => ?_)
            clear hK K
            (try simp only [List.getElem_toArray, List.getElem_cons_zero, List.getElem_cons_succ, Act.put, List.setIfInBounds_toArray, List.set_cons_zero, List.set_cons_succ])
            clear Sn
            obtain ⟨wc, rfl⟩ : ∃ w' : World, w' = wn := ⟨_, rfl⟩
            refine wpAnyH_ready (rs := [7]) (by kernel_rfl) (by simp) ?_
            refine (AllReadyH.cons rfl (fun K hK => ?_) AllReadyH.nil)
            · have x1c := (HBc.out.cell (p := ⟨hi, 1, none⟩) hhl).trans x1
              go_simp
              have Sn := old_of (bel H45.out HBc.out)
              refine hK.out _ _ Sn (fun hHeld => ?_)
              clear hK K
              (try simp only [List.getElem_toArray, List.getElem_cons_zero, List.getElem_cons_succ, Act.put, List.setIfInBounds_toArray, List.set_cons_zero, List.set_cons_succ])
              clear x1c
              refine wpAnyH_take (i := 10) (v := ?_) rfl (by kernel_rfl) (by kernel_rfl) (by kernel_rfl) (fun _ _ _ h => h) (Or.inl ⟨by rfl, ?_⟩) (by assumption) ?_
              rotate_left
              focus (intro w hSw; (try dsimp only at hSw); go_simp; rw [HAD.out])
              (try simp only [List.getElem_toArray, List.getElem_cons_zero, List.getElem_cons_succ, Act.put, List.setIfInBounds_toArray, List.set_cons_zero, List.set_cons_succ])
              clear Sn
              refine wpAnyH_ready (rs := [11]) (by kernel_rfl) (by simp) ?_
              refine (AllReadyH.cons rfl (fun K hK => ?_) AllReadyH.nil)
              · rw [if_pos (by rfl)]
                refine wp_append_own _ (.tmp 53) (.tmp 58) 23 rfl w5.heap.size 22 i1 (.slice none 0 0) 1 24 Try.underlying23 hi1 hz0 hz1 hz2 rfl (by decide) _ _ _ rfl HO6.out ad (B.ns - s1) (d2 - s1) (newsF R s1 (B.ns - s1)) rfl (by rw [newsF_len]; omega) (news_cells HBc.out hb5 HR.out HAJ.out hsn1) (news_one HR.out hsn1) (by unfold maxLen; omega) (by omega) HBc.out.size ?_
                intro v2 wn ho7 hg7 _
                have HO7 := Lib.hid ho7
                replace HBc : Hid (Below w5.heap.size w5 wn) := Lib.hid (Below.grown HBc.out hg7 HBc.out.size (fun j e => (HO6.out.lt j e).1))
                clear ho7 hg7 HO6
                have Sn := old_of (bel H45.out HBc.out)
                refine hK.out _ _ Sn (fun hHeld => ?_)
                clear hK K
                (try simp only [List.getElem_toArray, List.getElem_cons_zero, List.getElem_cons_succ, Act.put, List.setIfInBounds_toArray, List.set_cons_zero, List.set_cons_succ])
                (refine wpAnyH_take (i := 12) (v := ?_) rfl (by kernel_rfl) (by kernel_rfl) (by kernel_rfl) (fun _ _ _ h => h) (Or.inl ⟨by rfl, ?_⟩) (by assumption) ?_; rotate_left; (focus (intro w hSw; (try dsimp only at hSw); go_simp; (try with_reducible rfl))); (try simp only [List.getElem_toArray, List.getElem_cons_zero, List.getElem_cons_succ, Act.put, List.setIfInBounds_toArray, List.set_cons_zero, List.set_cons_succ]))
                clear Sn
                obtain ⟨wc, rfl⟩ : ∃ w' : World, w' = wn := ⟨_, rfl⟩
                refine wpAnyH_ready (rs := [13]) (by kernel_rfl) (by simp) ?_
                refine (AllReadyH.cons rfl (fun K hK => ?_) AllReadyH.nil)
                · have e := keep_blk HBc.out HX5.out
                  obtain ⟨av, cv, rfl⟩ := rows_slice HO7.out
                  have zc1 := cell_blk e 1 rfl
                  have y := frozen_blk e
                  go_simp
                  obtain ⟨f1, f2, f3⟩ := store_mid e (.slice av (s + (B.ns - s1)) cv)
                  have HOF := own_set1 HO7.out hhl (.slice av (s + (B.ns - s1)) cv)
                  obtain ⟨wn, hwn⟩ : ∃ wn : World, wc.setCell ⟨hi, 1, none⟩ (.slice av (s + (B.ns - s1)) cv) = wn := ⟨_, rfl⟩
                  rw [hwn] at f1 f2 HOF ⊢
                  have HBn : Hid (Below w4.heap.size w4 wn) := (bel H45.out HBc.out).trans (f2 _ hh4)
                  have Sn := old_of HBn.out
                  clear hwn f3
                  refine hK.out _ _ Sn (fun hHeld => ?_)
                  clear hK K Sn
                  refine wpAnyH_done (by kernel_rfl) ?_ _
                  clear hHeld
                  go_wp2_with fail
                  go_meet
                  exact ⟨rfl, _, HOF, f1, HBn.out⟩
          · have x1c := (HBc.out.cell (p := ⟨hi, 1, none⟩) hhl).trans x1
            go_simp
            have Sn := old_of (bel H45.out HBc.out)
            refine hK.out _ _ Sn (fun hHeld => ?_)
            clear hK K
            (try simp only [List.getElem_toArray, List.getElem_cons_zero, List.getElem_cons_succ, Act.put, List.setIfInBounds_toArray, List.set_cons_zero, List.set_cons_succ])
            clear x1c
            refine wpAnyH_take (i := 10) (v := ?_) rfl (by kernel_rfl) (by kernel_rfl) (by kernel_rfl) (fun _ _ _ h => h) (Or.inl ⟨by rfl, ?_⟩) (by assumption) ?_
            rotate_left
            focus (intro w hSw; (try dsimp only at hSw); go_simp; rw [HAD.out])
            (try simp only [List.getElem_toArray, List.getElem_cons_zero, List.getElem_cons_succ, Act.put, List.setIfInBounds_toArray, List.set_cons_zero, List.set_cons_succ])
            clear Sn
            refine wpAnyH_ready (rs := [5]) (by kernel_rfl) (by simp) ?_
            refine (AllReadyH.cons rfl (fun K hK => ?_) AllReadyH.nil)
            · rw [if_pos (by rfl)]
              refine wp_append_own _ (.tmp 48) (.tmp 52) 23 rfl w5.heap.size 22 i1 (.slice none 0 0) 1 24 Try.underlying23 hi1 hz0 hz1 hz2 rfl (by decide) _ 0 [] rfl HO0.out ⟨b, off, none⟩ s d2 (newsF R 0 s) rfl (by rw [newsF_len]; omega) (news_cells HBc.out hb5 HR.out (fun j _ => by rw [addrAdd, Nat.zero_add]) hsn) (news_one HR.out hsn) (by unfold maxLen; omega) (by omega) HBc.out.size ?_
              intro v1 wn ho6 hg6 _
              rw [Nat.zero_add, List.nil_append] at ho6
              have HO6 := Lib.hid ho6
              replace HBc : Hid (Below w5.heap.size w5 wn) := Lib.hid (Below.grown HBc.out hg6 HBc.out.size (fun j e => (HO0.out.lt j e).1))
              clear ho6 hg6 HO0
              have Sn := old_of (bel H45.out HBc.out)
              refine hK.out _ _ Sn (fun hHeld => ?_)
              clear hK K
              (try simp only [List.getElem_toArray, List.getElem_cons_zero, List.getElem_cons_succ, Act.put, List.setIfInBounds_toArray, List.set_cons_zero, List.set_cons_succ])
              clear Sn
              obtain ⟨wc, rfl⟩ : ∃ w' : World, w' = wn := ⟨_, rfl⟩
              refine wpAnyH_ready (rs := [11]) (by kernel_rfl) (by simp) ?_
              refine (AllReadyH.cons rfl (fun K hK => ?_) AllReadyH.nil)
              · rw [if_pos (by rfl)]
                refine wp_append_own _ (.tmp 53) (.tmp 58) 23 rfl w5.heap.size 22 i1 (.slice none 0 0) 1 24 Try.underlying23 hi1 hz0 hz1 hz2 rfl (by decide) _ _ _ rfl HO6.out ad (B.ns - s1) (d2 - s1) (newsF R s1 (B.ns - s1)) rfl (by rw [newsF_len]; omega) (news_cells HBc.out hb5 HR.out HAJ.out hsn1) (news_one HR.out hsn1) (by unfold maxLen; omega) (by omega) HBc.out.size ?_
                intro v2 wn ho7 hg7 _
                have HO7 := Lib.hid ho7
                replace HBc : Hid (Below w5.heap.size w5 wn) := Lib.hid (Below.grown HBc.out hg7 HBc.out.size (fun j e => (HO6.out.lt j e).1))
                clear ho7 hg7 HO6
                have Sn := old_of (bel H45.out HBc.out)
                refine hK.out _ _ Sn (fun hHeld => ?_)
                clear hK K
                (try simp only [List.getElem_toArray, List.getElem_cons_zero, List.getElem_cons_succ, Act.put, List.setIfInBounds_toArray, List.set_cons_zero, List.set_cons_succ])
                (refine wpAnyH_take (i := 12) (v := ?_) rfl (by kernel_rfl) (by kernel_rfl) (by kernel_rfl) (fun _ _ _ h => h) (Or.inl ⟨by rfl, ?_⟩) (by assumption) ?_; rotate_left; (focus (intro w hSw; (try dsimp only at hSw); go_simp; (try with_reducible rfl))); (try simp only [List.getElem_toArray, List.getElem_cons_zero, List.getElem_cons_succ, Act.put, List.setIfInBounds_toArray, List.set_cons_zero, List.set_cons_succ]))
                clear Sn
                obtain ⟨wc, rfl⟩ : ∃ w' : World, w' = wn := ⟨_, rfl⟩
                refine wpAnyH_ready (rs := [13]) (by kernel_rfl) (by simp) ?_
                refine (AllReadyH.cons rfl (fun K hK => ?_) AllReadyH.nil)
                · have e := keep_blk HBc.out HX5.out
                  obtain ⟨av, cv, rfl⟩ := rows_slice HO7.out
                  have zc1 := cell_blk e 1 rfl
                  have y := frozen_blk e
                  go_simp
                  obtain ⟨f1, f2, f3⟩ := store_mid e (.slice av (s + (B.ns - s1)) cv)
                  have HOF := own_set1 HO7.out hhl (.slice av (s + (B.ns - s1)) cv)
                  obtain ⟨wn, hwn⟩ : ∃ wn : World, wc.setCell ⟨hi, 1, none⟩ (.slice av (s + (B.ns - s1)) cv) = wn := ⟨_, rfl⟩
                  rw [hwn] at f1 f2 HOF ⊢
                  have HBn : Hid (Below w4.heap.size w4 wn) := (bel H45.out HBc.out).trans (f2 _ hh4)
                  have Sn := old_of HBn.out
                  clear hwn f3
                  refine hK.out _ _ Sn (fun hHeld => ?_)
                  clear hK K Sn
                  refine wpAnyH_done (by kernel_rfl) ?_ _
                  clear hHeld
                  go_wp2_with fail
                  go_meet
                  exact ⟨rfl, _, HOF, f1, HBn.out⟩
        · have x1c := (HBc.out.cell (p := ⟨hi, 1, none⟩) hhl).trans x1
          go_simp
          have Sn := old_of (bel H45.out HBc.out)
          refine hK.out _ _ Sn (fun hHeld => ?_)
          clear hK K
          (try simp only [List.getElem_toArray, List.getElem_cons_zero, List.getElem_cons_succ, Act.put, List.setIfInBounds_toArray, List.set_cons_zero, List.set_cons_succ])
          clear x1c
          refine wpAnyH_take (i := 10) (v := ?_) rfl (by kernel_rfl) (by kernel_rfl) (by kernel_rfl) (fun _ _ _ h => h) (Or.inl ⟨by rfl, ?_⟩) (by assumption) ?_
          rotate_left
          focus (intro w hSw; (try dsimp only at hSw); go_simp; rw [HAD.out])
          (try simp only [List.getElem_toArray, List.getElem_cons_zero, List.getElem_cons_succ, Act.put, List.setIfInBounds_toArray, List.set_cons_zero, List.set_cons_succ])
          clear Sn
          refine wpAnyH_ready (rs := [0]) (by kernel_rfl) (by simp) ?_
          refine (AllReadyH.cons rfl (fun K hK => ?_) AllReadyH.nil)
          · go_simp
            obtain ⟨wn, hwn⟩ : ∃ wn : World, wc.alloc (.cells #[] 22) = wn := ⟨_, rfl⟩
            rw [hwn]
            have hb : Below wc.heap.size wc wn := (by rw [← hwn]; exact below_alloc (Nat.le_refl _) _)
            have hnew : wn.heap[wc.heap.size]? = some (Obj.cells #[] 22 (0, 0)) := (by rw [← hwn]; exact World.alloc_heap_new _ _)
            clear hwn
            have HO0 : Hid (wn.ownsRow w5.heap.size 22 1 (.slice (some ⟨wc.heap.size, 0, none⟩) 0 0) 0 []) := rows_empty HBc.out.size hnew
            replace HBc : Hid (Below w5.heap.size w5 wn) := bel HBc.out hb
            clear hb hnew
            obtain ⟨g5, hg⟩ : ∃ g, wc.heap.size = g := ⟨_, rfl⟩
            rw [hg] at HO0 ⊢
            clear hg
            have Sn := old_of (bel H45.out HBc.out)
            refine hK.out _ _ Sn (fun hHeld => ?_)
            clear hK K
            (try simp only [List.getElem_toArray, List.getElem_cons_zero, List.getElem_cons_succ, Act.put, List.setIfInBounds_toArray, List.set_cons_zero, List.set_cons_succ])
            clear Sn
            obtain ⟨wc, rfl⟩ : ∃ w' : World, w' = wn := ⟨_, rfl⟩
            refine wpAnyH_ready (rs := [5]) (by kernel_rfl) (by simp) ?_
            refine (AllReadyH.cons rfl (fun K hK => ?_) AllReadyH.nil)
            · rw [if_pos (by rfl)]
              refine wp_append_own _ (.tmp 48) (.tmp 52) 23 rfl w5.heap.size 22 i1 (.slice none 0 0) 1 24 Try.underlying23 hi1 hz0 hz1 hz2 rfl (by decide) _ 0 [] rfl HO0.out ⟨b, off, none⟩ s d2 (newsF R 0 s) rfl (by rw [newsF_len]; omega) (news_cells HBc.out hb5 HR.out (fun j _ => by rw [addrAdd, Nat.zero_add]) hsn) (news_one HR.out hsn) (by unfold maxLen; omega) (by omega) HBc.out.size ?_
              intro v1 wn ho6 hg6 _
              rw [Nat.zero_add, List.nil_append] at ho6
              have HO6 := Lib.hid ho6
              replace HBc : Hid (Below w5.heap.size w5 wn) := Lib.hid (Below.grown HBc.out hg6 HBc.out.size (fun j e => (HO0.out.lt j e).1))
              clear ho6 hg6 HO0
              have Sn := old_of (bel H45.out HBc.out)
              refine hK.out _ _ Sn (fun hHeld => ?_)
              clear hK K
              (try simp only [List.getElem_toArray, List.getElem_cons_zero, List.getElem_cons_succ, Act.put, List.setIfInBounds_toArray, List.set_cons_zero, List.set_cons_succ])
              clear Sn
              obtain ⟨wc, rfl⟩ : ∃ w' : World, w' = wn := ⟨_, rfl⟩
              refine wpAnyH_ready (rs := [11]) (by kernel_rfl) (by simp) ?_
              refine (AllReadyH.cons rfl (fun K hK => ?_) AllReadyH.nil)
              · rw [if_pos (by rfl)]
                refine wp_append_own _ (.tmp 53) (.tmp 58) 23 rfl w5.heap.size 22 i1 (.slice none 0 0) 1 24 Try.underlying23 hi1 hz0 hz1 hz2 rfl (by decide) _ _ _ rfl HO6.out ad (B.ns - s1) (d2 - s1) (newsF R s1 (B.ns - s1)) rfl (by rw [newsF_len]; omega) (news_cells HBc.out hb5 HR.out HAJ.out hsn1) (news_one HR.out hsn1) (by unfold maxLen; omega) (by omega) HBc.out.size ?_
                intro v2 wn ho7 hg7 _
                have HO7 := Lib.hid ho7
                replace HBc : Hid (Below w5.heap.size w5 wn) := Lib.hid (Below.grown HBc.out hg7 HBc.out.size (fun j e => (HO6.out.lt j e).1))
                clear ho7 hg7 HO6
                have Sn := old_of (bel H45.out HBc.out)
                refine hK.out _ _ Sn (fun hHeld => ?_)
                clear hK K
                (try simp only [List.getElem_toArray, List.getElem_cons_zero, List.getElem_cons_succ, Act.put, List.setIfInBounds_toArray, List.set_cons_zero, List.set_cons_succ])
                (refine wpAnyH_take (i := 12) (v := ?_) rfl (by kernel_rfl) (by kernel_rfl) (by kernel_rfl) (fun _ _ _ h => h) (Or.inl ⟨by rfl, ?_⟩) (by assumption) ?_; rotate_left; (focus (intro w hSw; (try dsimp only at hSw); go_simp; (try with_reducible rfl))); (try simp only [List.getElem_toArray, List.getElem_cons_zero, List.getElem_cons_succ, Act.put, List.setIfInBounds_toArray, List.set_cons_zero, List.set_cons_succ]))
                clear Sn
                obtain ⟨wc, rfl⟩ : ∃ w' : World, w' = wn := ⟨_, rfl⟩
                refine wpAnyH_ready (rs := [13]) (by kernel_rfl) (by simp) ?_
                refine (AllReadyH.cons rfl (fun K hK => ?_) AllReadyH.nil)
                · have e := keep_blk HBc.out HX5.out
                  obtain ⟨av, cv, rfl⟩ := rows_slice HO7.out
                  have zc1 := cell_blk e 1 rfl
                  have y := frozen_blk e
                  go_simp
                  obtain ⟨f1, f2, f3⟩ := store_mid e (.slice av (s + (B.ns - s1)) cv)
                  have HOF := own_set1 HO7.out hhl (.slice av (s + (B.ns - s1)) cv)
                  obtain ⟨wn, hwn⟩ : ∃ wn : World, wc.setCell ⟨hi, 1, none⟩ (.slice av (s + (B.ns - s1)) cv) = wn := ⟨_, rfl⟩
                  rw [hwn] at f1 f2 HOF ⊢
                  have HBn : Hid (Below w4.heap.size w4 wn) := (bel H45.out HBc.out).trans (f2 _ hh4)
                  have Sn := old_of HBn.out
                  clear hwn f3
                  refine hK.out _ _ Sn (fun hHeld => ?_)
                  clear hK K Sn
                  refine wpAnyH_done (by kernel_rfl) ?_ _
                  clear hHeld
                  go_wp2_with fail
                  go_meet
                  exact ⟨rfl, _, HOF, f1, HBn.out⟩
      · have x1c := (HBc.out.cell (p := ⟨hi, 1, none⟩) hhl).trans x1
        go_simp
        have Sn := old_of (bel H45.out HBc.out)
        refine hK.out _ _ Sn (fun hHeld => ?_)
        clear hK K
        (try simp only [List.getElem_toArray, List.getElem_cons_zero, List.getElem_cons_succ, Act.put, List.setIfInBounds_toArray, List.set_cons_zero, List.set_cons_succ])
        clear x1c
        refine wpAnyH_take (i := 10) (v := ?_) rfl (by kernel_rfl) (by kernel_rfl) (by kernel_rfl) (fun _ _ _ h => h) (Or.inl ⟨by rfl, ?_⟩) (by assumption) ?_
        rotate_left
        focus (intro w hSw; (try dsimp only at hSw); go_simp; rw [HAD.out])
        (try simp only [List.getElem_toArray, List.getElem_cons_zero, List.getElem_cons_succ, Act.put, List.setIfInBounds_toArray, List.set_cons_zero, List.set_cons_succ])
        clear Sn
        refine wpAnyH_ready (rs := [0, 2]) (by kernel_rfl) (by simp) ?_
        refine (AllReadyH.cons rfl (fun K hK => ?_) (AllReadyH.cons rfl (fun K hK => ?_) AllReadyH.nil))
        · go_simp
          obtain ⟨wn, hwn⟩ : ∃ wn : World, wc.alloc (.cells #[] 22) = wn := ⟨_, rfl⟩
          rw [hwn]
          have hb : Below wc.heap.size wc wn := (by rw [← hwn]; exact below_alloc (Nat.le_refl _) _)
          have hnew : wn.heap[wc.heap.size]? = some (Obj.cells #[] 22 (0, 0)) := (by rw [← hwn]; exact World.alloc_heap_new _ _)
          clear hwn
          have HO0 : Hid (wn.ownsRow w5.heap.size 22 1 (.slice (some ⟨wc.heap.size, 0, none⟩) 0 0) 0 []) := rows_empty HBc.out.size hnew
          replace HBc : Hid (Below w5.heap.size w5 wn) := bel HBc.out hb
          clear hb hnew
          obtain ⟨g5, hg⟩ : ∃ g, wc.heap.size = g := ⟨_, rfl⟩
          rw [hg] at HO0 ⊢
          clear hg
          have Sn := old_of (bel H45.out HBc.out)
          refine hK.out _ _ Sn (fun hHeld => ?_)
          clear hK K
          (try simp only [List.getElem_toArray, List.getElem_cons_zero, List.getElem_cons_succ, Act.put, List.setIfInBounds_toArray, List.set_cons_zero, List.set_cons_succ])
          clear Sn
          obtain ⟨wc, rfl⟩ : ∃ w' : World, w' = wn := ⟨_, rfl⟩
          refine wpAnyH_ready (rs := [2]) (by kernel_rfl) (by simp) ?_
          refine (AllReadyH.cons rfl (fun K hK => ?_) AllReadyH.nil)
          · have x1c := (HBc.out.cell (p := ⟨hi, 1, none⟩) hhl).trans x1
            go_simp
            have Sn := old_of (bel H45.out HBc.out)
            refine hK.out _ _ Sn (fun hHeld => ?_)
            clear hK K
            (try simp only [List.getElem_toArray, List.getElem_cons_zero, List.getElem_cons_succ, Act.put, List.setIfInBounds_toArray, List.set_cons_zero, List.set_cons_succ])
            clear x1c
            (refine wpAnyH_take (i := 4) (v := ?_) rfl (by kernel_rfl) (by kernel_rfl) (by kernel_rfl) (fun _ _ _ h => h) (Or.inl ⟨by rfl, ?_⟩) (by assumption) ?_; rotate_left; (focus (intro w hSw; (try dsimp only at hSw); go_simp; (try with_reducible rfl))); (try simp only [List.getElem_toArray, List.getElem_cons_zero, List.getElem_cons_succ, Act.put, List.setIfInBounds_toArray, List.set_cons_zero, List.set_cons_succ]))
            clear Sn
            refine wpAnyH_ready (rs := [5]) (by kernel_rfl) (by simp) ?_
            refine (AllReadyH.cons rfl (fun K hK => ?_) AllReadyH.nil)
            · rw [if_pos (by rfl)]
              refine wp_append_own _ (.tmp 48) (.tmp 52) 23 rfl w5.heap.size 22 i1 (.slice none 0 0) 1 24 Try.underlying23 hi1 hz0 hz1 hz2 rfl (by decide) _ 0 [] rfl HO0.out ⟨b, off, none⟩ s d2 (newsF R 0 s) rfl (by rw [newsF_len]; omega) (news_cells HBc.out hb5 HR.out (fun j _ => by rw [addrAdd, Nat.zero_add]) hsn) (news_one HR.out hsn) (by unfold maxLen; omega) (by omega) HBc.out.size ?_
              intro v1 wn ho6 hg6 _
              rw [Nat.zero_add, List.nil_append] at ho6
              have HO6 := Lib.hid ho6
              replace HBc : Hid (Below w5.heap.size w5 wn) := Lib.hid (Below.grown HBc.out hg6 HBc.out.size (fun j e => (HO0.out.lt j e).1))
              clear ho6 hg6 HO0
              have Sn := old_of (bel H45.out HBc.out)
              refine hK.out _ _ Sn (fun hHeld => ?_)
              clear hK K
              (try simp only [List.getElem_toArray, List.getElem_cons_zero, List.getElem_cons_succ, Act.put, List.setIfInBounds_toArray, List.set_cons_zero, List.set_cons_succ])
              clear Sn
              obtain ⟨wc, rfl⟩ : ∃ w' : World, w' = wn := ⟨_, rfl⟩
              refine wpAnyH_ready (rs := [11]) (by kernel_rfl) (by simp) ?_
              refine (AllReadyH.cons rfl (fun K hK => ?_) AllReadyH.nil)
              · rw [if_pos (by rfl)]
                refine wp_append_own _ (.tmp 53) (.tmp 58) 23 rfl w5.heap.size 22 i1 (.slice none 0 0) 1 24 Try.underlying23 hi1 hz0 hz1 hz2 rfl (by decide) _ _ _ rfl HO6.out ad (B.ns - s1) (d2 - s1) (newsF R s1 (B.ns - s1)) rfl (by rw [newsF_len]; omega) (news_cells HBc.out hb5 HR.out HAJ.out hsn1) (news_one HR.out hsn1) (by unfold maxLen; omega) (by omega) HBc.out.size ?_
                intro v2 wn ho7 hg7 _
                have HO7 := Lib.hid ho7
                replace HBc : Hid (Below w5.heap.size w5 wn) := Lib.hid (Below.grown HBc.out hg7 HBc.out.size (fun j e => (HO6.out.lt j e).1))
                clear ho7 hg7 HO6
                have Sn := old_of (bel H45.out HBc.out)
                refine hK.out _ _ Sn (fun hHeld => ?_)
                clear hK K
                (try simp only [List.getElem_toArray, List.getElem_cons_zero, List.getElem_cons_succ, Act.put, List.setIfInBounds_toArray, List.set_cons_zero, List.set_cons_succ])
                (refine wpAnyH_take (i := 12) (v := ?_) rfl (by kernel_rfl) (by kernel_rfl) (by kernel_rfl) (fun _ _ _ h => h) (Or.inl ⟨by rfl, ?_⟩) (by assumption) ?_; rotate_left; (focus (intro w hSw; (try dsimp only at hSw); go_simp; (try with_reducible rfl))); (try simp only [List.getElem_toArray, List.getElem_cons_zero, List.getElem_cons_succ, Act.put, List.setIfInBounds_toArray, List.set_cons_zero, List.set_cons_succ]))
                clear Sn
                obtain ⟨wc, rfl⟩ : ∃ w' : World, w' = wn := ⟨_, rfl⟩
                refine wpAnyH_ready (rs := [13]) (by kernel_rfl) (by simp) ?_
                refine (AllReadyH.cons rfl (fun K hK => ?_) AllReadyH.nil)
                · have e := keep_blk HBc.out HX5.out
                  obtain ⟨av, cv, rfl⟩ := rows_slice HO7.out
                  have zc1 := cell_blk e 1 rfl
                  have y := frozen_blk e
                  go_simp
                  obtain ⟨f1, f2, f3⟩ := store_mid e (.slice av (s + (B.ns - s1)) cv)
                  have HOF := own_set1 HO7.out hhl (.slice av (s + (B.ns - s1)) cv)
                  obtain ⟨wn, hwn⟩ : ∃ wn : World, wc.setCell ⟨hi, 1, none⟩ (.slice av (s + (B.ns - s1)) cv) = wn := ⟨_, rfl⟩
                  rw [hwn] at f1 f2 HOF ⊢
                  have HBn : Hid (Below w4.heap.size w4 wn) := (bel H45.out HBc.out).trans (f2 _ hh4)
                  have Sn := old_of HBn.out
                  clear hwn f3
                  refine hK.out _ _ Sn (fun hHeld => ?_)
                  clear hK K Sn
                  refine wpAnyH_done (by kernel_rfl) ?_ _
                  clear hHeld
                  go_wp2_with fail
                  go_meet
                  exact ⟨rfl, _, HOF, f1, HBn.out⟩
        · have x1c := (HBc.out.cell (p := ⟨hi, 1, none⟩) hhl).trans x1
          go_simp
          have Sn := old_of (bel H45.out HBc.out)
          refine hK.out _ _ Sn (fun hHeld => ?_)
          clear hK K
          (try simp only [List.getElem_toArray, List.getElem_cons_zero, List.getElem_cons_succ, Act.put, List.setIfInBounds_toArray, List.set_cons_zero, List.set_cons_succ])
          clear x1c
          (refine wpAnyH_take (i := 4) (v := ?_) rfl (by kernel_rfl) (by kernel_rfl) (by kernel_rfl) (fun _ _ _ h => h) (Or.inl ⟨by rfl, ?_⟩) (by assumption) ?_; rotate_left; (focus (intro w hSw; (try dsimp only at hSw); go_simp; (try with_reducible rfl))); (try simp only [List.getElem_toArray, List.getElem_cons_zero, List.getElem_cons_succ, Act.put, List.setIfInBounds_toArray, List.set_cons_zero, List.set_cons_succ]))
          clear Sn
          refine wpAnyH_ready (rs := [0]) (by kernel_rfl) (by simp) ?_
          refine (AllReadyH.cons rfl (fun K hK => ?_) AllReadyH.nil)
          · go_simp
            obtain ⟨wn, hwn⟩ : ∃ wn : World, wc.alloc (.cells #[] 22) = wn := ⟨_, rfl⟩
            rw [hwn]
            have hb : Below wc.heap.size wc wn := (by rw [← hwn]; exact below_alloc (Nat.le_refl _) _)
            have hnew : wn.heap[wc.heap.size]? = some (Obj.cells #[] 22 (0, 0)) := (by rw [← hwn]; exact World.alloc_heap_new _ _)
            clear hwn
            have HO0 : Hid (wn.ownsRow w5.heap.size 22 1 (.slice (some ⟨wc.heap.size, 0, none⟩) 0 0) 0 []) := rows_empty HBc.out.size hnew
            replace HBc : Hid (Below w5.heap.size w5 wn) := bel HBc.out hb
            clear hb hnew
            obtain ⟨g5, hg⟩ : ∃ g, wc.heap.size = g := ⟨_, rfl⟩
            rw [hg] at HO0 ⊢
            clear hg
            have Sn := old_of (bel H45.out HBc.out)
            refine hK.out _ _ Sn (fun hHeld => ?_)
            clear hK K
            (try simp only [List.getElem_toArray, List.getElem_cons_zero, List.getElem_cons_succ, Act.put, List.setIfInBounds_toArray, List.set_cons_zero, List.set_cons_succ])
            clear Sn
            obtain ⟨wc, rfl⟩ : ∃ w' : World, w' = wn := ⟨_, rfl⟩
            refine wpAnyH_ready (rs := [5]) (by kernel_rfl) (by simp) ?_
            refine (AllReadyH.cons rfl (fun K hK => ?_) AllReadyH.nil)
            · rw [if_pos (by rfl)]
              refine wp_append_own _ (.tmp 48) (.tmp 52) 23 rfl w5.heap.size 22 i1 (.slice none 0 0) 1 24 Try.underlying23 hi1 hz0 hz1 hz2 rfl (by decide) _ 0 [] rfl HO0.out ⟨b, off, none⟩ s d2 (newsF R 0 s) rfl (by rw [newsF_len]; omega) (news_cells HBc.out hb5 HR.out (fun j _ => by rw [addrAdd, Nat.zero_add]) hsn) (news_one HR.out hsn) (by unfold maxLen; omega) (by omega) HBc.out.size ?_
              intro v1 wn ho6 hg6 _
              rw [Nat.zero_add, List.nil_append] at ho6
              have HO6 := Lib.hid ho6
              replace HBc : Hid (Below w5.heap.size w5 wn) := Lib.hid (Below.grown HBc.out hg6 HBc.out.size (fun j e => (HO0.out.lt j e).1))
              clear ho6 hg6 HO0
              have Sn := old_of (bel H45.out HBc.out)
              refine hK.out _ _ Sn (fun hHeld => ?_)
              clear hK K
              (try simp only [List.getElem_toArray, List.getElem_cons_zero, List.getElem_cons_succ, Act.put, List.setIfInBounds_toArray, List.set_cons_zero, List.set_cons_succ])
              clear Sn
              obtain ⟨wc, rfl⟩ : ∃ w' : World, w' = wn := ⟨_, rfl⟩
              refine wpAnyH_ready (rs := [11]) (by kernel_rfl) (by simp) ?_
              refine (AllReadyH.cons rfl (fun K hK => ?_) AllReadyH.nil)
              · rw [if_pos (by rfl)]
                refine wp_append_own _ (.tmp 53) (.tmp 58) 23 rfl w5.heap.size 22 i1 (.slice none 0 0) 1 24 Try.underlying23 hi1 hz0 hz1 hz2 rfl (by decide) _ _ _ rfl HO6.out ad (B.ns - s1) (d2 - s1) (newsF R s1 (B.ns - s1)) rfl (by rw [newsF_len]; omega) (news_cells HBc.out hb5 HR.out HAJ.out hsn1) (news_one HR.out hsn1) (by unfold maxLen; omega) (by omega) HBc.out.size ?_
                intro v2 wn ho7 hg7 _
                have HO7 := Lib.hid ho7
                replace HBc : Hid (Below w5.heap.size w5 wn) := Lib.hid (Below.grown HBc.out hg7 HBc.out.size (fun j e => (HO6.out.lt j e).1))
                clear ho7 hg7 HO6
                have Sn := old_of (bel H45.out HBc.out)
                refine hK.out _ _ Sn (fun hHeld => ?_)
                clear hK K
                (try simp only [List.getElem_toArray, List.getElem_cons_zero, List.getElem_cons_succ, Act.put, List.setIfInBounds_toArray, List.set_cons_zero, List.set_cons_succ])
                (refine wpAnyH_take (i := 12) (v := ?_) rfl (by kernel_rfl) (by kernel_rfl) (by kernel_rfl) (fun _ _ _ h => h) (Or.inl ⟨by rfl, ?_⟩) (by assumption) ?_; rotate_left; (focus (intro w hSw; (try dsimp only at hSw); go_simp; (try with_reducible rfl))); (try simp only [List.getElem_toArray, List.getElem_cons_zero, List.getElem_cons_succ, Act.put, List.setIfInBounds_toArray, List.set_cons_zero, List.set_cons_succ]))
                clear Sn
                obtain ⟨wc, rfl⟩ : ∃ w' : World, w' = wn := ⟨_, rfl⟩
                refine wpAnyH_ready (rs := [13]) (by kernel_rfl) (by simp) ?_
                refine (AllReadyH.cons rfl (fun K hK => ?_) AllReadyH.nil)
                · have e := keep_blk HBc.out HX5.out
                  obtain ⟨av, cv, rfl⟩ := rows_slice HO7.out
                  have zc1 := cell_blk e 1 rfl
                  have y := frozen_blk e
                  go_simp
                  obtain ⟨f1, f2, f3⟩ := store_mid e (.slice av (s + (B.ns - s1)) cv)
                  have HOF := own_set1 HO7.out hhl (.slice av (s + (B.ns - s1)) cv)
                  obtain ⟨wn, hwn⟩ : ∃ wn : World, wc.setCell ⟨hi, 1, none⟩ (.slice av (s + (B.ns - s1)) cv) = wn := ⟨_, rfl⟩
                  rw [hwn] at f1 f2 HOF ⊢
                  have HBn : Hid (Below w4.heap.size w4 wn) := (bel H45.out HBc.out).trans (f2 _ hh4)
                  have Sn := old_of HBn.out
                  clear hwn f3
                  refine hK.out _ _ Sn (fun hHeld => ?_)
                  clear hK K Sn
                  refine wpAnyH_done (by kernel_rfl) ?_ _
                  clear hHeld
                  go_wp2_with fail
                  go_meet
                  exact ⟨rfl, _, HOF, f1, HBn.out⟩

  case rest =>
    obtain ⟨rfl, v2, HOW, hbx, hbw⟩ := hcut
    obtain ⟨av, cv, rfl⟩ := rows_slice HOW.out
    have hhic : hi < wc.heap.size := (Array.getElem?_eq_some_iff.1 hbx).1
    have HBX := Lib.hid hbx
    have y2 := cell_blk hbx 2 rfl
    have yf := frozen_blk hbx
    clear hbx
    go_upto_region 6 with fail
    obtain ⟨w6, hw6⟩ : ∃ w6, (wc.setCell ⟨hi, 2, none⟩ (.slice (some ⟨wc.heap.size, 0, none⟩) 1 1)).alloc (.cells #[.int .i64 (-1), .int .i64 (-1), .slice none 0 0] 41) = w6 := ⟨_, rfl⟩
    rw [hw6]
    obtain ⟨zz1, zz2, zz3, hsz6, zz5⟩ := lone_store HBX.out hw6
    have HW46 : Hid (Below w4.heap.size w4 w6) := hbw.trans (zz3 _ hh4)
    have HO6 := zz5 hhl HOW.out
    have hs1 := HS1.out
    have hsB := HSS.out
    subst hs1
    have HRO : Hid (RowsAt w6.heap.size w6 (.slice av (s + (B.ns - (s + 1))) cv) (B.ns - 1) (fun i => B.L (skipN s i)) (fun i => B.X (skipN s i))) := less_rows hsB HO6 HR4.out HW46.out (by omega)
    have hno : s + (B.ns - (s + 1)) = B.ns - 1 := by omega
    rw [hno] at HRO zz1
    have HBO : Hid (BookAt w6.heap.size w6 (.agg #[.slice b1 B.nv d1, .slice av (B.ns - 1) cv, .slice (some ⟨wc.heap.size, 0, none⟩) 1 1]) (lessB B s)) :=
      ⟨Nat.le_refl _, b1, d1, av, cv, _, 1, rfl, HBK4.out.vals.mono HW46.out HW46.out.size, HRO.out, lone_nodes zz2⟩
    have hwsw4 : Below ws.heap.size ws w4 := HB4.out
    have HWS6 : Hid (Below ws.heap.size ws w6) := step hwsw4 (Nat.le_refl _) HW46.out
    have HBK6 := Lib.hid (HBK.out.go HWS6.out)
    have c6 := (old_of HWS6.out).1
    have q0 := (c6 _ 0 hsz).trans q0
    have q1 := (c6 _ 1 hsz).trans q1
    have q2 := (c6 _ 2 hsz).trans q2
    have y0 := cell_blk zz1 0 rfl
    have y1 := cell_blk zz1 1 rfl
    have y2 := cell_blk zz1 2 rfl
    have hhi6 : hi < w6.heap.size := (Array.getElem?_eq_some_iff.1 zz1).1
    have hsz6' : w.heap.size < w6.heap.size := Nat.lt_of_lt_of_le hsz HWS6.out.size
    have HFIN : Hid (Below w.heap.size w w6) := Lib.hid (fin HB.out HWS6.out)
    have HB66 : Hid (Below w6.heap.size w6 w6) := Below.refl _ _
    have HGB := HG
    have HDIF : Hid (diffB B = true → diffB (lessB B s) = true) := fun h => less_diff h hsB
    have HOKL : Hid (okKB (lessB B s) = true) := less_ok HOK.out hsB
    have HGO := Lib.hid (goodB HOKL.out)
    obtain ⟨LB, hLB⟩ : ∃ L, sel (fun m => needI B m B.ns) B.nv = L := ⟨_, rfl⟩
    obtain ⟨LO, hLO⟩ : ∃ L, sel (fun m => needI (lessB B s) m (B.ns - 1)) B.nv = L := ⟨_, rfl⟩
    have HEB : Hid (eNeed B = (LB, 0)) := by unfold Hid eNeed; rw [HOK.out, if_pos rfl, eNeed_sel HG.out, hLB]
    have HEO : Hid (eNeed (lessB B s) = (LO, 0)) := by unfold Hid eNeed; rw [HOKL.out, if_pos rfl, eNeed_sel HGO.out]; exact congrArg (·, (0 : Int)) hLO
    have HLB1 : LB.length ≤ B.nv := by rw [← hLB]; exact sel_len _ _
    have HLO1 : LO.length ≤ LB.length := by rw [← hLB, ← hLO]; exact sel_mono (fun i h => less_need hsB h) _
    have HMB : Hid (∀ j, j < LB.length → ∃ n : Nat, LB.getD j 0 = (n : Int) ∧ n < B.nv ∧ needI B n B.ns = true) := fun j hj => by
      have h1 : LB.getD j 0 ∈ LB := by simp [List.getD, hj]
      rw [← hLB] at h1
      obtain ⟨n, h2, h3, h4⟩ := (sel_mem _ _ _).1 h1
      rw [hLB] at h4
      exact ⟨n, h4, h2, h3⟩
    have HMO : Hid (∀ j, j < LO.length → LB.contains (LO.getD j 0) = true) := fun j hj => by
      have h1 : LO.getD j 0 ∈ LO := by simp [List.getD, hj]
      rw [← hLO] at h1
      obtain ⟨n, h2, h3, h4⟩ := (sel_mem _ _ _).1 h1
      rw [hLO] at h4
      rw [List.contains_iff_mem, ← hLB]
      exact (sel_mem _ _ _).2 ⟨n, h2, less_need hsB h3, h4⟩
    obtain ⟨nk, hnk⟩ : ∃ n, LB.length = n := ⟨_, rfl⟩
    obtain ⟨no, hnno⟩ : ∃ n, LO.length = n := ⟨_, rfl⟩
    have HNK := Lib.hid hnk
    have HNO := Lib.hid hnno
    have HMO2 : Hid (∀ j, j < no → (anyB nk fun i => decide (LB.getD i 0 = LO.getD j 0)) = true) := fun j hj => by rw [← HNK.out, anyB_list]; exact HMO.out j (by rw [HNO.out]; exact hj)
    rw [hnk] at HLB1 HLO1
    rw [hnno] at HLO1
    have hkn : decide (B.nv < nk) = false := by simp; omega
    have hon : decide (nk < no) = false := by simp; omega
    have hnk5 : nk ≤ 5 := by omega
    clear hLB hLO hnk hnno hsB HMO
    have HX1 : Hid True := trivial
    go_wp2_with (first
      | (go_at_call 40; have hx1 := HX1; clear HX1; go_must (refine (kNeed_any N _ B _ (HBK6.out.go HB66.out)).mono ?_; rw [HEB.out]; rintro e w7 ⟨v7, rfl, ho7, hb7⟩; obtain ⟨a7, c7, hv7⟩ := rows_slice ho7; rw [HNK.out] at hv7; subst hv7; have hi7 := ho7.ints (by rw [HNK.out]; omega); rw [HNK.out] at hi7; have HI7 := Lib.hid hi7; clear hi7 ho7; have HB7 := Lib.hid hb7; have c7 := (old_of HB7.out).1; clear hb7))
      | (go_at_call 40; go_must (refine (kNeed_any w6.heap.size _ (lessB B s) _ (HBO.out.go HB7.out)).mono ?_; rw [HEO.out]; rintro e w8 ⟨v8, rfl, ho8, hb8⟩; obtain ⟨a8, c8, hv8⟩ := rows_slice ho8; rw [HNO.out] at hv8; subst hv8; have hi8 := ho8.ints (by rw [HNO.out]; omega); rw [HNO.out] at hi8; have HI8 := Lib.hid hi8; clear hi8 ho8; have HI7a := Lib.hid (HI7.out.mono hb8 hb8.size); have HB78 := Lib.hid hb8; (try clear c7); have HB8 := Lib.hid (bel HB7.out hb8); have c8 := (old_of HB8.out).1; clear hb8)))
    go_loop [12] (fun i => ∃ k : Nat, k ≤ no ∧ i = .int .i64 k) (fun i => no - (intOf i).toNat)
    case atStart => exact ⟨0, Nat.zero_le _, rfl⟩
    case round =>
    obtain ⟨k, hk, rfl⟩ := hrel
    by_cases hkno : k < no
    · have hki : (k : Int) < (no : Int) := by omega
      obtain ⟨bb, ob, rfl, hbb, hcc⟩ := HI8.out.cells (by omega)
      have ck := hcc k hkno
      have HIN := Lib.hid (HMO2.out k hkno)
      have HKN := Lib.hid hkno
      obtain ⟨y, hy⟩ : ∃ y, LO.getD k 0 = y := ⟨_, rfl⟩
      rw [hy] at ck HIN
      clear hcc hkno hk hy
      go_wp2_with (go_at_call 24; go_must (refine (in_any _ _ _ _ _ _ HI7a.out).mono ?_; rw [HIN.out]; rintro e wq ⟨rfl, hwq⟩; rw [hwq]; clear hwq wq))
      go_round
      case rel => exact ⟨k + 1, HKN.out, by go_num⟩
      case measure => simp [intOf]; have := HKN.out; omega
    · have hki : ¬ (k : Int) < (no : Int) := by omega
      clear hkno hk
      have HM256 : Hid (m < 256) := by
        have h1 := HM0.out
        have h2 : 2 ^ B.nv ≤ 2 ^ 5 := Nat.pow_le_pow_right (by omega) hnv5
        unfold Hid; omega
      cases hdf : diffB B with
      | false =>
        have HTL : Hid (tellL (pairsL B B.ns) m = false) := by
          unfold Hid
          rw [Bool.eq_false_iff]
          intro e
          have := tell_diff HG.out e
          rw [hdf] at this
          cases this
        have HEF : Hid (eFew B = (0, 3)) := by unfold Hid eFew; rw [HOK.out, hdf]; rfl
        clear hdf
        go_wp2_with (first
          | (go_at_call 34; go_must (refine (kFew_any N _ B _ (HBK6.out.go HB8.out)).mono ?_; rw [HEF.out]; rintro e w9 ⟨rfl, hb9⟩; (try clear c8); have HB9 := Lib.hid (bel HB8.out hb9); have c9 := (old_of HB9.out).1; clear hb9))
          | (go_at_call 36; go_must (refine (isKnown3 _).mono ?_; rintro e wq ⟨rfl, hwq⟩; rw [hwq]; clear hwq wq))
          | (go_at_call 41; go_must (refine (areApart_any N _ B m _ (HBK6.out.go HB9.out) HG.out HM256.out).mono ?_; rw [HTL.out]; rintro e w10 ⟨rfl, hb10⟩; (try clear c9); have HB10 := Lib.hid (bel HB9.out hb10); have c10 := (old_of HB10.out).1; clear hb10))
          | (go_at_call 17; go_must (refine (works_any _).mono ?_; rintro e w11 ⟨rfl, hb11⟩; (try clear c10); have HB11 := Lib.hid (bel HB10.out hb11); have c11 := (old_of HB11.out).1; clear hb11)))
        go_ret
        exact ⟨rfl, fin HFIN.out HB11.out⟩
      | true =>
        have HDO := Lib.hid (HDIF.out hdf)
        obtain ⟨fw, hfw⟩ : ∃ z : Nat, fewF (pairsL B B.ns) B.nv (2 ^ B.nv) = z := ⟨_, rfl⟩
        obtain ⟨fl, hfl⟩ : ∃ z : Nat, fewF (pairsL (lessB B s) (B.ns - 1)) B.nv (2 ^ B.nv) = z := ⟨_, rfl⟩
        have HEF : Hid (eFew B = ((fw : Int), 0)) := by unfold Hid eFew; rw [HOK.out, hdf, if_pos rfl, if_pos rfl, hfw]
        have HEFO : Hid (eFew (lessB B s) = ((fl : Int), 0)) := by unfold Hid eFew; rw [HOKL.out, HDO.out, if_pos rfl, if_pos rfl]; exact congrArg (fun z : Nat => ((z : Int), (0 : Int))) hfl
        have hff : fl ≤ fw := by rw [← hfw, ← hfl]; exact less_few HSS.out
        obtain ⟨b0, hb0⟩ : ∃ z, leastL B false 8 (List.range B.ns) = z := ⟨_, rfl⟩
        obtain ⟨b1', hb1'⟩ : ∃ z, leastL B true 8 (List.range B.ns) = z := ⟨_, rfl⟩
        obtain ⟨l0, hl0⟩ : ∃ z, leastL (lessB B s) false 8 (List.range (B.ns - 1)) = z := ⟨_, rfl⟩
        obtain ⟨l1, hl1⟩ : ∃ z, leastL (lessB B s) true 8 (List.range (B.ns - 1)) = z := ⟨_, rfl⟩
        have HEA : Hid (eLeast B false = (b0, 0)) := by unfold Hid eLeast; rw [HOK.out, hdf, if_pos rfl, if_pos rfl, hb0]
        have HEM : Hid (eLeast B true = (b1', 0)) := by unfold Hid eLeast; rw [HOK.out, hdf, if_pos rfl, if_pos rfl, hb1']
        have HEAO : Hid (eLeast (lessB B s) false = (l0, 0)) := by unfold Hid eLeast; rw [HOKL.out, HDO.out, if_pos rfl, if_pos rfl]; exact congrArg (fun z : Int => (z, (0 : Int))) hl0
        have HEMO : Hid (eLeast (lessB B s) true = (l1, 0)) := by unfold Hid eLeast; rw [HOKL.out, HDO.out, if_pos rfl, if_pos rfl]; exact congrArg (fun z : Int => (z, (0 : Int))) hl1
        have hla : l0 ≤ b0 := by rw [← hl0, ← hb0]; exact less_least HG.out hdf HSS.out false
        have hlm : l1 ≤ b1' := by rw [← hl1, ← hb1']; exact less_least HG.out hdf HSS.out true
        have hffi : (fl : Int) ≤ (fw : Int) := by omega
        have HTF : Hid (tellL (pairsL B B.ns) m = true → fw ≤ many m) := fun h => by rw [← hfw]; exact tell_few HM0.out h
        clear hdf hfw hfl hb0 hb1' hl0 hl1
        have HX2 : Hid True := trivial
        have HX3 : Hid True := trivial
        have HX4 : Hid True := trivial
        cases htl : tellL (pairsL B B.ns) m with
        | false =>
          have HTL := Lib.hid htl
          clear htl HTF
          go_wp2_with (first
            | (go_at_call 34; have hx2 := HX2; clear HX2; go_must (refine (kFew_any N _ B _ (HBK6.out.go HB8.out)).mono ?_; rw [HEF.out]; rintro e w9 ⟨rfl, hb9⟩; (try clear c8); have HB9 := Lib.hid (bel HB8.out hb9); have c9 := (old_of HB9.out).1; clear hb9))
            | (go_at_call 36; go_must (refine (isKnown0 _).mono ?_; rintro e wq ⟨rfl, hwq⟩; rw [hwq]; clear hwq wq))
            | (go_at_call 41; go_must (refine (areApart_any N _ B m _ (HBK6.out.go HB9.out) HG.out HM256.out).mono ?_; rw [HTL.out]; rintro e wr ⟨rfl, hbr⟩; (try clear c9); have HBr := Lib.hid (bel HB9.out hbr); have cr := (old_of HBr.out).1; clear hbr))
            | (go_at_call 34; go_must (refine (kFew_any w6.heap.size _ (lessB B s) _ (HBO.out.go HBr.out)).mono ?_; rw [HEFO.out]; rintro e w11 ⟨rfl, hb11⟩; (try clear cr); have HB11 := Lib.hid (bel HBr.out hb11); have c11 := (old_of HB11.out).1; clear hb11))
            | (go_at_call 32; have hx3 := HX3; clear HX3; go_must (refine (kBest_any N _ B _ (HBK6.out.go HB11.out)).mono ?_; rw [HEA.out]; rintro e w12 ⟨rfl, hb12⟩; (try clear c11); have HB12 := Lib.hid (bel HB11.out hb12); have c12 := (old_of HB12.out).1; clear hb12))
            | (go_at_call 32; go_must (refine (kBest_any w6.heap.size _ (lessB B s) _ (HBO.out.go HB12.out)).mono ?_; rw [HEAO.out]; rintro e w13 ⟨rfl, hb13⟩; (try clear c12); have HB13 := Lib.hid (bel HB12.out hb13); have c13 := (old_of HB13.out).1; clear hb13))
            | (go_at_call 33; have hx4 := HX4; clear HX4; go_must (refine (kMean_any N _ B _ (HBK6.out.go HB13.out)).mono ?_; rw [HEM.out]; rintro e w14 ⟨rfl, hb14⟩; (try clear c13); have HB14 := Lib.hid (bel HB13.out hb14); have c14 := (old_of HB14.out).1; clear hb14))
            | (go_at_call 33; go_must (refine (kMean_any w6.heap.size _ (lessB B s) _ (HBO.out.go HB14.out)).mono ?_; rw [HEMO.out]; rintro e w15 ⟨rfl, hb15⟩; (try clear c14); have HB15 := Lib.hid (bel HB14.out hb15); have c15 := (old_of HB15.out).1; clear hb15))
            | (go_at_call 17; go_must (refine (works_any _).mono ?_; rintro e w16 ⟨rfl, hb16⟩; (try clear c15); have HB16 := Lib.hid (bel HB15.out hb16); have c16 := (old_of HB16.out).1; clear hb16)))
          go_ret
          exact ⟨rfl, fin HFIN.out HB16.out⟩
        | true =>
          have HTL := Lib.hid htl
          have hmf : ¬ (many m : Int) < (fw : Int) := by have := HTF.out htl; omega
          have hmfd : decide (many m < fw) = false := by simp; omega
          have HBIT : Hid (∀ n, needI B n B.ns = true → m.testBit n = true) := fun n hn => tell_need HG.out htl hn
          obtain ⟨mm, hmm⟩ : ∃ z, many m = z := ⟨_, rfl⟩
          have HMM := Lib.hid hmm
          rw [hmm] at hmf hmfd
          clear htl HTF hmm
          go_wp2_with (first
            | (go_at_call 34; have hx2 := HX2; clear HX2; go_must (refine (kFew_any N _ B _ (HBK6.out.go HB8.out)).mono ?_; rw [HEF.out]; rintro e w9 ⟨rfl, hb9⟩; have HP9 := Lib.hid hb9; (try clear c8); have HB9 := Lib.hid (bel HB8.out hb9); have c9 := (old_of HB9.out).1; clear hb9))
            | (go_at_call 36; go_must (refine (isKnown0 _).mono ?_; rintro e wq ⟨rfl, hwq⟩; rw [hwq]; clear hwq wq))
            | (go_at_call 41; go_must (refine (areApart_any N _ B m _ (HBK6.out.go HB9.out) HG.out HM256.out).mono ?_; rw [HTL.out]; rintro e w10 ⟨rfl, hb10⟩; have HP10 := Lib.hid (bel HP9.out hb10); (try clear c9); have HB10 := Lib.hid (bel HB9.out hb10); have c10 := (old_of HB10.out).1; clear hb10))
            | (go_at_call 42; go_must (refine (rMany_any m HM256.out _).mono ?_; rw [HMM.out]; rintro e wq ⟨rfl, hwq⟩; rw [hwq]; clear hwq wq)))
          have HI7b := Lib.hid (HI7a.out.mono HP10.out HP10.out.size)
          have HBzz : Hid (Below w10.heap.size w10 w10) := Below.refl _ _
          clear c10
          go_loopw [15] (fun i wr => ∃ k : Nat, k ≤ nk ∧ i = .int .i64 k ∧ Hid (Below w10.heap.size w10 wr)) (fun i _ => nk - (intOf i).toNat)
          case atStart => exact ⟨0, Nat.zero_le _, rfl, HBzz⟩
          case round =>
          obtain ⟨k, hk, rfl, HBq⟩ := hrel
          have HBr := Lib.hid (bel HB10.out HBq.out)
          have cr := (old_of HBr.out).1
          by_cases hknk : k < nk
          · have hki : (k : Int) < (nk : Int) := by omega
            obtain ⟨bb, ob, rfl, hbb, hcc⟩ := HI7b.out.cells (by omega)
            have ck := hcc k hknk
            obtain ⟨n, hn1, hn2, hn3⟩ := HMB.out k (by rw [HNK.out]; exact hknk)
            rw [hn1] at ck
            have hsz10 : w.heap.size < w10.heap.size := Nat.lt_of_lt_of_le hsz6' HB10.out.size
            have q0 := ((old_of HB10.out).1 _ 0 hsz6').trans q0
            have hbit := has_bits0 ⟨m, HM256.out⟩ ⟨n, by omega⟩
            simp only [HBIT.out n hn3, Bool.not_true] at hbit
            have hn0 : ¬ ((n : Nat) : Int) < 0 := by omega
            have hmin : min n 64 = n := by omega
            have hnv0 : decide (B.nv ≤ n) = false := by simp; omega
            have HKN := Lib.hid hknk
            have Sqd := old_of HBq.out.drew; have HBqd := Sqd.2
            clear hknk hk hn1 hn2 hn3 cr
            go_upto_region 24 with fail
            refine wp_region_held_drew (S := (fun w' => (∀ b o, b < w10.heap.size → w'.cell? ⟨b, o, none⟩ = w10.cell? ⟨b, o, none⟩) ∧ Hid (Below w10.heap.size w10 w'))) (by kernel_rfl) Sqd (fun hHeld => ?_)
            (refine wpAnyH_take (i := 0) (v := ?_) rfl (by kernel_rfl) (by kernel_rfl) (by kernel_rfl) (fun _ _ _ h => h) (Or.inl ⟨by rfl, ?_⟩) (by assumption) ?_; rotate_left; (focus (intro w hSw; (try dsimp only at hSw); go_simp; (try with_reducible rfl))); (try simp only [List.getElem_toArray, List.getElem_cons_zero, List.getElem_cons_succ, Act.put, List.setIfInBounds_toArray, List.set_cons_zero, List.set_cons_succ])); (refine wpAnyH_take (i := 1) (v := ?_) rfl (by kernel_rfl) (by kernel_rfl) (by kernel_rfl) (fun _ _ _ h => h) (Or.inl ⟨by rfl, ?_⟩) (by assumption) ?_; rotate_left; (focus (intro w hSw; (try dsimp only at hSw); go_simp; (try with_reducible rfl))); (try simp only [List.getElem_toArray, List.getElem_cons_zero, List.getElem_cons_succ, Act.put, List.setIfInBounds_toArray, List.set_cons_zero, List.set_cons_succ])); (refine wpAnyH_take (i := 2) (v := ?_) rfl (by kernel_rfl) (by kernel_rfl) (by kernel_rfl) (fun _ _ _ h => h) (Or.inl ⟨by rfl, ?_⟩) (by assumption) ?_; rotate_left; (focus (intro w hSw; (try dsimp only at hSw); go_simp; (try with_reducible rfl))); (try simp only [List.getElem_toArray, List.getElem_cons_zero, List.getElem_cons_succ, Act.put, List.setIfInBounds_toArray, List.set_cons_zero, List.set_cons_succ])); (refine wpAnyH_take (i := 3) (v := ?_) rfl (by kernel_rfl) (by kernel_rfl) (by kernel_rfl) (fun _ _ _ h => h) (Or.inl ⟨by rfl, ?_⟩) (by assumption) ?_; rotate_left; (focus (intro w hSw; (try dsimp only at hSw); go_simp; (try with_reducible rfl))); (try simp only [List.getElem_toArray, List.getElem_cons_zero, List.getElem_cons_succ, Act.put, List.setIfInBounds_toArray, List.set_cons_zero, List.set_cons_succ])); (refine wpAnyH_take (i := 4) (v := ?_) rfl (by kernel_rfl) (by kernel_rfl) (by kernel_rfl) (fun _ _ _ h => h) (Or.inl ⟨by rfl, ?_⟩) (by assumption) ?_; rotate_left; (focus (intro w hSw; (try dsimp only at hSw); go_simp; (try with_reducible rfl))); (try simp only [List.getElem_toArray, List.getElem_cons_zero, List.getElem_cons_succ, Act.put, List.setIfInBounds_toArray, List.set_cons_zero, List.set_cons_succ])); (refine wpAnyH_take (i := 5) (v := ?_) rfl (by kernel_rfl) (by kernel_rfl) (by kernel_rfl) (fun _ _ _ h => h) (Or.inl ⟨by rfl, ?_⟩) (by assumption) ?_; rotate_left; (focus (intro w hSw; (try dsimp only at hSw); go_simp; (try with_reducible rfl))); (try simp only [List.getElem_toArray, List.getElem_cons_zero, List.getElem_cons_succ, Act.put, List.setIfInBounds_toArray, List.set_cons_zero, List.set_cons_succ])); (refine wpAnyH_take (i := 6) (v := ?_) rfl (by kernel_rfl) (by kernel_rfl) (by kernel_rfl) (fun _ _ _ h => h) (Or.inl ⟨by rfl, ?_⟩) (by assumption) ?_; rotate_left; (focus (intro w hSw; (try dsimp only at hSw); go_simp; (try with_reducible rfl))); (try simp only [List.getElem_toArray, List.getElem_cons_zero, List.getElem_cons_succ, Act.put, List.setIfInBounds_toArray, List.set_cons_zero, List.set_cons_succ])); (refine wpAnyH_take (i := 7) (v := ?_) rfl (by kernel_rfl) (by kernel_rfl) (by kernel_rfl) (fun _ _ _ h => h) (Or.inl ⟨by rfl, ?_⟩) (by assumption) ?_; rotate_left; (focus (intro w hSw; (try dsimp only at hSw); go_simp; (try with_reducible rfl))); (try simp only [List.getElem_toArray, List.getElem_cons_zero, List.getElem_cons_succ, Act.put, List.setIfInBounds_toArray, List.set_cons_zero, List.set_cons_succ])); (refine wpAnyH_take (i := 8) (v := ?_) rfl (by kernel_rfl) (by kernel_rfl) (by kernel_rfl) (fun _ _ _ h => h) (Or.inl ⟨by rfl, ?_⟩) (by assumption) ?_; rotate_left; (focus (intro w hSw; (try dsimp only at hSw); go_simp; (try with_reducible rfl))); (try simp only [List.getElem_toArray, List.getElem_cons_zero, List.getElem_cons_succ, Act.put, List.setIfInBounds_toArray, List.set_cons_zero, List.set_cons_succ])); (refine wpAnyH_take (i := 9) (v := ?_) rfl (by kernel_rfl) (by kernel_rfl) (by kernel_rfl) (fun _ _ _ h => h) (Or.inl ⟨by rfl, ?_⟩) (by assumption) ?_; rotate_left; (focus (intro w hSw; (try dsimp only at hSw); go_simp; (try with_reducible rfl))); (try simp only [List.getElem_toArray, List.getElem_cons_zero, List.getElem_cons_succ, Act.put, List.setIfInBounds_toArray, List.set_cons_zero, List.set_cons_succ])); (refine wpAnyH_take (i := 10) (v := ?_) rfl (by kernel_rfl) (by kernel_rfl) (by kernel_rfl) (fun _ _ _ h => h) (Or.inl ⟨by rfl, ?_⟩) (by assumption) ?_; rotate_left; (focus (intro w hSw; (try dsimp only at hSw); go_simp; (try with_reducible rfl))); (try simp only [List.getElem_toArray, List.getElem_cons_zero, List.getElem_cons_succ, Act.put, List.setIfInBounds_toArray, List.set_cons_zero, List.set_cons_succ])); (refine wpAnyH_take (i := 11) (v := ?_) rfl (by kernel_rfl) (by kernel_rfl) (by kernel_rfl) (fun _ _ _ h => h) (Or.inl ⟨by rfl, ?_⟩) (by assumption) ?_; rotate_left; (focus (intro w hSw; (try dsimp only at hSw); go_simp; (try with_reducible rfl))); (try simp only [List.getElem_toArray, List.getElem_cons_zero, List.getElem_cons_succ, Act.put, List.setIfInBounds_toArray, List.set_cons_zero, List.set_cons_succ])); (refine wpAnyH_take (i := 12) (v := ?_) rfl (by kernel_rfl) (by kernel_rfl) (by kernel_rfl) (fun _ _ _ h => h) (Or.inl ⟨by rfl, ?_⟩) (by assumption) ?_; rotate_left; (focus (intro w hSw; (try dsimp only at hSw); go_simp; (try with_reducible rfl))); (try simp only [List.getElem_toArray, List.getElem_cons_zero, List.getElem_cons_succ, Act.put, List.setIfInBounds_toArray, List.set_cons_zero, List.set_cons_succ])); (refine wpAnyH_take (i := 13) (v := ?_) rfl (by kernel_rfl) (by kernel_rfl) (by kernel_rfl) (fun _ _ _ h => h) (Or.inl ⟨by rfl, ?_⟩) (by assumption) ?_; rotate_left; (focus (intro w hSw; (try dsimp only at hSw); go_simp; (try with_reducible rfl))); (try simp only [List.getElem_toArray, List.getElem_cons_zero, List.getElem_cons_succ, Act.put, List.setIfInBounds_toArray, List.set_cons_zero, List.set_cons_succ])); (refine wpAnyH_take (i := 14) (v := ?_) rfl (by kernel_rfl) (by kernel_rfl) (by kernel_rfl) (fun _ _ _ h => h) (Or.inl ⟨by rfl, ?_⟩) (by assumption) ?_; rotate_left; (focus (intro w hSw; (try dsimp only at hSw); go_simp; (try with_reducible rfl))); (try simp only [List.getElem_toArray, List.getElem_cons_zero, List.getElem_cons_succ, Act.put, List.setIfInBounds_toArray, List.set_cons_zero, List.set_cons_succ])); (refine wpAnyH_take (i := 15) (v := ?_) rfl (by kernel_rfl) (by kernel_rfl) (by kernel_rfl) (fun _ _ _ h => h) (Or.inl ⟨by rfl, ?_⟩) (by assumption) ?_; rotate_left; (focus (intro w hSw; (try dsimp only at hSw); go_simp; (try with_reducible rfl))); (try simp only [List.getElem_toArray, List.getElem_cons_zero, List.getElem_cons_succ, Act.put, List.setIfInBounds_toArray, List.set_cons_zero, List.set_cons_succ])); (refine wpAnyH_take (i := 16) (v := ?_) rfl (by kernel_rfl) (by kernel_rfl) (by kernel_rfl) (fun _ _ _ h => h) (Or.inl ⟨by rfl, ?_⟩) (by assumption) ?_; rotate_left; (focus (intro w hSw; (try dsimp only at hSw); go_simp; (try with_reducible rfl))); (try simp only [List.getElem_toArray, List.getElem_cons_zero, List.getElem_cons_succ, Act.put, List.setIfInBounds_toArray, List.set_cons_zero, List.set_cons_succ])); (refine wpAnyH_take (i := 17) (v := ?_) rfl (by kernel_rfl) (by kernel_rfl) (by kernel_rfl) (fun _ _ _ h => h) (Or.inl ⟨by rfl, ?_⟩) (by assumption) ?_; rotate_left; (focus (intro w hSw; (try dsimp only at hSw); go_simp; (try with_reducible rfl))); (try simp only [List.getElem_toArray, List.getElem_cons_zero, List.getElem_cons_succ, Act.put, List.setIfInBounds_toArray, List.set_cons_zero, List.set_cons_succ])); (refine wpAnyH_take (i := 18) (v := ?_) rfl (by kernel_rfl) (by kernel_rfl) (by kernel_rfl) (fun _ _ _ h => h) (Or.inl ⟨by rfl, ?_⟩) (by assumption) ?_; rotate_left; (focus (intro w hSw; (try dsimp only at hSw); go_simp; (try with_reducible rfl))); (try simp only [List.getElem_toArray, List.getElem_cons_zero, List.getElem_cons_succ, Act.put, List.setIfInBounds_toArray, List.set_cons_zero, List.set_cons_succ])); (refine wpAnyH_take (i := 19) (v := ?_) rfl (by kernel_rfl) (by kernel_rfl) (by kernel_rfl) (fun _ _ _ h => h) (Or.inl ⟨by rfl, ?_⟩) (by assumption) ?_; rotate_left; (focus (intro w hSw; (try dsimp only at hSw); go_simp; (try with_reducible rfl))); (try simp only [List.getElem_toArray, List.getElem_cons_zero, List.getElem_cons_succ, Act.put, List.setIfInBounds_toArray, List.set_cons_zero, List.set_cons_succ])); (refine wpAnyH_take (i := 20) (v := ?_) rfl (by kernel_rfl) (by kernel_rfl) (by kernel_rfl) (fun _ _ _ h => h) (Or.inl ⟨by rfl, ?_⟩) (by assumption) ?_; rotate_left; (focus (intro w hSw; (try dsimp only at hSw); go_simp; (try with_reducible rfl))); (try simp only [List.getElem_toArray, List.getElem_cons_zero, List.getElem_cons_succ, Act.put, List.setIfInBounds_toArray, List.set_cons_zero, List.set_cons_succ])); (refine wpAnyH_take (i := 21) (v := ?_) rfl (by kernel_rfl) (by kernel_rfl) (by kernel_rfl) (fun _ _ _ h => h) (Or.inl ⟨by rfl, ?_⟩) (by assumption) ?_; rotate_left; (focus (intro w hSw; (try dsimp only at hSw); go_simp; (try with_reducible rfl))); (try simp only [List.getElem_toArray, List.getElem_cons_zero, List.getElem_cons_succ, Act.put, List.setIfInBounds_toArray, List.set_cons_zero, List.set_cons_succ])); (refine wpAnyH_take (i := 22) (v := ?_) rfl (by kernel_rfl) (by kernel_rfl) (by kernel_rfl) (fun _ _ _ h => h) (Or.inl ⟨by rfl, ?_⟩) (by assumption) ?_; rotate_left; (focus (intro w hSw; (try dsimp only at hSw); go_simp; (try with_reducible rfl))); (try simp only [List.getElem_toArray, List.getElem_cons_zero, List.getElem_cons_succ, Act.put, List.setIfInBounds_toArray, List.set_cons_zero, List.set_cons_succ])); (refine wpAnyH_take (i := 23) (v := ?_) rfl (by kernel_rfl) (by kernel_rfl) (by kernel_rfl) (fun _ _ _ h => h) (Or.inl ⟨by rfl, ?_⟩) (by assumption) ?_; rotate_left; (focus (intro w hSw; (try dsimp only at hSw); go_simp; (try with_reducible rfl))); (try simp only [List.getElem_toArray, List.getElem_cons_zero, List.getElem_cons_succ, Act.put, List.setIfInBounds_toArray, List.set_cons_zero, List.set_cons_succ])); (refine wpAnyH_take (i := 24) (v := ?_) rfl (by kernel_rfl) (by kernel_rfl) (by kernel_rfl) (fun _ _ _ h => h) (Or.inl ⟨by rfl, ?_⟩) (by assumption) ?_; rotate_left; (focus (intro w hSw; (try dsimp only at hSw); go_simp; (try with_reducible rfl))); (try simp only [List.getElem_toArray, List.getElem_cons_zero, List.getElem_cons_succ, Act.put, List.setIfInBounds_toArray, List.set_cons_zero, List.set_cons_succ]))
            refine wpAnyH_done (by kernel_rfl) ?_ _; clear hHeld
            clear Sqd
            go_wp2
            go_roundw
            case rel => first | exact ⟨k + 1, HKN.out, by go_num, HBqd⟩ | exact ⟨k + 1, HKN.out, by go_num⟩
            case measure => simp [intOf]; have := HKN.out; omega
          · have hki : ¬ (k : Int) < (nk : Int) := by omega
            clear hknk hk
            go_wp2_with (first
            | (go_at_call 34; go_must (refine (kFew_any w6.heap.size _ (lessB B s) _ (HBO.out.go HBr.out)).mono ?_; rw [HEFO.out]; rintro e w11 ⟨rfl, hb11⟩; (try clear cr); have HB11 := Lib.hid (bel HBr.out hb11); have c11 := (old_of HB11.out).1; clear hb11))
            | (go_at_call 32; have hx3 := HX3; clear HX3; go_must (refine (kBest_any N _ B _ (HBK6.out.go HB11.out)).mono ?_; rw [HEA.out]; rintro e w12 ⟨rfl, hb12⟩; (try clear c11); have HB12 := Lib.hid (bel HB11.out hb12); have c12 := (old_of HB12.out).1; clear hb12))
            | (go_at_call 32; go_must (refine (kBest_any w6.heap.size _ (lessB B s) _ (HBO.out.go HB12.out)).mono ?_; rw [HEAO.out]; rintro e w13 ⟨rfl, hb13⟩; (try clear c12); have HB13 := Lib.hid (bel HB12.out hb13); have c13 := (old_of HB13.out).1; clear hb13))
            | (go_at_call 33; have hx4 := HX4; clear HX4; go_must (refine (kMean_any N _ B _ (HBK6.out.go HB13.out)).mono ?_; rw [HEM.out]; rintro e w14 ⟨rfl, hb14⟩; (try clear c13); have HB14 := Lib.hid (bel HB13.out hb14); have c14 := (old_of HB14.out).1; clear hb14))
            | (go_at_call 33; go_must (refine (kMean_any w6.heap.size _ (lessB B s) _ (HBO.out.go HB14.out)).mono ?_; rw [HEMO.out]; rintro e w15 ⟨rfl, hb15⟩; (try clear c14); have HB15 := Lib.hid (bel HB14.out hb15); have c15 := (old_of HB15.out).1; clear hb15))
            | (go_at_call 17; go_must (refine (works_any _).mono ?_; rintro e w16 ⟨rfl, hb16⟩; (try clear c15); have HB16 := Lib.hid (bel HB15.out hb16); have c16 := (old_of HB16.out).1; clear hb16)))
            go_ret
            exact ⟨rfl, fin HFIN.out HB16.out⟩
end Go.Proofs.Ytghimbggbgcgkaa
