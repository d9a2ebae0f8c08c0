/-
  IsFit: whether a gift fits, as the reference finds it.
-/
import Derived.Test.YtnnngbnimmcjiaaRef3
import Derived.Test.YtnnngbnimmcjiaaFit
namespace Go.Proofs.Ytnnngbnimmcjiaa
open Go.RowKit

theorem natL_lt {nw n : Nat} {x : Nat → Int} (h : ∀ i, i < n → 0 ≤ x i ∧ x i < nw) : ∀ k, k ∈ natL n x → k < nw := by
  intro k hk
  obtain ⟨i, hi, rfl⟩ := List.mem_map.1 hk
  have := h i (List.mem_range.1 hi)
  omega
theorem cS_pre (B : SB) (x : Nat → Int) (s : Nat) {k : Nat} : ∀ n, k ≤ n → cS B (natL k x) s ≤ cS B (natL n x) s := by
  intro n
  induction n with
  | zero => intro h; rw [show k = 0 by omega]; exact Nat.le_refl _
  | succ n ih =>
    intro h
    by_cases e : k = n + 1
    · rw [e]; exact Nat.le_refl _
    · rw [natL_succ, cS_app]; exact Nat.le_trans (ih (by omega)) (Nat.le_add_right _ _)

theorem put2 {W : World} {b : Nat} {x0 x1 : Value} {t : TypeId} (h : W.heap[b]? = some (.cells #[x0, x1] t)) (v0 v1 : Value) :
    ∃ W', ((W.setCell ⟨b, 0, none⟩ v0).setCell ⟨b, 1, none⟩ v1) = W' ∧ W'.heap[b]? = some (.cells #[v0, v1] t) ∧ Below b W W' :=
  ⟨_, rfl, blk_set (blk_set h 0 v0) 1 v1, ((Below.refl b W).setCell (p := ⟨b, 0, none⟩) (Nat.le_refl _) v0).setCell (p := ⟨b, 1, none⟩) (Nat.le_refl _) v1⟩

set_option maxRecDepth 100000 in
set_option maxHeartbeats 12800000 in
theorem isFit_any (N M : Nat) (v u : Value) (B : SB) (p n : Nat) (x : Nat → Int) (w : World) (h : BookAt N w v B) (hG : GoodL B p) (hu : IntsAt M w u n x) (hM : M ≤ w.heap.size) (hx : ∀ i, i < n → 0 ≤ x i ∧ x i < B.nw) (hn : n ≤ 1000) :
    Calls Try.prog 45 #[v, u] w fun e w' => e = .returned (.bool (fitL B (natL n x))) ∧ Below w.heap.size w w' := by
  obtain ⟨au, cu, rfl, _, _⟩ := id hu
  have h' := h
  obtain ⟨_, a1, z1, a2, z2, a3, z3, rfl, _⟩ := h'
  obtain ⟨ws, hws, HB, hsz, hblk⟩ := box1 w (.cells #[.slice a1 B.ns z1, .slice a2 B.ng z2, .slice a3 B.nw z3] 26)
  have q0 := cell_blk hblk 0 rfl
  have q1 := cell_blk hblk 1 rfl
  have q2 := cell_blk hblk 2 rfl
  have HBK := Lib.hid (h.go HB.out)
  have HB0 : Hid (Below ws.heap.size ws ws) := Below.refl _ _
  have HNS : Hid (N ≤ ws.heap.size) := HBK.out.1
  have hlens := h.lens
  obtain ⟨hlv, hls, hln⟩ := hlens
  clear hblk h
  have HX := Lib.hid (hu.go hM HB.out)
  have HMs : Hid (M ≤ ws.heap.size) := Nat.le_trans hM HB.out.size
  have HG := Lib.hid hG
  have HXX := Lib.hid hx
  have hns := hG.ns
  have hng := hG.ng
  clear hu hM hG hx
  have hmk := run_make_row' (P := Try.prog) 22 3 (.int .i64 0) 8 Try.underlying22 Try.infoInt rfl .i64 .i64 B.ng (by omega) (by omega)
  have S0d := old_of HB0.out.drew; have HB0d := S0d.2
  go_enter Try.func45, Try.ntmps45
  go_upto_region 1 with fail
  clear hws
  go_cut [5, 6] (fun a b wx => ∃ g gp, a = .slice (some ⟨g, 0, none⟩) B.ns B.ns ∧ b = .slice (some ⟨gp, 0, none⟩) B.ng B.ng ∧ Hid (g ≠ gp ∧ ws.heap.size ≤ g ∧ ws.heap.size ≤ gp) ∧ Hid (NB wx g B.ns (cS B (natL n x))) ∧ Hid (NB wx gp B.ng (fun _ => 0)) ∧ Hid (Below ws.heap.size ws wx))
  case first =>
    refine wp_region_held_drew (S := (fun w' => (∀ b o, b < ws.heap.size → w'.cell? ⟨b, o, none⟩ = ws.cell? ⟨b, o, none⟩) ∧ Hid (Below ws.heap.size ws w'))) (by kernel_rfl) S0d (fun hHeld => ?_)
    (refine wpAnyH_take (i := 0) (v := ?_) rfl (by kernel_rfl) (by kernel_rfl) (by kernel_rfl) (fun _ _ _ h => h) (Or.inl ⟨by rfl, ?_⟩) (by assumption) ?_; rotate_left; (focus (intro w hSw; (try dsimp only at hSw); go_simp; (try with_reducible rfl))); (try simp only [List.getElem_toArray, List.getElem_cons_zero, List.getElem_cons_succ, Act.put, List.setIfInBounds_toArray, List.set_cons_zero, List.set_cons_succ])); (refine wpAnyH_take (i := 1) (v := ?_) rfl (by kernel_rfl) (by kernel_rfl) (by kernel_rfl) (fun _ _ _ h => h) (Or.inl ⟨by rfl, ?_⟩) (by assumption) ?_; rotate_left; (focus (intro w hSw; (try dsimp only at hSw); go_simp; (try with_reducible rfl))); (try simp only [List.getElem_toArray, List.getElem_cons_zero, List.getElem_cons_succ, Act.put, List.setIfInBounds_toArray, List.set_cons_zero, List.set_cons_succ]))
    (refine wpAnyH_take (i := 3) (v := ?_) rfl (by kernel_rfl) (by kernel_rfl) (by kernel_rfl) (fun _ _ _ h => h) (Or.inl ⟨by rfl, ?_⟩) (by assumption) ?_; rotate_left; (focus (intro w hSw; (try dsimp only at hSw); go_simp; (try with_reducible rfl))); (try simp only [List.getElem_toArray, List.getElem_cons_zero, List.getElem_cons_succ, Act.put, List.setIfInBounds_toArray, List.set_cons_zero, List.set_cons_succ])); (refine wpAnyH_take (i := 4) (v := ?_) rfl (by kernel_rfl) (by kernel_rfl) (by kernel_rfl) (fun _ _ _ h => h) (Or.inl ⟨by rfl, ?_⟩) (by assumption) ?_; rotate_left; (focus (intro w hSw; (try dsimp only at hSw); go_simp; (try with_reducible rfl))); (try simp only [List.getElem_toArray, List.getElem_cons_zero, List.getElem_cons_succ, Act.put, List.setIfInBounds_toArray, List.set_cons_zero, List.set_cons_succ])); (refine wpAnyH_take (i := 5) (v := ?_) rfl (by kernel_rfl) (by kernel_rfl) (by kernel_rfl) (fun _ _ _ h => h) (Or.inl ⟨by rfl, ?_⟩) (by assumption) ?_; rotate_left; (focus (intro w hSw; (try dsimp only at hSw); go_simp; (try with_reducible rfl))); (try simp only [List.getElem_toArray, List.getElem_cons_zero, List.getElem_cons_succ, Act.put, List.setIfInBounds_toArray, List.set_cons_zero, List.set_cons_succ]))
    refine wpAnyH_ready (rs := [2, 6]) (by kernel_rfl) (by simp) ?_; refine AllReadyH.cons rfl (fun K hK => ?_) (AllReadyH.cons rfl (fun K hK => ?_) AllReadyH.nil)
    · go_simp
      go_at_call 19
      refine (counts_any N M _ _ B p n x _ (HBK.out.go HB0d.out) HG.out (HX.out.go HMs.out HB0d.out) (Nat.le_trans HMs.out HB0d.out.size) HXX.out hn).mono ?_
      rintro e w1 ⟨⟨g, rfl, hg0, hnb⟩, hb1⟩
      have HG0 : Hid (ws.heap.size ≤ g) := hg0
      have HNB := Lib.hid hnb
      have S1 := old_of (bel HB0d.out hb1)
      have HB1 := S1.2
      clear hb1 hnb hg0
      refine hK.out _ _ S1 (fun hHeld => ?_); clear hK K; (try simp only [List.getElem_toArray, List.getElem_cons_zero, List.getElem_cons_succ, Act.put, List.setIfInBounds_toArray, List.set_cons_zero, List.set_cons_succ])
      (refine wpAnyH_take (i := 7) (v := ?_) rfl (by kernel_rfl) (by kernel_rfl) (by kernel_rfl) (fun _ _ _ h => h) (Or.inl ⟨by rfl, ?_⟩) (by assumption) ?_; rotate_left; (focus (intro w hSw; (try dsimp only at hSw); go_simp; (try with_reducible rfl))); (try simp only [List.getElem_toArray, List.getElem_cons_zero, List.getElem_cons_succ, Act.put, List.setIfInBounds_toArray, List.set_cons_zero, List.set_cons_succ]))
      refine wpAnyH_ready (rs := [6]) (by kernel_rfl) (by simp) ?_; refine AllReadyH.cons rfl (fun K hK => ?_) AllReadyH.nil; go_simp
      obtain ⟨w2, hw2, HB2, hsz2, hblk2⟩ := box1 w1 (.cells (madeCells #[.int .i64 0] B.ng) 3)
      rw [hw2]
      have S2 := old_of (bel HB1.out HB2.out)
      have HP2 := Lib.hid (NB.made hblk2)
      have HN2 := Lib.hid (HNB.out.keep (HB2.out.block _ HNB.out.lt))
      have hlt := HNB.out.lt
      refine hK.out _ _ S2 (fun hHeld => ?_)
      clear hK K hw2
      (try simp only [List.getElem_toArray, List.getElem_cons_zero, List.getElem_cons_succ, Act.put, List.setIfInBounds_toArray, List.set_cons_zero, List.set_cons_succ])
      (refine wpAnyH_take (i := 8) (v := ?_) rfl (by kernel_rfl) (by kernel_rfl) (by kernel_rfl) (fun _ _ _ h => h) (Or.inl ⟨by rfl, ?_⟩) (by assumption) ?_; rotate_left; (focus (intro w hSw; (try dsimp only at hSw); go_simp; (try with_reducible rfl))); (try simp only [List.getElem_toArray, List.getElem_cons_zero, List.getElem_cons_succ, Act.put, List.setIfInBounds_toArray, List.set_cons_zero, List.set_cons_succ]))
      refine wpAnyH_done (by kernel_rfl) ?_ _; clear hHeld
      go_wp2_with fail
      go_meet
      exact ⟨g, w1.heap.size, rfl, rfl, ⟨by omega, HG0.out, HB1.out.size⟩, HN2, HP2, S2.2⟩
    · go_simp
      obtain ⟨w1, hw1, hb1, hblk1⟩ : ∃ w1, (ws.alloc (.cells (madeCells #[.int .i64 0] B.ng) 3)).drew = w1 ∧ Below ws.heap.size ws w1 ∧ w1.heap[ws.heap.size]? = some (.cells (madeCells #[.int .i64 0] B.ng) 3) := ⟨_, rfl, (below_alloc (Nat.le_refl _) _).drew, World.alloc_heap_new _ _⟩
      rw [hw1]
      have HP1 := Lib.hid (NB.made hblk1)
      have S1 := old_of hb1
      have HB1 := S1.2
      refine hK.out _ _ S1 (fun hHeld => ?_)
      clear hK K hw1 hblk1 hb1
      (try simp only [List.getElem_toArray, List.getElem_cons_zero, List.getElem_cons_succ, Act.put, List.setIfInBounds_toArray, List.set_cons_zero, List.set_cons_succ])
      refine wpAnyH_ready (rs := [2]) (by kernel_rfl) (by simp) ?_; refine AllReadyH.cons rfl (fun K hK => ?_) AllReadyH.nil; go_simp
      go_at_call 19
      refine (counts_any N M _ _ B p n x _ (HBK.out.go HB1.out) HG.out (HX.out.go HMs.out HB1.out) (Nat.le_trans HMs.out HB1.out.size) HXX.out hn).mono ?_
      rintro e w2 ⟨⟨g, rfl, hg0, hnb⟩, hb2⟩
      have HNB := Lib.hid hnb
      have S2 := old_of (bel HB1.out hb2)
      have HP2 := Lib.hid (HP1.out.keep (hb2.block _ HP1.out.lt))
      have hlt := HP1.out.lt
      have hs1 := HB1.out.size
      refine hK.out _ _ S2 (fun hHeld => ?_); clear hK K; (try simp only [List.getElem_toArray, List.getElem_cons_zero, List.getElem_cons_succ, Act.put, List.setIfInBounds_toArray, List.set_cons_zero, List.set_cons_succ])
      (refine wpAnyH_take (i := 7) (v := ?_) rfl (by kernel_rfl) (by kernel_rfl) (by kernel_rfl) (fun _ _ _ h => h) (Or.inl ⟨by rfl, ?_⟩) (by assumption) ?_; rotate_left; (focus (intro w hSw; (try dsimp only at hSw); go_simp; (try with_reducible rfl))); (try simp only [List.getElem_toArray, List.getElem_cons_zero, List.getElem_cons_succ, Act.put, List.setIfInBounds_toArray, List.set_cons_zero, List.set_cons_succ])); (refine wpAnyH_take (i := 8) (v := ?_) rfl (by kernel_rfl) (by kernel_rfl) (by kernel_rfl) (fun _ _ _ h => h) (Or.inl ⟨by rfl, ?_⟩) (by assumption) ?_; rotate_left; (focus (intro w hSw; (try dsimp only at hSw); go_simp; (try with_reducible rfl))); (try simp only [List.getElem_toArray, List.getElem_cons_zero, List.getElem_cons_succ, Act.put, List.setIfInBounds_toArray, List.set_cons_zero, List.set_cons_succ]))
      refine wpAnyH_done (by kernel_rfl) ?_ _; clear hHeld
      go_wp2_with fail
      go_meet
      exact ⟨g, ws.heap.size, rfl, rfl, ⟨by omega, by omega, Nat.le_refl _⟩, HNB, HP2, S2.2⟩
  case rest =>
    obtain ⟨g, gp, rfl, rfl, hne, HC, HP, HBc⟩ := hcut
    have HNE := hne
    obtain ⟨hgg, hgs, hgps⟩ := hne.out
    have HCF : Hid (∀ s, s < B.ns → ¬ ((cS B (natL n x) s : Nat) : Int) ≤ B.C s → fitL B (natL n x) = false) := fun s hs hlt => by
      rw [Bool.eq_false_iff]
      intro hf
      exact hlt ((fit_le HG.out _ (natL_lt HXX.out) hf).1 s hs)
    have r0 := (HBc.out.cell (p := ⟨w.heap.size, 0, none⟩) hsz).trans q0
    clear hmk
    go_wp2
    go_loopw [7] (fun i wr => ∃ k : Nat, k ≤ B.ns ∧ i = .int .i64 k ∧ Hid (∀ j, j < k → ((cS B (natL n x) j : Nat) : Int) ≤ B.C j) ∧ Hid (Drawn wc wr)) (fun i _ => B.ns - (intOf i).toNat)
    case atStart => exact ⟨0, Nat.zero_le _, rfl, fun j hj => absurd hj (Nat.not_lt_zero j), Drawn.refl _⟩
    case round =>
      obtain ⟨k, hk, rfl, hj, HD⟩ := hrel
      by_cases hkn : k < B.ns
      · have hki : (k : Int) < (B.ns : Int) := by omega
        obtain ⟨b, off, rfl, hbN, hr⟩ := (HBK.out.go HBc.out).scions.cells (by omega)
        have c0 := HD.out.cell (hr k hkn)
        have d0 := HD.out.cell (HC.out.cell hkn)
        replace r0 := HD.out.cell r0
        by_cases hle : ((cS B (natL n x) k : Nat) : Int) ≤ B.C k
        · have hle' : decide (B.C k < ((cS B (natL n x) k : Nat) : Int)) = false := decide_eq_false (by omega)
          have HLE := Lib.hid hle
          obtain ⟨z, hz⟩ : ∃ z, cS B (natL n x) k = z := ⟨_, rfl⟩
          rw [hz] at hle' d0
          clear hr hle hz
          go_wp2
          go_quiet (fail)
          go_wp2
          go_roundw
          case rel => exact ⟨k + 1, by omega, by go_num, lt_succ hj.out HLE.out, HD.out.more _⟩
          case measure => simp [intOf]; omega
        · have hle' : decide (B.C k < ((cS B (natL n x) k : Nat) : Int)) = true := decide_eq_true (by omega)
          have HO := Lib.hid (HCF.out k hkn (by omega))
          obtain ⟨z, hz⟩ : ∃ z, cS B (natL n x) k = z := ⟨_, rfl⟩
          rw [hz] at hle' d0
          clear hr hle hz
          go_wp2
          go_quiet (fail)
          go_wp2
          go_ret
          exact ⟨ret_bool HO.out.symm, fin HB.out (bel HBc.out ((HD.out.more _).below _))⟩
      · have hki : ¬ (k : Int) < (B.ns : Int) := by omega
        have HSA : Hid (∀ j, j < B.ns → ((cS B (natL n x) j : Nat) : Int) ≤ B.C j) := fun j hj' => hj.out j (by omega)
        have HBr : Hid (Below ws.heap.size ws wr) := bel HBc.out (HD.out.below _)
        have HPr : Hid (NB wr gp B.ng (cG B (natL 0 x))) := HP.out.keep (by obtain ⟨q, hq⟩ := HD.out; rw [hq]; rfl)
        replace r0 := HD.out.cell r0
        obtain ⟨wo, hwo⟩ : ∃ wo, wo = wr := ⟨_, rfl⟩
        subst hwo
        clear HP HC HCF r0
        go_wp2
        go_loopw [8] (fun i wr => ∃ k : Nat, k ≤ n ∧ i = .int .i64 k ∧ Hid (fitL B (natL k x) = true) ∧ Hid (NB wr gp B.ng (cG B (natL k x))) ∧ Hid (Below ws.heap.size ws wr)) (fun i _ => n - (intOf i).toNat)
        case atStart => exact ⟨0, Nat.zero_le _, rfl, rfl, HPr, HBr⟩
        case round =>
          obtain ⟨k, hk, rfl, HFK, HP, HBr⟩ := hrel
          by_cases hkn : k < n
          · have hki : (k : Int) < (n : Int) := by omega
            obtain ⟨b, off, e, hbM, hr⟩ := HX.out.cells (by omega)
            cases e
            have HR := Lib.hid hr
            obtain ⟨y, hy, hyn⟩ : ∃ y : Nat, x k = y ∧ y < B.nw := ⟨(x k).toNat, by have := HXX.out k hkn; omega, by have := HXX.out k hkn; omega⟩
            have HY := Lib.hid hy
            have hbs : b < ws.heap.size := by have := HMs.out; omega
            obtain ⟨b3, off3, e3, hb3, hr3⟩ := HBK.out.wants.cells (by omega)
            cases e3
            have HR3 := Lib.hid hr3
            have hb3s : b3 < ws.heap.size := by have := HNS.out; omega
            obtain ⟨s, hs, hsn, hse⟩ : ∃ s, B.sN y = s ∧ s < B.ns ∧ B.S y = s := ⟨_, rfl, HG.out.sN hyn⟩
            obtain ⟨a, ha, han, hae⟩ : ∃ a, B.gN y = a ∧ a < B.ng ∧ B.G y = a := ⟨_, rfl, HG.out.gN hyn⟩
            obtain ⟨f, hf, hfn, hfe⟩ : ∃ f, B.fN y = f ∧ f < 4 ∧ B.F (B.gN y) = f := ⟨_, rfl, HG.out.fN hyn⟩
            rw [ha] at hfe
            obtain ⟨b2, off2, e2, hb2, hr2⟩ := HBK.out.gardens.cells (by omega)
            cases e2
            have HR2 := Lib.hid hr2
            have hb2s : b2 < ws.heap.size := by have := HNS.out; omega
            have HSE := Lib.hid hs
            have HAE := Lib.hid ha
            have HFE := Lib.hid hf
            have HSQ := Lib.hid hse
            have HAQ := Lib.hid hae
            have HFQ := Lib.hid hfe
            have HYN := Lib.hid hyn
            have HL : Hid (natL (k + 1) x = natL k x ++ [y]) := by unfold Hid; rw [natL_succ, hy]; rfl
            have hlk : ∀ j, j ∈ natL k x → j < B.nw := natL_lt fun i hi => HXX.out i (by omega)
            have HADD := Lib.hid (add_iff HG.out hlk hyn HFK.out)
            have HNX : Hid (fitL B (natL (k + 1) x) = addOK B (natL k x) y) := by unfold Hid; rw [HL.out, fitL_snoc, HFK.out, Bool.true_and]
            have HCS : Hid (decide (((cS B (natL k x ++ [y]) s : Nat) : Int) ≤ B.C s) = true) := by
              unfold Hid
              rw [← HL.out]
              have h1 := HSA.out s hsn
              have h2 := cS_pre B x s n (show k + 1 ≤ n by omega)
              exact decide_eq_true (by omega)
            have HNO : Hid (addOK B (natL k x) y = false → fitL B (natL n x) = false) := fun h => fit_pre B x n (show k + 1 ≤ n by omega) (HNX.out.trans h)
            rw [HSE.out, HAE.out, HFE.out, HCS.out, Bool.true_and] at HADD
            have c0 := (HBr.out.cell (p := ⟨b, off + k, none⟩) hbs).trans (hr k hkn)
            rw [hy] at c0
            have c1 := (HBr.out.cell (p := ⟨b3, off3 + y * 2, none⟩) hb3s).trans (hr3 y hyn).1
            have c2 := (HBr.out.cell (p := ⟨b3, off3 + y * 2 + 1, none⟩) hb3s).trans (hr3 y hyn).2
            rw [hae] at c1
            rw [hse] at c2
            have r2 := (HBr.out.cell (p := ⟨w.heap.size, 2, none⟩) hsz).trans q2
            have hyi : (y : Int) < (B.nw : Int) := by omega
            have hsw : ws.heap.size ≤ wr.heap.size := HBr.out.size
            have hbw : b < wr.heap.size := by omega
            have hb3w : b3 < wr.heap.size := by omega
            have hhw : w.heap.size < wr.heap.size := by omega
            have HBZ : Hid (Below wr.heap.size wr wr.drew) := (Below.refl _ _).drew
            have SRd := old_of HBZ.out
            clear hr hr2 hr3 hy hs ha hf hse hae hfe hlk hyn
            go_wp2
            refine wp_region_held_drew (S := (fun w' => (∀ b o, b < wr.heap.size → w'.cell? ⟨b, o, none⟩ = wr.cell? ⟨b, o, none⟩) ∧ Hid (Below wr.heap.size wr w'))) (by kernel_rfl) SRd (fun hHeld => ?_)
            (refine wpAnyH_take (i := 0) (v := ?_) rfl (by kernel_rfl) (by kernel_rfl) (by kernel_rfl) (fun _ _ _ h => h) (Or.inl ⟨by rfl, ?_⟩) (by assumption) ?_; rotate_left; (focus (intro w hSw; (try dsimp only at hSw); go_simp; (try with_reducible rfl))); (try simp only [List.getElem_toArray, List.getElem_cons_zero, List.getElem_cons_succ, Act.put, List.setIfInBounds_toArray, List.set_cons_zero, List.set_cons_succ])); (refine wpAnyH_take (i := 1) (v := ?_) rfl (by kernel_rfl) (by kernel_rfl) (by kernel_rfl) (fun _ _ _ h => h) (Or.inl ⟨by rfl, ?_⟩) (by assumption) ?_; rotate_left; (focus (intro w hSw; (try dsimp only at hSw); go_simp; (try with_reducible rfl))); (try simp only [List.getElem_toArray, List.getElem_cons_zero, List.getElem_cons_succ, Act.put, List.setIfInBounds_toArray, List.set_cons_zero, List.set_cons_succ])); (refine wpAnyH_take (i := 2) (v := ?_) rfl (by kernel_rfl) (by kernel_rfl) (by kernel_rfl) (fun _ _ _ h => h) (Or.inl ⟨by rfl, ?_⟩) (by assumption) ?_; rotate_left; (focus (intro w hSw; (try dsimp only at hSw); go_simp; (try with_reducible rfl))); (try simp only [List.getElem_toArray, List.getElem_cons_zero, List.getElem_cons_succ, Act.put, List.setIfInBounds_toArray, List.set_cons_zero, List.set_cons_succ])); (refine wpAnyH_take (i := 3) (v := ?_) rfl (by kernel_rfl) (by kernel_rfl) (by kernel_rfl) (fun _ _ _ h => h) (Or.inl ⟨by rfl, ?_⟩) (by assumption) ?_; rotate_left; (focus (intro w hSw; (try dsimp only at hSw); go_simp; (try with_reducible rfl))); (try simp only [List.getElem_toArray, List.getElem_cons_zero, List.getElem_cons_succ, Act.put, List.setIfInBounds_toArray, List.set_cons_zero, List.set_cons_succ])); (refine wpAnyH_take (i := 4) (v := ?_) rfl (by kernel_rfl) (by kernel_rfl) (by kernel_rfl) (fun _ _ _ h => h) (Or.inl ⟨by rfl, ?_⟩) (by assumption) ?_; rotate_left; (focus (intro w hSw; (try dsimp only at hSw); go_simp; (try with_reducible rfl))); (try simp only [List.getElem_toArray, List.getElem_cons_zero, List.getElem_cons_succ, Act.put, List.setIfInBounds_toArray, List.set_cons_zero, List.set_cons_succ])); (refine wpAnyH_take (i := 5) (v := ?_) rfl (by kernel_rfl) (by kernel_rfl) (by kernel_rfl) (fun _ _ _ h => h) (Or.inl ⟨by rfl, ?_⟩) (by assumption) ?_; rotate_left; (focus (intro w hSw; (try dsimp only at hSw); go_simp; (try with_reducible rfl))); (try simp only [List.getElem_toArray, List.getElem_cons_zero, List.getElem_cons_succ, Act.put, List.setIfInBounds_toArray, List.set_cons_zero, List.set_cons_succ])); (refine wpAnyH_take (i := 6) (v := ?_) rfl (by kernel_rfl) (by kernel_rfl) (by kernel_rfl) (fun _ _ _ h => h) (Or.inl ⟨by rfl, ?_⟩) (by assumption) ?_; rotate_left; (focus (intro w hSw; (try dsimp only at hSw); go_simp; (try with_reducible rfl))); (try simp only [List.getElem_toArray, List.getElem_cons_zero, List.getElem_cons_succ, Act.put, List.setIfInBounds_toArray, List.set_cons_zero, List.set_cons_succ])); (refine wpAnyH_take (i := 7) (v := ?_) rfl (by kernel_rfl) (by kernel_rfl) (by kernel_rfl) (fun _ _ _ h => h) (Or.inl ⟨by rfl, ?_⟩) (by assumption) ?_; rotate_left; (focus (intro w hSw; (try dsimp only at hSw); go_simp; (try with_reducible rfl))); (try simp only [List.getElem_toArray, List.getElem_cons_zero, List.getElem_cons_succ, Act.put, List.setIfInBounds_toArray, List.set_cons_zero, List.set_cons_succ]))
            refine wpAnyH_ready (rs := [8]) (by kernel_rfl) (by simp) ?_; refine AllReadyH.cons rfl (fun K hK => ?_) AllReadyH.nil; go_simp
            obtain ⟨wa, hwa, hba, hca⟩ : ∃ wa, (wr.alloc (.cells #[.int .i64 0, .int .i64 0] 43)).drew = wa ∧ Below wr.heap.size wr wa ∧ wa.heap[wr.heap.size]? = some (.cells #[.int .i64 0, .int .i64 0] 43) := ⟨_, rfl, (below_alloc (Nat.le_refl _) _).drew, World.alloc_heap_new _ _⟩
            rw [hwa]
            have HBa := Lib.hid hba
            have HCa := Lib.hid hca
            have Sa := old_of hba
            clear hwa hba hca
            refine hK.out _ _ Sa (fun hHeld => ?_)
            clear hK K
            (try simp only [List.getElem_toArray, List.getElem_cons_zero, List.getElem_cons_succ, Act.put, List.setIfInBounds_toArray, List.set_cons_zero, List.set_cons_succ])
            have z0 := cell_blk HCa.out 0 rfl
            have z1 := cell_blk HCa.out 1 rfl
            have zf0 := free_blk HCa.out 0
            have zf1 := free_blk HCa.out 1
            refine wpAnyH_ready (rs := [9]) (by kernel_rfl) (by simp) ?_; refine AllReadyH.cons rfl (fun K hK => ?_) AllReadyH.nil; go_simp
            obtain ⟨wb, hwb, hcb, hbb⟩ := put2 HCa.out (.int .i64 a) (.int .i64 s)
            rw [hwb]
            have HBb : Hid (Below wr.heap.size wr wb) := HBa.out.trans hbb
            have HCb := Lib.hid hcb
            have Sb := old_of HBb.out
            clear hwb hcb hbb z0 z1 zf0 zf1 Sa
            refine hK.out _ _ Sb (fun hHeld => ?_)
            clear hK K
            (try simp only [List.getElem_toArray, List.getElem_cons_zero, List.getElem_cons_succ, Act.put, List.setIfInBounds_toArray, List.set_cons_zero, List.set_cons_succ])
            refine wpAnyH_done (by kernel_rfl) ?_ _; clear hHeld
            clear Sb SRd
            obtain ⟨g0, hg0⟩ : ∃ g0, wr.heap.size = g0 := ⟨_, rfl⟩
            have HG0 := Lib.hid hg0
            rw [hg0] at HCb ⊢
            have hgw : gp < wr.heap.size := HP.out.lt
            have hgp0 : gp < g0 := by rw [← hg0]; exact hgw
            have HPb := Lib.hid (HP.out.keep (HBb.out.block gp hgw))
            have HBB := Lib.hid (bel HBr.out HBb.out)
            have x0 := cell_blk HCb.out 0 rfl
            have x1 := cell_blk HCb.out 1 rfl
            have cc := HPb.out.cell han
            have fz := HPb.out.free a
            have hcl : cG B (natL k x) a ≤ 1000 := Nat.le_trans List.countP_le_length (by rw [natL_len]; omega)
            obtain ⟨z, hz⟩ : ∃ z, cG B (natL k x) a = z := ⟨_, rfl⟩
            have HZ := Lib.hid hz
            rw [hz] at cc hcl
            have hai : (a : Int) < (B.ng : Int) := by omega
            clear hz hg0 c0 c1 c2 r2
            go_upto_region 12 with fail
            have HN4 : Hid (NB (wb.setCell ⟨gp, a, none⟩ (.int .i64 (z + 1 : Nat))) gp B.ng (cG B (natL (k + 1) x))) := by
              refine NB.congr (HPb.out.set han (z + 1)) fun i _ => ?_
              rw [HL.out, cG_snoc, HAE.out]
              by_cases e : i = a
              · subst e; simp [HZ.out]
              · simp [e]
            have HB4 : Hid (Below ws.heap.size ws (wb.setCell ⟨gp, a, none⟩ (.int .i64 (z + 1 : Nat)))) := HBB.out.setCell (p := ⟨gp, a, none⟩) hgps _
            have HC4 : Hid ((wb.setCell ⟨gp, a, none⟩ (.int .i64 (z + 1 : Nat))).heap[g0]? = some (.cells #[.int .i64 a, .int .i64 s] 43)) := (Below.heap_setCell _ _ _ _ (by show g0 ≠ gp; omega)).trans HCb.out
            obtain ⟨w4, hw4⟩ : ∃ w4, wb.setCell ⟨gp, a, none⟩ (.int .i64 (z + 1 : Nat)) = w4 := ⟨_, rfl⟩
            rw [show ((z : Int) + 1) = ((z + 1 : Nat) : Int) by omega]
            rw [hw4] at HN4 HB4 HC4 ⊢
            have hZ1 : cG B (natL (k + 1) x) a = z + 1 := by rw [HL.out, cG_snoc, HAE.out, HZ.out]; simp
            have HZ1 := Lib.hid hZ1
            clear x0 x1 cc fz hw4 hZ1
            have x0 := cell_blk HC4.out 0 rfl
            have x1 := cell_blk HC4.out 1 rfl
            have cc := HN4.out.cell han
            rw [HZ1.out] at cc
            have r1 := (HB4.out.cell (p := ⟨w.heap.size, 1, none⟩) hsz).trans q1
            have c3 := (HB4.out.cell (p := ⟨b2, off2 + a * 2, none⟩) hb2s).trans (HR2.out a han).1
            by_cases hpl : ((z + 1 : Nat) : Int) ≤ B.P a
            · have hpl' : decide (B.P a < ((z + 1 : Nat) : Int)) = false := decide_eq_false (by omega)
              have HPL : Hid (decide (((cG B (natL k x ++ [y]) a : Nat) : Int) ≤ B.P a) = true) := by unfold Hid; rw [← HL.out, HZ1.out]; exact decide_eq_true hpl
              have HAF : Hid (addOK B (natL k x) y = !fr B (natL k x) s f) := by unfold Hid; rw [HADD.out, HPL.out, Bool.true_and]
              obtain ⟨z1, hz1⟩ : ∃ z1, z + 1 = z1 := ⟨_, rfl⟩
              rw [hz1] at cc hpl' ⊢
              clear hpl hz1
              go_wp2
              go_quiet (fail)
              obtain ⟨w5, hw5, hb5, hn5, hc5⟩ : ∃ w5, w4.drewN nq = w5 ∧ Hid (Below ws.heap.size ws w5) ∧ Hid (NB w5 gp B.ng (cG B (natL (k + 1) x))) ∧ Hid (w5.heap[g0]? = some (.cells #[.int .i64 a, .int .i64 s] 43)) := ⟨_, rfl, below_drewN HB4.out nq, HN4.out, HC4.out⟩
              rw [hw5]
              clear hw5 x0 x1 cc r1 c3
              have hg05 : g0 < w5.heap.size := heap_lt hc5.out
              have hgp5 : gp < w5.heap.size := hn5.out.lt
              go_wp2
              go_loopw [10] (fun i wi => ∃ j : Nat, j ≤ k ∧ i = .int .i64 j ∧ Hid (∀ t, t < j → ¬ (B.sN (x t).toNat = s ∧ B.fN (x t).toNat = f)) ∧ Hid (Below w5.heap.size w5 wi)) (fun i _ => k - (intOf i).toNat)
              case atStart => exact ⟨0, Nat.zero_le _, rfl, fun j hj => absurd hj (Nat.not_lt_zero j), Below.refl _ _⟩
              case round =>
                obtain ⟨wi, hwi⟩ : ∃ wi, wi = wr := ⟨_, rfl⟩
                subst hwi
                obtain ⟨j, hjk, rfl, HJ, HBi⟩ := hrel
                by_cases hjn : j < k
                · have hji : (j : Int) < (k : Int) := by omega
                  have hjM : (j : Int) < (n : Int) := by omega
                  obtain ⟨y', hy', hyn'⟩ : ∃ y : Nat, x j = y ∧ y < B.nw := ⟨(x j).toNat, by have := HXX.out j (by omega); omega, by have := HXX.out j (by omega); omega⟩
                  obtain ⟨s', hs', hsn', hse'⟩ : ∃ s, B.sN y' = s ∧ s < B.ns ∧ B.S y' = s := ⟨_, rfl, HG.out.sN hyn'⟩
                  obtain ⟨a', ha', han', hae'⟩ : ∃ a, B.gN y' = a ∧ a < B.ng ∧ B.G y' = a := ⟨_, rfl, HG.out.gN hyn'⟩
                  obtain ⟨f', hf', hfn', hfe'⟩ : ∃ f, B.fN y' = f ∧ f < 4 ∧ B.F (B.gN y') = f := ⟨_, rfl, HG.out.fN hyn'⟩
                  rw [ha'] at hfe'
                  have HT : Hid (B.sN (x j).toNat = s' ∧ B.fN (x j).toNat = f') := by unfold Hid; rw [hy']; exact ⟨hs', hf'⟩
                  have HBW : Hid (Below ws.heap.size ws wi) := bel hb5.out HBi.out
                  have hwz : ws.heap.size ≤ wi.heap.size := HBW.out.size
                  have hwz5 : w5.heap.size ≤ wi.heap.size := HBi.out.size
                  have c0 := (HBW.out.cell (p := ⟨b, off + j, none⟩) hbs).trans (HR.out j (by omega))
                  rw [hy'] at c0
                  have c1 := (HBW.out.cell (p := ⟨b3, off3 + y' * 2, none⟩) hb3s).trans (HR3.out y' hyn').1
                  have c2 := (HBW.out.cell (p := ⟨b3, off3 + y' * 2 + 1, none⟩) hb3s).trans (HR3.out y' hyn').2
                  rw [hae'] at c1
                  rw [hse'] at c2
                  have r2 := (HBW.out.cell (p := ⟨w.heap.size, 2, none⟩) hsz).trans q2
                  have hyi' : (y' : Int) < (B.nw : Int) := by omega
                  have hbw' : b < wi.heap.size := by omega
                  have hb3w' : b3 < wi.heap.size := by omega
                  have hhw' : w.heap.size < wi.heap.size := by omega
                  have HBZi : Hid (Below wi.heap.size wi wi.drew) := (Below.refl _ _).drew
                  have SId := old_of HBZi.out
                  have HFQ' := Lib.hid hfe'
                  clear hy' hs' ha' hf' hse' hae' hfe' hyn'
                  have hlen : wi.heap.size = wi.heap.size := rfl
                  go_wp2
                  refine wp_region_held_drew (S := (fun w' => (∀ b o, b < wi.heap.size → w'.cell? ⟨b, o, none⟩ = wi.cell? ⟨b, o, none⟩) ∧ Hid (Below wi.heap.size wi w'))) (by kernel_rfl) SId (fun hHeld => ?_)
                  (refine wpAnyH_take (i := 0) (v := ?_) rfl (by kernel_rfl) (by kernel_rfl) (by kernel_rfl) (fun _ _ _ h => h) (Or.inl ⟨by rfl, ?_⟩) (by assumption) ?_; rotate_left; (focus (intro w hSw; (try dsimp only at hSw); go_simp; (try with_reducible rfl))); (try simp only [List.getElem_toArray, List.getElem_cons_zero, List.getElem_cons_succ, Act.put, List.setIfInBounds_toArray, List.set_cons_zero, List.set_cons_succ])); (refine wpAnyH_take (i := 1) (v := ?_) rfl (by kernel_rfl) (by kernel_rfl) (by kernel_rfl) (fun _ _ _ h => h) (Or.inl ⟨by rfl, ?_⟩) (by assumption) ?_; rotate_left; (focus (intro w hSw; (try dsimp only at hSw); go_simp; (try with_reducible rfl))); (try simp only [List.getElem_toArray, List.getElem_cons_zero, List.getElem_cons_succ, Act.put, List.setIfInBounds_toArray, List.set_cons_zero, List.set_cons_succ])); (refine wpAnyH_take (i := 2) (v := ?_) rfl (by kernel_rfl) (by kernel_rfl) (by kernel_rfl) (fun _ _ _ h => h) (Or.inl ⟨by rfl, ?_⟩) (by assumption) ?_; rotate_left; (focus (intro w hSw; (try dsimp only at hSw); go_simp; (try with_reducible rfl))); (try simp only [List.getElem_toArray, List.getElem_cons_zero, List.getElem_cons_succ, Act.put, List.setIfInBounds_toArray, List.set_cons_zero, List.set_cons_succ])); (refine wpAnyH_take (i := 3) (v := ?_) rfl (by kernel_rfl) (by kernel_rfl) (by kernel_rfl) (fun _ _ _ h => h) (Or.inl ⟨by rfl, ?_⟩) (by assumption) ?_; rotate_left; (focus (intro w hSw; (try dsimp only at hSw); go_simp; (try with_reducible rfl))); (try simp only [List.getElem_toArray, List.getElem_cons_zero, List.getElem_cons_succ, Act.put, List.setIfInBounds_toArray, List.set_cons_zero, List.set_cons_succ])); (refine wpAnyH_take (i := 4) (v := ?_) rfl (by kernel_rfl) (by kernel_rfl) (by kernel_rfl) (fun _ _ _ h => h) (Or.inl ⟨by rfl, ?_⟩) (by assumption) ?_; rotate_left; (focus (intro w hSw; (try dsimp only at hSw); go_simp; (try with_reducible rfl))); (try simp only [List.getElem_toArray, List.getElem_cons_zero, List.getElem_cons_succ, Act.put, List.setIfInBounds_toArray, List.set_cons_zero, List.set_cons_succ])); (refine wpAnyH_take (i := 5) (v := ?_) rfl (by kernel_rfl) (by kernel_rfl) (by kernel_rfl) (fun _ _ _ h => h) (Or.inl ⟨by rfl, ?_⟩) (by assumption) ?_; rotate_left; (focus (intro w hSw; (try dsimp only at hSw); go_simp; (try with_reducible rfl))); (try simp only [List.getElem_toArray, List.getElem_cons_zero, List.getElem_cons_succ, Act.put, List.setIfInBounds_toArray, List.set_cons_zero, List.set_cons_succ])); (refine wpAnyH_take (i := 6) (v := ?_) rfl (by kernel_rfl) (by kernel_rfl) (by kernel_rfl) (fun _ _ _ h => h) (Or.inl ⟨by rfl, ?_⟩) (by assumption) ?_; rotate_left; (focus (intro w hSw; (try dsimp only at hSw); go_simp; (try with_reducible rfl))); (try simp only [List.getElem_toArray, List.getElem_cons_zero, List.getElem_cons_succ, Act.put, List.setIfInBounds_toArray, List.set_cons_zero, List.set_cons_succ])); (refine wpAnyH_take (i := 7) (v := ?_) rfl (by kernel_rfl) (by kernel_rfl) (by kernel_rfl) (fun _ _ _ h => h) (Or.inl ⟨by rfl, ?_⟩) (by assumption) ?_; rotate_left; (focus (intro w hSw; (try dsimp only at hSw); go_simp; (try with_reducible rfl))); (try simp only [List.getElem_toArray, List.getElem_cons_zero, List.getElem_cons_succ, Act.put, List.setIfInBounds_toArray, List.set_cons_zero, List.set_cons_succ]))
                  refine wpAnyH_ready (rs := [8]) (by kernel_rfl) (by simp) ?_; refine AllReadyH.cons rfl (fun K hK => ?_) AllReadyH.nil; go_simp
                  obtain ⟨wa, hwa, hba, hca⟩ : ∃ wa, (wi.alloc (.cells #[.int .i64 0, .int .i64 0] 43)).drew = wa ∧ Below wi.heap.size wi wa ∧ wa.heap[wi.heap.size]? = some (.cells #[.int .i64 0, .int .i64 0] 43) := ⟨_, rfl, (below_alloc (Nat.le_refl _) _).drew, World.alloc_heap_new _ _⟩
                  rw [hwa]
                  have HBa := Lib.hid hba
                  have HCa := Lib.hid hca
                  have Sa := old_of hba
                  clear hwa hba hca
                  refine hK.out _ _ Sa (fun hHeld => ?_)
                  clear hK K
                  (try simp only [List.getElem_toArray, List.getElem_cons_zero, List.getElem_cons_succ, Act.put, List.setIfInBounds_toArray, List.set_cons_zero, List.set_cons_succ])
                  have z0 := cell_blk HCa.out 0 rfl
                  have z1 := cell_blk HCa.out 1 rfl
                  have zf0 := free_blk HCa.out 0
                  have zf1 := free_blk HCa.out 1
                  refine wpAnyH_ready (rs := [9]) (by kernel_rfl) (by simp) ?_; refine AllReadyH.cons rfl (fun K hK => ?_) AllReadyH.nil; go_simp
                  obtain ⟨wb1, hwb, hcb, hbb⟩ := put2 HCa.out (.int .i64 a') (.int .i64 s')
                  rw [hwb]
                  have HBb1 : Hid (Below wi.heap.size wi wb1) := HBa.out.trans hbb
                  have HCb1 := Lib.hid hcb
                  have Sb := old_of HBb1.out
                  clear hwb hcb hbb z0 z1 zf0 zf1 Sa
                  refine hK.out _ _ Sb (fun hHeld => ?_)
                  clear hK K
                  (try simp only [List.getElem_toArray, List.getElem_cons_zero, List.getElem_cons_succ, Act.put, List.setIfInBounds_toArray, List.set_cons_zero, List.set_cons_succ])
                  refine wpAnyH_done (by kernel_rfl) ?_ _; clear hHeld
                  clear Sb SId
                  obtain ⟨g1, hg1⟩ : ∃ g1, wi.heap.size = g1 := ⟨_, rfl⟩
                  have HG1 := Lib.hid hg1
                  clear hlen
                  have HBX : Hid (Below w5.heap.size w5 wb1) := bel HBi.out HBb1.out
                  rw [hg1] at HCb1 ⊢
                  have y0 := cell_blk HCb1.out 0 rfl
                  have y1 := cell_blk HCb1.out 1 rfl
                  have HC6 : Hid (wb1.heap[g0]? = some (.cells #[.int .i64 a, .int .i64 s] 43)) := (HBX.out.block g0 hg05).trans hc5.out
                  have x0 := cell_blk HC6.out 0 rfl
                  have x1 := cell_blk HC6.out 1 rfl
                  have HBY : Hid (Below ws.heap.size ws wb1) := bel hb5.out HBX.out
                  have r1 := (HBY.out.cell (p := ⟨w.heap.size, 1, none⟩) hsz).trans q1
                  have d0 := (HBY.out.cell (p := ⟨b2, off2 + a * 2 + 1, none⟩) hb2s).trans (HR2.out a han).2
                  have d1 := (HBY.out.cell (p := ⟨b2, off2 + a' * 2 + 1, none⟩) hb2s).trans (HR2.out a' han').2
                  rw [HFQ.out] at d0
                  rw [HFQ'.out] at d1
                  have hai' : (a' : Int) < (B.ng : Int) := by omega
                  clear hg1 c0 c1 c2 r2
                  by_cases hss : s' = s
                  · by_cases hff : f' = f
                    · subst hss
                      subst hff
                      have HO : Hid (fitL B (natL n x) = false) := HNO.out (by
                        rw [HAF.out, Bool.not_eq_false']
                        unfold fr
                        rw [List.any_eq_true]
                        exact ⟨(x j).toNat, List.mem_map.2 ⟨j, List.mem_range.2 hjn, rfl⟩, by rw [HT.out.1, HT.out.2]; simp⟩)
                      go_wp2
                      go_quiet (fail)
                      go_wp2
                      go_ret
                      exact ⟨ret_bool HO.out.symm, fin HB.out (below_drewN HBY.out _)⟩
                    · have hff' : ¬ (f' : Int) = (f : Int) := by omega
                      subst hss
                      have HNE2 : Hid (¬ (B.sN (x j).toNat = s' ∧ B.fN (x j).toNat = f)) := fun h => hff (HT.out.2.symm.trans h.2)
                      go_wp2
                      go_quiet (fail)
                      go_wp2
                      go_roundw
                      case rel => exact ⟨j + 1, by omega, by go_num, lt_succ HJ.out HNE2.out, below_drewN HBX.out _⟩
                      case measure => simp [intOf]; omega
                  · have hss' : ¬ (s' : Int) = (s : Int) := by omega
                    have HNE2 : Hid (¬ (B.sN (x j).toNat = s ∧ B.fN (x j).toNat = f)) := fun h => hss (HT.out.1.symm.trans h.1)
                    go_wp2
                    go_quiet (fail)
                    go_wp2
                    go_roundw
                    case rel => exact ⟨j + 1, by omega, by go_num, lt_succ HJ.out HNE2.out, below_drewN HBX.out _⟩
                    case measure => simp [intOf]; omega
                · have hjj : j = k := by omega
                  subst hjj
                  have HFF : Hid (fitL B (natL (j + 1) x) = true) := by
                    unfold Hid
                    rw [HNX.out, HAF.out, Bool.not_eq_true']
                    unfold fr
                    rw [List.any_eq_false]
                    intro z hz
                    obtain ⟨t, ht, rfl⟩ := List.mem_map.1 hz
                    have := HJ.out t (List.mem_range.1 ht)
                    simpa using this
                  go_wp2
                  go_roundw
                  case rel => exact ⟨j + 1, by omega, by go_num, HFF, hn5.out.keep (HBi.out.block _ hgp5), bel hb5.out HBi.out⟩
                  case measure => simp [intOf]; omega
            · have hpl' : decide (B.P a < ((z + 1 : Nat) : Int)) = true := decide_eq_true (by omega)
              have HO : Hid (fitL B (natL n x) = false) := HNO.out (by rw [HADD.out, ← HL.out, HZ1.out, decide_eq_false hpl]; rfl)
              obtain ⟨z1, hz1⟩ : ∃ z1, z + 1 = z1 := ⟨_, rfl⟩
              rw [hz1] at cc hpl' ⊢
              clear hpl hz1
              go_wp2
              go_quiet (fail)
              go_wp2
              go_ret
              exact ⟨ret_bool HO.out.symm, fin HB.out (below_drewN HB4.out _)⟩
          · have hkk : k = n := by omega
            subst hkk
            go_wp2
            go_ret
            exact ⟨ret_bool HFK.out.symm, fin HB.out HBr.out⟩

end Go.Proofs.Ytnnngbnimmcjiaa
