/-
  MarksAsk where there is a next mark.
-/
import Derived.Test.YtmmadlpkolcgkaaAsk2
namespace Go.Proofs.Ytmmadlpkolcgkaa
open Go.RowKit

set_option maxHeartbeats 8000000 in
set_option maxRecDepth 100000 in
theorem ask_some (N : Nat) (v u : Value) (B : Bk) (R : Fr) (f : Nat) (y : Int) (w : World) (h : BookAt N w v B) (hf : FruitsAt N w u R)
    (hr : rdy B R = true) (hfn : f < R.n) (hn1 : ¬ (sorts B R).length < 2) (hn2 : (nx B R f B.nv).2.2 = true) :
    Calls Try.prog 12 #[v, u, .agg #[.int .i64 f, .int .i64 y]] w fun e w' => e = .returned (.bool true) ∧ Below w.heap.size w w' := by
  have h' := h
  obtain ⟨_, a1, c1, a2, c2, a3, c3, rfl, _⟩ := h'
  obtain ⟨ws, hws, HB, hsz, hsz1, hblk, hblk1⟩ := box2 w (.cells #[.slice a1 B.nv c1, .slice a2 B.nf c2, .slice a3 B.ns c3, .int .i64 B.wr] 25) (.cells #[.int .i64 f, .int .i64 y] 85)
  have q0 := cell_blk hblk 0 rfl
  have q1 := cell_blk hblk 1 rfl
  have q2 := cell_blk hblk 2 rfl
  have q3 := cell_blk hblk 3 rfl
  have p0 := cell_blk hblk1 0 rfl
  have p1 := cell_blk hblk1 1 rfl
  obtain ⟨HBF, HB0⟩ := entry HB.out h hf
  clear hblk hblk1 h hf
  have hNs : N ≤ ws.heap.size := HBF.out.1.1
  have hc := (rdy_parts hr).1
  have hg := (rdy_parts hr).2.2
  have hns := hg.ns
  obtain ⟨hmk, hmx, _, hbest⟩ := (nx_spec B R f B.nv).1 hn2
  have hNX := next_some hc hfn hn1 hn2
  obtain ⟨mk, hmke⟩ : ∃ mk, (nx B R f B.nv).1 = mk := ⟨_, rfl⟩
  rw [hmke] at hmk hmx hbest hNX
  clear hmke hn2
  have hLf := hg.L f hfn
  have hsl : (sorts B R).length ≠ 0 := by omega
  have hAF := after_ok hc hfn hmk hmx hsl
  have hA1 := after_pos hg hfn hmk hmx (by omega)
  have hA2 := after_le hfn hmk hmx
  have HAK : Hid (0 ≤ y → y < B.V mk → (sorts B (R.set f mk y)).length ≤ afterOf B R f mk ∧ chk B (R.set f mk y) = 0) := fun h0 h1 => ⟨after_ge h0 h1, chk_see hc h0 h1⟩
  have HAJ : Hid (∀ j, j < B.nv → R.X f j = -1 → eAfter B R (f : Int) (j : Int) = ((afterOf B R f j : Int), 0) ∧ afterOf B R f j ≤ (sorts B R).length) := fun j hj hx => ⟨after_ok hc hfn hj hx hsl, after_le hfn hj hx⟩
  obtain ⟨bs, hbs⟩ : ∃ b, afterOf B R f mk = b := ⟨_, rfl⟩
  rw [hbs] at hAF hA1 hA2 hbest HAK
  clear hbs
  obtain ⟨l1, hl1⟩ : ∃ l, sorts B R = l := ⟨_, rfl⟩
  have HE1 : Hid (eSorts B R = (l1, 0)) := by unfold Hid; rw [eSorts_ok hc, hl1, if_neg (by rw [← hl1]; exact hsl)]
  have hlen : l1.length ≤ B.ns := by rw [← hl1]; exact sel_len _ _
  rw [hl1] at hn1 hA2 HAJ
  have HE2 := Lib.hid hNX
  have HE3 := Lib.hid hAF
  have HBEST := Lib.hid hbest
  have HR := Lib.hid hr
  have HCK := Lib.hid hc
  have HG := Lib.hid hg
  have HFN := Lib.hid hfn
  have HMK := Lib.hid hmk
  have HI : Hid ((decide (0 ≤ (f : Int)) && decide ((f : Int) < (R.n : Int))) = true) := by unfold Hid; simp; omega
  have HJ : Hid ((decide (0 ≤ (mk : Int)) && decide ((mk : Int) < (B.nv : Int))) = true) := by unfold Hid; simp; omega
  have hfi : (f : Int) < (R.n : Int) := by omega
  have hmi : (mk : Int) < (B.nv : Int) := by omega
  have hml : (mk : Int) < (R.L f : Int) := by omega
  have hb0 : (R.X f mk != -1) = false := by simp [hmx]
  have hlni : (l1.length : Int) ≤ (B.ns : Int) := by omega
  have hl2 : ¬ (l1.length : Int) < 2 := by omega
  have hl2' : (2 : Int) ≤ (l1.length : Int) := by omega
  have hA1i : (1 : Int) ≤ (bs : Int) := by omega
  have hA2i : (bs : Int) ≤ (l1.length : Int) := by omega
  have d1 : decide ((bs : Int) < 1) = false := by simp; omega
  have d2 : decide (l1.length < bs) = false := by simp; omega
  have HLF := Lib.hid hLf
  have HFR : Hid (FruitsAt N ws u R) := HBF.out.2
  obtain ⟨af, cf, rfl, hRn, hRr⟩ := id HBF.out.2
  obtain ⟨b5, o5, rfl, hb5, hrr⟩ := hRr (by omega)
  obtain ⟨r5, hq5, hi5⟩ := hrr f hfn
  obtain ⟨a6, c6, rfl, hL6, hi6⟩ := hi5
  obtain ⟨b6, o6, rfl, hb6, hr6⟩ := hi6 (by omega)
  have HR6 := Lib.hid hr6
  obtain ⟨r7, hq6, rfl⟩ := hr6 mk (by omega)
  obtain ⟨b1, o1, rfl, hb1, hv1⟩ := val_at HBF.out.1 hmk
  have g5 : b5 < ws.heap.size := Nat.lt_of_lt_of_le hb5 hNs
  have g6 : b6 < ws.heap.size := Nat.lt_of_lt_of_le hb6 hNs
  have g1 : b1 < ws.heap.size := Nat.lt_of_lt_of_le hb1 hNs
  have HNS := Lib.hid hNs
  have HL1 := Lib.hid hl1
  clear hr hc hg hfn hmk hbest hNX hAF hsl hlen hl1 hLf hrr hRr hb5 hb6 hb1 hNs hr6 hi6 hA1 hA2 hn1 hmx
  go_enter Try.func12, Try.ntmps12
  go_wp2_with (first
    | (go_at_call 44; refine (ready_any N _ _ B R _ (HBF.out.go HB0.out).1 (HBF.out.go HB0.out).2).mono ?_; rintro e w1 ⟨rfl, hb1⟩; rw [HR.out]; (try clear c0); have HB1 := Lib.hid (bel HB0.out hb1); have c1 := (old_of HB1.out).1; clear hb1)
    | (go_at_call 60; refine (isFruit_any N _ R _ _ (HBF.out.go HB1.out).2).mono ?_; rintro e w2 ⟨rfl, rfl⟩; rw [HI.out])
    | (go_at_call 26; refine (mSorts_any N _ _ B R _ (HBF.out.go HB1.out).1 (HBF.out.go HB1.out).2).mono ?_; rintro e w2 ⟨u3, rfl, hu3, hb2⟩; rw [HE1.out] at hu3; rw [HE1.out]; obtain ⟨ao3, co3, rfl⟩ := hu3.form; clear hu3; (try clear c1); have HB2 := Lib.hid (bel HB1.out hb2); have c2 := (old_of HB2.out).1; clear hb2)
    | (go_at_call 38; refine (mNext_any N _ _ B R _ _ (HBF.out.go HB2.out).1 (HBF.out.go HB2.out).2).mono ?_; rintro e w3 ⟨rfl, hb3⟩; rw [HE2.out]; (try clear c2); have HB3 := Lib.hid (bel HB2.out hb3); have c3 := (old_of HB3.out).1; clear hb3)
    | (go_at_call 55; refine (isKnown0 _).mono ?_; rintro e wB ⟨rfl, rfl⟩)
    | (go_at_call 53; refine (isMark_any N _ B _ _ (HBF.out.go HB3.out).1).mono ?_; rintro e w4 ⟨rfl, hb4⟩; rw [HJ.out]; (try clear c3); have HB4 := Lib.hid (bel HB3.out hb4); have c4 := (old_of HB4.out).1; clear hb4)
    | (go_at_call 35; refine (mAfter_any N _ _ B R _ _ _ (HBF.out.go HB4.out).1 (HBF.out.go HB4.out).2).mono ?_; rintro e w5 ⟨rfl, hb5⟩; rw [HE3.out]; (try clear c4); have HB5 := Lib.hid (bel HB4.out hb5); have c5 := (old_of HB5.out).1; clear hb5))
  clear hws
  go_loopw [13] (fun i wr => ∃ k : Nat, k ≤ B.nv ∧ i = .int .i64 k ∧ Hid (Below ws.heap.size ws wr)) (fun i _ => B.nv - (intOf i).toNat)
  case atStart => exact ⟨0, Nat.zero_le _, rfl, HB5.out⟩
  case round =>
    clear c5 HB5
    obtain ⟨k, hk, rfl, HBr⟩ := hrel
    have cr := (old_of HBr.out).1
    by_cases hkn : k < B.nv
    · obtain ⟨r8, hq8, rfl⟩ := HR6.out k (by rw [HLF.out]; exact hkn)
      have hki : (k : Int) < (R.L f : Int) := by rw [HLF.out]; omega
      by_cases hx : R.X f k = -1
      · have hbx : (R.X f k != -1) = false := by simp [hx]
        obtain ⟨hA, hB⟩ := HAJ.out k hkn hx
        obtain ⟨hC, hD⟩ := HBEST.out k hkn hx
        generalize afterOf B R f k = an at *
        have HE4 := Lib.hid hA
        have i1 : (bs : Int) ≤ (an : Int) := by omega
        have i2 : (an : Int) ≤ (l1.length : Int) := by omega
        clear hA hx
        by_cases he : an = bs
        · have i3 : ((an : Int) == (bs : Int)) = true := by simp [he]
          have i4 : (mk : Int) ≤ (k : Int) := by have := hD he; omega
          have i5 : ¬ ((k : Int) < (mk : Int)) := by omega
          clear hC hD he hB
          go_wp2_with (first
            | (go_at_call 35; refine (mAfter_any N _ _ B R _ _ _ (HBF.out.go HBr.out).1 (HBF.out.go HBr.out).2).mono ?_; rintro e w6 ⟨rfl, hb6⟩; rw [HE4.out]; (try clear cr); have HB6 := Lib.hid (bel HBr.out hb6); have c6 := (old_of HB6.out).1; clear hb6))
          go_roundw
          case rel => exact ⟨k + 1, by omega, by go_num, HB6.out⟩
          case measure => simp [intOf]; omega
        · have i3 : ((an : Int) == (bs : Int)) = false := by simp; omega
          clear hC hD he hB
          go_wp2_with (first
            | (go_at_call 35; refine (mAfter_any N _ _ B R _ _ _ (HBF.out.go HBr.out).1 (HBF.out.go HBr.out).2).mono ?_; rintro e w6 ⟨rfl, hb6⟩; rw [HE4.out]; (try clear cr); have HB6 := Lib.hid (bel HBr.out hb6); have c6 := (old_of HB6.out).1; clear hb6))
          go_roundw
          case rel => exact ⟨k + 1, by omega, by go_num, HB6.out⟩
          case measure => simp [intOf]; omega
      · have hbx : (R.X f k != -1) = true := by simp [hx]
        clear hx
        go_wp2
        go_roundw
        case rel => exact ⟨k + 1, by omega, by go_num, HBr.out⟩
        case measure => simp [intOf]; omega
    · clear HBEST HAJ HR6
      have HB6 := HBr
      have c6 := cr
      clear cr HBr
      have S6d := old_of HB6.out.drew; have HB6d := S6d.2
      by_cases hy0 : 0 ≤ y
      · have e0 : decide (y < 0) = false := by simp; omega
        by_cases hy1 : y < B.V mk
        · have e1 : decide (B.V mk ≤ y) = false := by simp; omega
          obtain ⟨hA, hC⟩ := HAK.out hy0 hy1
          obtain ⟨l2, hl2⟩ : ∃ l, sorts B (R.set f mk y) = l := ⟨_, rfl⟩
          obtain ⟨e2, he2⟩ : ∃ e, (if l2.length = 0 then (3 : Int) else 0) = e := ⟨_, rfl⟩
          have HE5 : Hid (eSorts B (R.set f mk y) = (l2, e2)) := by unfold Hid; rw [eSorts_ok hC, hl2, he2]
          have HK : Hid ((decide (e2 = 0) || decide (e2 = 3)) = true) := by rw [← he2]; exact known_code _
          rw [hl2] at hA
          have hAi : (l2.length : Int) ≤ (bs : Int) := by omega
          clear HAK hy0 hy1 hl2 he2 hC hA
          go_upto_region 19 with fail
          refine wp_region_held_drew (S := (fun w' => (∀ b o, b < ws.heap.size → w'.cell? ⟨b, o, none⟩ = ws.cell? ⟨b, o, none⟩) ∧ Hid (Below ws.heap.size ws w'))) (by kernel_rfl) S6d (fun hHeld => ?_)
          (refine wpAnyH_take (i := 0) (v := ?_) rfl (by kernel_rfl) (by kernel_rfl) (by kernel_rfl) (fun _ _ _ h => h) (Or.inl ⟨by rfl, ?_⟩) (by assumption) ?_; rotate_left; (focus (intro w hSw; (try dsimp only at hSw); go_simp; (try with_reducible rfl))); (try simp only [List.getElem_toArray, List.getElem_cons_zero, List.getElem_cons_succ, Act.put, List.setIfInBounds_toArray, List.set_cons_zero, List.set_cons_succ])); (refine wpAnyH_take (i := 1) (v := ?_) rfl (by kernel_rfl) (by kernel_rfl) (by kernel_rfl) (fun _ _ _ h => h) (Or.inl ⟨by rfl, ?_⟩) (by assumption) ?_; rotate_left; (focus (intro w hSw; (try dsimp only at hSw); go_simp; (try with_reducible rfl))); (try simp only [List.getElem_toArray, List.getElem_cons_zero, List.getElem_cons_succ, Act.put, List.setIfInBounds_toArray, List.set_cons_zero, List.set_cons_succ])); (refine wpAnyH_take (i := 2) (v := ?_) rfl (by kernel_rfl) (by kernel_rfl) (by kernel_rfl) (fun _ _ _ h => h) (Or.inl ⟨by rfl, ?_⟩) (by assumption) ?_; rotate_left; (focus (intro w hSw; (try dsimp only at hSw); go_simp; (try with_reducible rfl))); (try simp only [List.getElem_toArray, List.getElem_cons_zero, List.getElem_cons_succ, Act.put, List.setIfInBounds_toArray, List.set_cons_zero, List.set_cons_succ])); (refine wpAnyH_take (i := 3) (v := ?_) rfl (by kernel_rfl) (by kernel_rfl) (by kernel_rfl) (fun _ _ _ h => h) (Or.inl ⟨by rfl, ?_⟩) (by assumption) ?_; rotate_left; (focus (intro w hSw; (try dsimp only at hSw); go_simp; (try with_reducible rfl))); (try simp only [List.getElem_toArray, List.getElem_cons_zero, List.getElem_cons_succ, Act.put, List.setIfInBounds_toArray, List.set_cons_zero, List.set_cons_succ])); (refine wpAnyH_take (i := 4) (v := ?_) rfl (by kernel_rfl) (by kernel_rfl) (by kernel_rfl) (fun _ _ _ h => h) (Or.inl ⟨by rfl, ?_⟩) (by assumption) ?_; rotate_left; (focus (intro w hSw; (try dsimp only at hSw); go_simp; (try with_reducible rfl))); (try simp only [List.getElem_toArray, List.getElem_cons_zero, List.getElem_cons_succ, Act.put, List.setIfInBounds_toArray, List.set_cons_zero, List.set_cons_succ])); (refine wpAnyH_take (i := 5) (v := ?_) rfl (by kernel_rfl) (by kernel_rfl) (by kernel_rfl) (fun _ _ _ h => h) (Or.inl ⟨by rfl, ?_⟩) (by assumption) ?_; rotate_left; (focus (intro w hSw; (try dsimp only at hSw); go_simp; (try with_reducible rfl))); (try simp only [List.getElem_toArray, List.getElem_cons_zero, List.getElem_cons_succ, Act.put, List.setIfInBounds_toArray, List.set_cons_zero, List.set_cons_succ])); (refine wpAnyH_take (i := 6) (v := ?_) rfl (by kernel_rfl) (by kernel_rfl) (by kernel_rfl) (fun _ _ _ h => h) (Or.inl ⟨by rfl, ?_⟩) (by assumption) ?_; rotate_left; (focus (intro w hSw; (try dsimp only at hSw); go_simp; (try with_reducible rfl))); (try simp only [List.getElem_toArray, List.getElem_cons_zero, List.getElem_cons_succ, Act.put, List.setIfInBounds_toArray, List.set_cons_zero, List.set_cons_succ])); (refine wpAnyH_take (i := 7) (v := ?_) rfl (by kernel_rfl) (by kernel_rfl) (by kernel_rfl) (fun _ _ _ h => h) (Or.inl ⟨by rfl, ?_⟩) (by assumption) ?_; rotate_left; (focus (intro w hSw; (try dsimp only at hSw); go_simp; (try with_reducible rfl))); (try simp only [List.getElem_toArray, List.getElem_cons_zero, List.getElem_cons_succ, Act.put, List.setIfInBounds_toArray, List.set_cons_zero, List.set_cons_succ])); (refine wpAnyH_take (i := 8) (v := ?_) rfl (by kernel_rfl) (by kernel_rfl) (by kernel_rfl) (fun _ _ _ h => h) (Or.inl ⟨by rfl, ?_⟩) (by assumption) ?_; rotate_left; (focus (intro w hSw; (try dsimp only at hSw); go_simp; (try with_reducible rfl))); (try simp only [List.getElem_toArray, List.getElem_cons_zero, List.getElem_cons_succ, Act.put, List.setIfInBounds_toArray, List.set_cons_zero, List.set_cons_succ])); (refine wpAnyH_take (i := 9) (v := ?_) rfl (by kernel_rfl) (by kernel_rfl) (by kernel_rfl) (fun _ _ _ h => h) (Or.inl ⟨by rfl, ?_⟩) (by assumption) ?_; rotate_left; (focus (intro w hSw; (try dsimp only at hSw); go_simp; (try with_reducible rfl))); (try simp only [List.getElem_toArray, List.getElem_cons_zero, List.getElem_cons_succ, Act.put, List.setIfInBounds_toArray, List.set_cons_zero, List.set_cons_succ])); (refine wpAnyH_take (i := 10) (v := ?_) rfl (by kernel_rfl) (by kernel_rfl) (by kernel_rfl) (fun _ _ _ h => h) (Or.inl ⟨by rfl, ?_⟩) (by assumption) ?_; rotate_left; (focus (intro w hSw; (try dsimp only at hSw); go_simp; (try with_reducible rfl))); (try simp only [List.getElem_toArray, List.getElem_cons_zero, List.getElem_cons_succ, Act.put, List.setIfInBounds_toArray, List.set_cons_zero, List.set_cons_succ])); (refine wpAnyH_take (i := 11) (v := ?_) rfl (by kernel_rfl) (by kernel_rfl) (by kernel_rfl) (fun _ _ _ h => h) (Or.inl ⟨by rfl, ?_⟩) (by assumption) ?_; rotate_left; (focus (intro w hSw; (try dsimp only at hSw); go_simp; (try with_reducible rfl))); (try simp only [List.getElem_toArray, List.getElem_cons_zero, List.getElem_cons_succ, Act.put, List.setIfInBounds_toArray, List.set_cons_zero, List.set_cons_succ])); (refine wpAnyH_take (i := 12) (v := ?_) rfl (by kernel_rfl) (by kernel_rfl) (by kernel_rfl) (fun _ _ _ h => h) (Or.inl ⟨by rfl, ?_⟩) (by assumption) ?_; rotate_left; (focus (intro w hSw; (try dsimp only at hSw); go_simp; (try with_reducible rfl))); (try simp only [List.getElem_toArray, List.getElem_cons_zero, List.getElem_cons_succ, Act.put, List.setIfInBounds_toArray, List.set_cons_zero, List.set_cons_succ]))
          refine wpAnyH_done (by kernel_rfl) ?_ _; clear hHeld
          clear S6d
          obtain ⟨w7, hw7⟩ : ∃ w7, wr.drew = w7 := ⟨_, rfl⟩
          rw [hw7]
          rw [hw7] at HB6d
          have HB7 := HB6d
          have c7 := (old_of HB7.out).1
          clear hw7 HB6d c6
          have S7d := old_of HB7.out.drew; have HB7d := S7d.2
          have HLE : Hid (N ≤ w7.drew.heap.size) := (HBF.out.go HB7d.out).1.1
          have HN2 : Hid (R.n ≤ 1000 ∧ (∀ f, f < R.n → R.L f ≤ 1000)) := ⟨by have := HG.out.n; omega, fun f hf => by rw [HG.out.L f hf]; have := HG.out.nv; omega⟩
          have HN3 : Hid (R.n ≤ 140737488351232 ∧ (∀ f, f < R.n → R.L f ≤ 140737488351232)) := ⟨by have := HN2.out.1; omega, fun f hf => by have := HN2.out.2 f hf; omega⟩
          have HM : Hid (mk < R.L f) := by rw [HLF.out]; exact HMK.out
          go_upto_region 21 with fail
          go_region_held3 (fun w' => (∀ b o, b < ws.heap.size → w'.cell? ⟨b, o, none⟩ = ws.cell? ⟨b, o, none⟩) ∧ Hid (Below ws.heap.size ws w')) (assumption) (first
            | (go_at_call 51; refine (seen_to_any N _ R f mk y _ (HBF.out.go HB7d.out).2 HLE.out HN2.out.1 HN2.out.2 HFN.out HM.out).mono ?_; rintro e w8 ⟨x8, rfl, hr8, hb8⟩; have HR8 := Lib.hid hr8; clear hr8; have S8 := old_of (bel HB7d.out hb8); have HB8 := S8.2; clear hb8)
            | (go_at_call 26; refine (mSorts_any w8.heap.size _ _ B (R.set f mk y) _ ((HBF.out.go HB8.out).1.raise (HBF.out.go HB8.out).1.1 (Nat.le_refl _)) (HR8.out.rows (Nat.le_refl _) HN3.out.1 HN3.out.2)).mono ?_; rintro e w9 ⟨u9, rfl, hu9, hb9⟩; rw [HE5.out] at hu9; rw [HE5.out]; obtain ⟨ao9, co9, rfl⟩ := hu9.form; clear hu9; have S9 := old_of (bel HB8.out hb9); have HB9 := S9.2; clear hb9))
          have HB9 := S9.2; have c9 := S9.1; clear S9 S7d
          clear S8
          go_wp2_with (first
            | (go_at_call 55; refine (isKnown_any _ _).mono ?_; rintro e wB ⟨rfl, rfl⟩; rw [HK.out])
            | (go_at_call 15; refine (works_any _).mono ?_; rintro e wA ⟨rfl, hbA⟩; (try clear c9); have HBA := Lib.hid (bel HB9.out hbA); have cA := (old_of HBA.out).1; clear hbA))
          go_ret
          exact ⟨rfl, fin HB.out HBA.out⟩
        · have e1 : decide (B.V mk ≤ y) = true := by simp; omega
          clear HAK hy0 hy1
          go_upto_region 19 with fail
          refine wp_region_held_drew (S := (fun w' => (∀ b o, b < ws.heap.size → w'.cell? ⟨b, o, none⟩ = ws.cell? ⟨b, o, none⟩) ∧ Hid (Below ws.heap.size ws w'))) (by kernel_rfl) S6d (fun hHeld => ?_)
          (refine wpAnyH_take (i := 0) (v := ?_) rfl (by kernel_rfl) (by kernel_rfl) (by kernel_rfl) (fun _ _ _ h => h) (Or.inl ⟨by rfl, ?_⟩) (by assumption) ?_; rotate_left; (focus (intro w hSw; (try dsimp only at hSw); go_simp; (try with_reducible rfl))); (try simp only [List.getElem_toArray, List.getElem_cons_zero, List.getElem_cons_succ, Act.put, List.setIfInBounds_toArray, List.set_cons_zero, List.set_cons_succ])); (refine wpAnyH_take (i := 1) (v := ?_) rfl (by kernel_rfl) (by kernel_rfl) (by kernel_rfl) (fun _ _ _ h => h) (Or.inl ⟨by rfl, ?_⟩) (by assumption) ?_; rotate_left; (focus (intro w hSw; (try dsimp only at hSw); go_simp; (try with_reducible rfl))); (try simp only [List.getElem_toArray, List.getElem_cons_zero, List.getElem_cons_succ, Act.put, List.setIfInBounds_toArray, List.set_cons_zero, List.set_cons_succ])); (refine wpAnyH_take (i := 2) (v := ?_) rfl (by kernel_rfl) (by kernel_rfl) (by kernel_rfl) (fun _ _ _ h => h) (Or.inl ⟨by rfl, ?_⟩) (by assumption) ?_; rotate_left; (focus (intro w hSw; (try dsimp only at hSw); go_simp; (try with_reducible rfl))); (try simp only [List.getElem_toArray, List.getElem_cons_zero, List.getElem_cons_succ, Act.put, List.setIfInBounds_toArray, List.set_cons_zero, List.set_cons_succ])); (refine wpAnyH_take (i := 3) (v := ?_) rfl (by kernel_rfl) (by kernel_rfl) (by kernel_rfl) (fun _ _ _ h => h) (Or.inl ⟨by rfl, ?_⟩) (by assumption) ?_; rotate_left; (focus (intro w hSw; (try dsimp only at hSw); go_simp; (try with_reducible rfl))); (try simp only [List.getElem_toArray, List.getElem_cons_zero, List.getElem_cons_succ, Act.put, List.setIfInBounds_toArray, List.set_cons_zero, List.set_cons_succ])); (refine wpAnyH_take (i := 4) (v := ?_) rfl (by kernel_rfl) (by kernel_rfl) (by kernel_rfl) (fun _ _ _ h => h) (Or.inl ⟨by rfl, ?_⟩) (by assumption) ?_; rotate_left; (focus (intro w hSw; (try dsimp only at hSw); go_simp; (try with_reducible rfl))); (try simp only [List.getElem_toArray, List.getElem_cons_zero, List.getElem_cons_succ, Act.put, List.setIfInBounds_toArray, List.set_cons_zero, List.set_cons_succ])); (refine wpAnyH_take (i := 5) (v := ?_) rfl (by kernel_rfl) (by kernel_rfl) (by kernel_rfl) (fun _ _ _ h => h) (Or.inl ⟨by rfl, ?_⟩) (by assumption) ?_; rotate_left; (focus (intro w hSw; (try dsimp only at hSw); go_simp; (try with_reducible rfl))); (try simp only [List.getElem_toArray, List.getElem_cons_zero, List.getElem_cons_succ, Act.put, List.setIfInBounds_toArray, List.set_cons_zero, List.set_cons_succ])); (refine wpAnyH_take (i := 6) (v := ?_) rfl (by kernel_rfl) (by kernel_rfl) (by kernel_rfl) (fun _ _ _ h => h) (Or.inl ⟨by rfl, ?_⟩) (by assumption) ?_; rotate_left; (focus (intro w hSw; (try dsimp only at hSw); go_simp; (try with_reducible rfl))); (try simp only [List.getElem_toArray, List.getElem_cons_zero, List.getElem_cons_succ, Act.put, List.setIfInBounds_toArray, List.set_cons_zero, List.set_cons_succ])); (refine wpAnyH_take (i := 7) (v := ?_) rfl (by kernel_rfl) (by kernel_rfl) (by kernel_rfl) (fun _ _ _ h => h) (Or.inl ⟨by rfl, ?_⟩) (by assumption) ?_; rotate_left; (focus (intro w hSw; (try dsimp only at hSw); go_simp; (try with_reducible rfl))); (try simp only [List.getElem_toArray, List.getElem_cons_zero, List.getElem_cons_succ, Act.put, List.setIfInBounds_toArray, List.set_cons_zero, List.set_cons_succ])); (refine wpAnyH_take (i := 8) (v := ?_) rfl (by kernel_rfl) (by kernel_rfl) (by kernel_rfl) (fun _ _ _ h => h) (Or.inl ⟨by rfl, ?_⟩) (by assumption) ?_; rotate_left; (focus (intro w hSw; (try dsimp only at hSw); go_simp; (try with_reducible rfl))); (try simp only [List.getElem_toArray, List.getElem_cons_zero, List.getElem_cons_succ, Act.put, List.setIfInBounds_toArray, List.set_cons_zero, List.set_cons_succ])); (refine wpAnyH_take (i := 9) (v := ?_) rfl (by kernel_rfl) (by kernel_rfl) (by kernel_rfl) (fun _ _ _ h => h) (Or.inl ⟨by rfl, ?_⟩) (by assumption) ?_; rotate_left; (focus (intro w hSw; (try dsimp only at hSw); go_simp; (try with_reducible rfl))); (try simp only [List.getElem_toArray, List.getElem_cons_zero, List.getElem_cons_succ, Act.put, List.setIfInBounds_toArray, List.set_cons_zero, List.set_cons_succ])); (refine wpAnyH_take (i := 10) (v := ?_) rfl (by kernel_rfl) (by kernel_rfl) (by kernel_rfl) (fun _ _ _ h => h) (Or.inl ⟨by rfl, ?_⟩) (by assumption) ?_; rotate_left; (focus (intro w hSw; (try dsimp only at hSw); go_simp; (try with_reducible rfl))); (try simp only [List.getElem_toArray, List.getElem_cons_zero, List.getElem_cons_succ, Act.put, List.setIfInBounds_toArray, List.set_cons_zero, List.set_cons_succ])); (refine wpAnyH_take (i := 11) (v := ?_) rfl (by kernel_rfl) (by kernel_rfl) (by kernel_rfl) (fun _ _ _ h => h) (Or.inl ⟨by rfl, ?_⟩) (by assumption) ?_; rotate_left; (focus (intro w hSw; (try dsimp only at hSw); go_simp; (try with_reducible rfl))); (try simp only [List.getElem_toArray, List.getElem_cons_zero, List.getElem_cons_succ, Act.put, List.setIfInBounds_toArray, List.set_cons_zero, List.set_cons_succ])); (refine wpAnyH_take (i := 12) (v := ?_) rfl (by kernel_rfl) (by kernel_rfl) (by kernel_rfl) (fun _ _ _ h => h) (Or.inl ⟨by rfl, ?_⟩) (by assumption) ?_; rotate_left; (focus (intro w hSw; (try dsimp only at hSw); go_simp; (try with_reducible rfl))); (try simp only [List.getElem_toArray, List.getElem_cons_zero, List.getElem_cons_succ, Act.put, List.setIfInBounds_toArray, List.set_cons_zero, List.set_cons_succ]))
          refine wpAnyH_done (by kernel_rfl) ?_ _; clear hHeld
          clear S6d
          go_wp2_with (first
            | (go_at_call 15; refine (works_any _).mono ?_; rintro e w7 ⟨rfl, hb7⟩; (try clear c6d); have HB7 := Lib.hid (bel HB6d.out hb7); have c7 := (old_of HB7.out).1; clear hb7))
          go_ret
          exact ⟨rfl, fin HB.out HB7.out⟩
      · have e0 : decide (y < 0) = true := by simp; omega
        clear HAK hy0
        go_upto_region 19 with fail
        refine wp_region_held_drew (S := (fun w' => (∀ b o, b < ws.heap.size → w'.cell? ⟨b, o, none⟩ = ws.cell? ⟨b, o, none⟩) ∧ Hid (Below ws.heap.size ws w'))) (by kernel_rfl) S6d (fun hHeld => ?_)
        (refine wpAnyH_take (i := 0) (v := ?_) rfl (by kernel_rfl) (by kernel_rfl) (by kernel_rfl) (fun _ _ _ h => h) (Or.inl ⟨by rfl, ?_⟩) (by assumption) ?_; rotate_left; (focus (intro w hSw; (try dsimp only at hSw); go_simp; (try with_reducible rfl))); (try simp only [List.getElem_toArray, List.getElem_cons_zero, List.getElem_cons_succ, Act.put, List.setIfInBounds_toArray, List.set_cons_zero, List.set_cons_succ])); (refine wpAnyH_take (i := 1) (v := ?_) rfl (by kernel_rfl) (by kernel_rfl) (by kernel_rfl) (fun _ _ _ h => h) (Or.inl ⟨by rfl, ?_⟩) (by assumption) ?_; rotate_left; (focus (intro w hSw; (try dsimp only at hSw); go_simp; (try with_reducible rfl))); (try simp only [List.getElem_toArray, List.getElem_cons_zero, List.getElem_cons_succ, Act.put, List.setIfInBounds_toArray, List.set_cons_zero, List.set_cons_succ])); (refine wpAnyH_take (i := 2) (v := ?_) rfl (by kernel_rfl) (by kernel_rfl) (by kernel_rfl) (fun _ _ _ h => h) (Or.inl ⟨by rfl, ?_⟩) (by assumption) ?_; rotate_left; (focus (intro w hSw; (try dsimp only at hSw); go_simp; (try with_reducible rfl))); (try simp only [List.getElem_toArray, List.getElem_cons_zero, List.getElem_cons_succ, Act.put, List.setIfInBounds_toArray, List.set_cons_zero, List.set_cons_succ])); (refine wpAnyH_take (i := 3) (v := ?_) rfl (by kernel_rfl) (by kernel_rfl) (by kernel_rfl) (fun _ _ _ h => h) (Or.inl ⟨by rfl, ?_⟩) (by assumption) ?_; rotate_left; (focus (intro w hSw; (try dsimp only at hSw); go_simp; (try with_reducible rfl))); (try simp only [List.getElem_toArray, List.getElem_cons_zero, List.getElem_cons_succ, Act.put, List.setIfInBounds_toArray, List.set_cons_zero, List.set_cons_succ]))
        (refine wpAnyH_take (i := 4) (v := undef) rfl (by kernel_rfl) (by kernel_rfl) (by kernel_rfl) (fun _ _ _ h => h) (Or.inr ⟨by rfl, rfl⟩) (by assumption) ?_; (try simp only [List.getElem_toArray, List.getElem_cons_zero, List.getElem_cons_succ, Act.put, List.setIfInBounds_toArray, List.set_cons_zero, List.set_cons_succ])); (refine wpAnyH_take (i := 5) (v := undef) rfl (by kernel_rfl) (by kernel_rfl) (by kernel_rfl) (fun _ _ _ h => h) (Or.inr ⟨by rfl, rfl⟩) (by assumption) ?_; (try simp only [List.getElem_toArray, List.getElem_cons_zero, List.getElem_cons_succ, Act.put, List.setIfInBounds_toArray, List.set_cons_zero, List.set_cons_succ])); (refine wpAnyH_take (i := 6) (v := undef) rfl (by kernel_rfl) (by kernel_rfl) (by kernel_rfl) (fun _ _ _ h => h) (Or.inr ⟨by rfl, rfl⟩) (by assumption) ?_; (try simp only [List.getElem_toArray, List.getElem_cons_zero, List.getElem_cons_succ, Act.put, List.setIfInBounds_toArray, List.set_cons_zero, List.set_cons_succ])); (refine wpAnyH_take (i := 7) (v := undef) rfl (by kernel_rfl) (by kernel_rfl) (by kernel_rfl) (fun _ _ _ h => h) (Or.inr ⟨by rfl, rfl⟩) (by assumption) ?_; (try simp only [List.getElem_toArray, List.getElem_cons_zero, List.getElem_cons_succ, Act.put, List.setIfInBounds_toArray, List.set_cons_zero, List.set_cons_succ])); (refine wpAnyH_take (i := 8) (v := undef) rfl (by kernel_rfl) (by kernel_rfl) (by kernel_rfl) (fun _ _ _ h => h) (Or.inr ⟨by rfl, rfl⟩) (by assumption) ?_; (try simp only [List.getElem_toArray, List.getElem_cons_zero, List.getElem_cons_succ, Act.put, List.setIfInBounds_toArray, List.set_cons_zero, List.set_cons_succ])); (refine wpAnyH_take (i := 9) (v := undef) rfl (by kernel_rfl) (by kernel_rfl) (by kernel_rfl) (fun _ _ _ h => h) (Or.inr ⟨by rfl, rfl⟩) (by assumption) ?_; (try simp only [List.getElem_toArray, List.getElem_cons_zero, List.getElem_cons_succ, Act.put, List.setIfInBounds_toArray, List.set_cons_zero, List.set_cons_succ])); (refine wpAnyH_take (i := 10) (v := undef) rfl (by kernel_rfl) (by kernel_rfl) (by kernel_rfl) (fun _ _ _ h => h) (Or.inr ⟨by rfl, rfl⟩) (by assumption) ?_; (try simp only [List.getElem_toArray, List.getElem_cons_zero, List.getElem_cons_succ, Act.put, List.setIfInBounds_toArray, List.set_cons_zero, List.set_cons_succ])); (refine wpAnyH_take (i := 11) (v := undef) rfl (by kernel_rfl) (by kernel_rfl) (by kernel_rfl) (fun _ _ _ h => h) (Or.inr ⟨by rfl, rfl⟩) (by assumption) ?_; (try simp only [List.getElem_toArray, List.getElem_cons_zero, List.getElem_cons_succ, Act.put, List.setIfInBounds_toArray, List.set_cons_zero, List.set_cons_succ]))
        (refine wpAnyH_take (i := 12) (v := ?_) rfl (by kernel_rfl) (by kernel_rfl) (by kernel_rfl) (fun _ _ _ h => h) (Or.inl ⟨by rfl, ?_⟩) (by assumption) ?_; rotate_left; (focus (intro w hSw; (try dsimp only at hSw); go_simp; (try with_reducible rfl))); (try simp only [List.getElem_toArray, List.getElem_cons_zero, List.getElem_cons_succ, Act.put, List.setIfInBounds_toArray, List.set_cons_zero, List.set_cons_succ]))
        refine wpAnyH_done (by kernel_rfl) ?_ _; clear hHeld
        clear S6d
        go_wp2_with (first
          | (go_at_call 15; refine (works_any _).mono ?_; rintro e w7 ⟨rfl, hb7⟩; (try clear c6d); have HB7 := Lib.hid (bel HB6d.out hb7); have c7 := (old_of HB7.out).1; clear hb7))
        go_ret
        exact ⟨rfl, fin HB.out HB7.out⟩

end Go.Proofs.Ytmmadlpkolcgkaa
