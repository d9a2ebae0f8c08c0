/-
  JRefA: the reference's small words and Check.
-/
import Derived.Test.YtffnlimgjnhmpaaJMem
namespace Go.Proofs.Ytffnlimgjnhmpaa
open Go.RowKit

theorem within_eq (a b c : Int) (v : Bool) (w : World) (h : (decide (b ≤ a) && decide (a ≤ c)) = v) :
    Calls Try.prog 61 #[.int .i64 a, .int .i64 b, .int .i64 c] w fun e w' => e = .returned (.bool v) ∧ w' = w := by
  rw [← h]; exact within_any a b c w

set_option maxHeartbeats 400000 in
theorem isPoints_any (a : Int) (w : World) : Calls Try.prog 25 #[.int .i64 a] w fun e w' => e = .returned (.bool (decide (0 ≤ a) && decide (a ≤ 20))) ∧ w' = w := by
  go_enter Try.func25, Try.ntmps25
  go_wp2_with (go_at_call 61; refine (within_any _ _ _ _).mono ?_; rintro e w' ⟨rfl, rfl⟩)
  go_ret
  exact ⟨rfl, rfl⟩
theorem isPoints_eq (a : Int) (v : Bool) (w : World) (h : (decide (0 ≤ a) && decide (a ≤ 20)) = v) : Calls Try.prog 25 #[.int .i64 a] w fun e w' => e = .returned (.bool v) ∧ w' = w := by
  rw [← h]; exact isPoints_any a w

set_option maxHeartbeats 400000 in
theorem isPlate_any (N : Nat) (v : Value) (S : JB) (a : Int) (w : World) (h : ShowAt N w v S) :
    Calls Try.prog 36 #[v, .int .i64 a] w fun e w' => e = .returned (.bool (inN a S.np)) ∧ Below w.heap.size w w' := by
  obtain ⟨a1, c1, rfl⟩ := h.form
  obtain ⟨ws, hws, HB, hsz, hblk⟩ := box1 w (.cells #[.int .i64 S.J, .int .i64 S.D, .int .i64 S.Z, .slice a1 S.np c1] 24)
  have q0 := cell_blk hblk 0 rfl
  have q1 := cell_blk hblk 1 rfl
  have q2 := cell_blk hblk 2 rfl
  have q3 := cell_blk hblk 3 rfl
  have HNZ : Hid (N ≤ w.heap.size) := h.1
  have HBK := Lib.hid (h.go HB.out)
  have HB0 : Hid (Below ws.heap.size ws ws) := Below.refl _ _
  have HNS : Hid (N ≤ ws.heap.size) := HBK.out.1
  have hlen := h.len
  clear hblk h
  go_enter Try.func36, Try.ntmps36
  go_wp2_with (go_at_call 61; refine (within_any _ _ _ _).mono ?_; rintro e w' ⟨rfl, hw⟩; (try rw [hw]))
  go_ret
  exact ⟨ret_bool (by unfold inN; congr 1; exact decide_eq_decide.2 (by omega)), HB.out⟩

/-- is it a mark of the show? -/
def isMk (S : JB) (p j : Int) : Bool := inN p S.np && (decide (0 ≤ j) && decide (j < S.J))
set_option maxHeartbeats 400000 in
theorem isMark_any (N : Nat) (v : Value) (S : JB) (p j : Int) (w : World) (h : ShowAt N w v S) (hJ : 0 ≤ S.J ∧ S.J ≤ 1000) :
    Calls Try.prog 24 #[v, .agg #[.int .i64 p, .int .i64 j]] w fun e w' => e = .returned (.bool (isMk S p j)) ∧ Below w.heap.size w w' := by
  obtain ⟨a1, c1, rfl⟩ := h.form
  obtain ⟨ws, hws, HB, hsz, hsz1, hblk, hblk1⟩ := box2 w (.cells #[.int .i64 S.J, .int .i64 S.D, .int .i64 S.Z, .slice a1 S.np c1] 24) (.cells #[.int .i64 p, .int .i64 j] 46)
  have q0 := cell_blk hblk 0 rfl
  have q1 := cell_blk hblk 1 rfl
  have q2 := cell_blk hblk 2 rfl
  have q3 := cell_blk hblk 3 rfl
  have p0 := cell_blk hblk1 0 rfl
  have p1 := cell_blk hblk1 1 rfl
  have HBK := Lib.hid (h.go HB.out)
  have HB0 : Hid (Below ws.heap.size ws ws) := Below.refl _ _
  clear hblk hblk1 h
  cases hp : inN p S.np with
  | false =>
    have HP := Lib.hid hp
    clear hp
    go_enter Try.func24, Try.ntmps24
    go_wp2_with (go_at_call 36; refine (isPlate_any N _ S p _ (HBK.out.go HB0.out)).mono ?_; rw [HP.out]; rintro e w1 ⟨rfl, hb1⟩; ((try clear c0); have HB1 := Lib.hid (bel HB0.out hb1); have c1 := (old_of HB1.out).1; clear hb1))
    go_ret
    exact ⟨ret_bool (by unfold isMk; rw [HP.out]; rfl), fin HB.out HB1.out⟩
  | true =>
    have HP := Lib.hid hp
    clear hp
    have hw : IntKind.i64.wrap (S.J - 1) = S.J - 1 := IntWalk.i64_in _ (by omega)
    have he : (decide (0 ≤ j) && decide (j ≤ S.J - 1)) = (decide (0 ≤ j) && decide (j < S.J)) := by congr 1; exact decide_eq_decide.2 (by omega)
    have HE := Lib.hid he
    have h1 : -1 ≤ S.J - 1 := by omega
    have h2 : S.J ≤ 1000 := hJ.2
    have h3 : 0 ≤ S.J := hJ.1
    clear he hJ
    go_enter Try.func24, Try.ntmps24
    go_wp2_with (first
      | (go_at_call 36; refine (isPlate_any N _ S p _ (HBK.out.go HB0.out)).mono ?_; rw [HP.out]; rintro e w1 ⟨rfl, hb1⟩; ((try clear c0); have HB1 := Lib.hid (bel HB0.out hb1); have c1 := (old_of HB1.out).1; clear hb1))
      | (go_at_call 61; refine (within_eq _ _ _ _ _ HE.out).mono ?_; rintro e w' ⟨rfl, hw'⟩; rw [hw']; clear hw'))
    go_ret
    exact ⟨ret_bool (by unfold isMk; rw [HP.out]; rfl), fin HB.out HB1.out⟩

/-- the error of a show -/
def errS (S : JB) : Int := if okS S then 0 else 80
theorem okS_no {S : JB} (h : okN S = false) : okS S = false := by unfold okS; rw [h]; rfl
theorem okS_pl {S : JB} {i : Nat} (hi : i < S.np) (h : okPl S.J (S.sz i) (S.pts i) = false) : okS S = false := by
  unfold okS; rw [allB_false.2 ⟨i, hi, h⟩, Bool.and_false]
theorem okPl_pt {J s : Int} {l : List Int} {k : Nat} (hk : k < l.length) (h : okPt (l.getD k 0) = false) : okPl J s l = false := by
  unfold okPl
  have : l.all okPt = false := by
    rw [List.all_eq_false]
    refine ⟨l[k], List.getElem_mem hk, ?_⟩
    rw [List.getD, List.getElem?_eq_getElem hk] at h
    simpa using h
  rw [this, Bool.and_false, Bool.and_false]
theorem all_okPt {l : List Int} (h : ∀ j, j < l.length → okPt (l.getD j 0) = true) : l.all okPt = true := by
  rw [List.all_eq_true]
  intro x hx
  obtain ⟨i, hi, rfl⟩ := List.getElem_of_mem hx
  have := h i hi
  rwa [List.getD, List.getElem?_eq_getElem hi] at this

set_option maxHeartbeats 6400000 in
set_option maxRecDepth 100000 in
theorem rCheck_any (N : Nat) (v : Value) (S : JB) (w : World) (h : ShowAt N w v S) :
    Calls Try.prog 44 #[v] w fun e w' => e = .returned (.int .i64 (errS S)) ∧ Below w.heap.size w w' := by
  obtain ⟨a1, c1, rfl⟩ := h.form
  obtain ⟨ws, hws, HB, hsz, hblk⟩ := box1 w (.cells #[.int .i64 S.J, .int .i64 S.D, .int .i64 S.Z, .slice a1 S.np c1] 24)
  have q0 := cell_blk hblk 0 rfl
  have q1 := cell_blk hblk 1 rfl
  have q2 := cell_blk hblk 2 rfl
  have q3 := cell_blk hblk 3 rfl
  have HNZ : Hid (N ≤ w.heap.size) := h.1
  have HBK := Lib.hid (h.go HB.out)
  have HB0 : Hid (Below ws.heap.size ws ws) := Below.refl _ _
  have HNS : Hid (N ≤ ws.heap.size) := HBK.out.1
  have hlen := h.len
  clear hblk h
  cases h1 : (decide (1 ≤ S.J) && decide (S.J ≤ 5)) with
  | false =>
    have H1 := Lib.hid h1
    have HE : Hid (okS S = false) := okS_no (by unfold okN; rw [h1]; rfl)
    clear h1
    go_enter Try.func44, Try.ntmps44
    go_wp2_with (go_at_call 61; refine (within_eq _ _ _ _ _ H1.out).mono ?_; rintro e w' ⟨rfl, hw'⟩; rw [hw']; clear hw')
    go_ret
    exact ⟨ret_int (by unfold errS; rw [HE.out]; rfl), HB.out⟩
  | true =>
  have H1 := Lib.hid h1
  cases h2 : (decide (0 ≤ S.D) && decide (S.D ≤ 5)) with
  | false =>
    have H2 := Lib.hid h2
    have HE : Hid (okS S = false) := okS_no (by
      have h1' := h1
      simp only [Bool.and_eq_true, decide_eq_true_eq] at h1'
      have : (decide (0 ≤ S.D) && decide (2 * S.D < S.J)) = false := by
        simp only [Bool.and_eq_false_iff, decide_eq_false_iff_not] at h2 ⊢
        omega
      unfold okN; rw [h1, this]; rfl)
    clear h1 h2
    go_enter Try.func44, Try.ntmps44
    go_wp2_with (first
      | (go_at_call 61; have hx := H1; clear H1; refine (within_eq _ _ _ _ _ hx.out).mono ?_; clear hx; rintro e w' ⟨rfl, hw'⟩; rw [hw']; clear hw')
      | (go_at_call 61; refine (within_eq _ _ _ _ _ H2.out).mono ?_; rintro e w' ⟨rfl, hw'⟩; rw [hw']; clear hw'))
    go_ret
    exact ⟨ret_int (by unfold errS; rw [HE.out]; rfl), HB.out⟩
  | true =>
  have H2 := Lib.hid h2
  have hD : 0 ≤ S.D ∧ S.D ≤ 5 := by simpa using h2
  have hD0 := hD.1
  have hD5 := hD.2
  have hJ : 1 ≤ S.J ∧ S.J ≤ 5 := by simpa using h1
  have HJ := Lib.hid hJ
  have hwD : IntKind.i64.wrap (2 * S.D) = 2 * S.D := IntWalk.i64_in _ (by omega)
  by_cases h3 : S.J ≤ 2 * S.D
  · have HE : Hid (okS S = false) := okS_no (by
      unfold okN; rw [h1, decide_eq_false (show ¬ 2 * S.D < S.J by omega), Bool.and_false]; rfl)
    clear h1 h2 hD hJ
    go_enter Try.func44, Try.ntmps44
    go_wp2_with (first
      | (go_at_call 61; have hx := H1; clear H1; refine (within_eq _ _ _ _ _ hx.out).mono ?_; clear hx; rintro e w' ⟨rfl, hw'⟩; rw [hw']; clear hw')
      | (go_at_call 61; refine (within_eq _ _ _ _ _ H2.out).mono ?_; rintro e w' ⟨rfl, hw'⟩; rw [hw']; clear hw'))
    go_ret
    exact ⟨ret_int (by unfold errS; rw [HE.out]; rfl), HB.out⟩
  have h3' : ¬ S.J ≤ 2 * S.D := h3
  cases h4 : (decide (0 ≤ S.Z) && decide (S.Z ≤ 6)) with
  | false =>
    have H4 := Lib.hid h4
    have HE : Hid (okS S = false) := okS_no (by
      unfold okN; rw [h1, h4, Bool.false_and, Bool.and_false, Bool.and_false])
    clear h1 h2 hD hJ h4
    go_enter Try.func44, Try.ntmps44
    go_wp2_with (first
      | (go_at_call 61; have hx := H1; clear H1; refine (within_eq _ _ _ _ _ hx.out).mono ?_; clear hx; rintro e w' ⟨rfl, hw'⟩; rw [hw']; clear hw')
      | (go_at_call 61; have hx := H2; clear H2; refine (within_eq _ _ _ _ _ hx.out).mono ?_; clear hx; rintro e w' ⟨rfl, hw'⟩; rw [hw']; clear hw')
      | (go_at_call 61; refine (within_eq _ _ _ _ _ H4.out).mono ?_; rintro e w' ⟨rfl, hw'⟩; rw [hw']; clear hw'))
    go_ret
    exact ⟨ret_int (by unfold errS; rw [HE.out]; rfl), HB.out⟩
  | true =>
  have H4 := Lib.hid h4
  by_cases h5 : 6 < S.np
  · have h5i : (6 : Int) < (S.np : Int) := by omega
    have HE : Hid (okS S = false) := okS_no (by
      unfold okN; rw [h1, h4, decide_eq_false (show ¬ S.np ≤ 6 by omega), Bool.and_false, Bool.and_false, Bool.and_false])
    clear h1 h2 hD hJ h4
    go_enter Try.func44, Try.ntmps44
    go_wp2_with (first
      | (go_at_call 61; have hx := H1; clear H1; refine (within_eq _ _ _ _ _ hx.out).mono ?_; clear hx; rintro e w' ⟨rfl, hw'⟩; rw [hw']; clear hw')
      | (go_at_call 61; have hx := H2; clear H2; refine (within_eq _ _ _ _ _ hx.out).mono ?_; clear hx; rintro e w' ⟨rfl, hw'⟩; rw [hw']; clear hw')
      | (go_at_call 61; refine (within_eq _ _ _ _ _ H4.out).mono ?_; rintro e w' ⟨rfl, hw'⟩; rw [hw']; clear hw'))
    go_ret
    exact ⟨ret_int (by unfold errS; rw [HE.out]; rfl), HB.out⟩
  have h5i : ¬ (6 : Int) < (S.np : Int) := by omega
  have h5b : decide (6 < S.np) = false := decide_eq_false h5
  have HN : Hid (okN S = true) := by unfold Hid okN; rw [h1, h4, decide_eq_true (show 0 ≤ S.D by omega), decide_eq_true (show 2 * S.D < S.J by omega), decide_eq_true (show S.np ≤ 6 by omega)]; rfl
  have hnp6 : S.np ≤ 6 := by omega
  clear h1 h2 hD h4 h5
  go_enter Try.func44, Try.ntmps44
  go_wp2_with (first
    | (go_at_call 61; have hx := H1; clear H1; refine (within_eq _ _ _ _ _ hx.out).mono ?_; clear hx; rintro e w' ⟨rfl, hw'⟩; rw [hw']; clear hw')
    | (go_at_call 61; have hx := H2; clear H2; refine (within_eq _ _ _ _ _ hx.out).mono ?_; clear hx; rintro e w' ⟨rfl, hw'⟩; rw [hw']; clear hw')
    | (go_at_call 61; refine (within_eq _ _ _ _ _ H4.out).mono ?_; rintro e w' ⟨rfl, hw'⟩; rw [hw']; clear hw'))
  clear hws
  go_loopw [3] (fun i wr => ∃ k : Nat, k ≤ S.np ∧ i = .int .i64 k ∧ Hid (∀ j, j < k → okPl S.J (S.sz j) (S.pts j) = true) ∧ Hid (Below ws.heap.size ws wr)) (fun i _ => S.np - (intOf i).toNat)
  case atStart => exact ⟨0, Nat.zero_le _, rfl, fun j hj => absurd hj (Nat.not_lt_zero j), HB0⟩
  case round =>
    obtain ⟨k, hk, rfl, HK, HBr⟩ := hrel
    have r0 := (HBr.out.cell (p := ⟨w.heap.size, 0, none⟩) hsz).trans q0
    have r1 := (HBr.out.cell (p := ⟨w.heap.size, 1, none⟩) hsz).trans q1
    have r2 := (HBr.out.cell (p := ⟨w.heap.size, 2, none⟩) hsz).trans q2
    have r3 := (HBr.out.cell (p := ⟨w.heap.size, 3, none⟩) hsz).trans q3
    by_cases hkn : k < S.np
    · obtain ⟨A, C, hcap, _, hrows, hcells⟩ := HBK.out.plates.open
      obtain ⟨b, off, e, hbN, hrr⟩ := hcells (by omega)
      cases e
      have hbs : b < ws.heap.size := by have := HNS.out; omega
      have d0 := (HBr.out.cell (p := ⟨b, off + k * 2, none⟩) hbs).trans (hrr k hkn).1
      have d1 := (HBr.out.cell (p := ⟨b, off + k * 2 + 1, none⟩) hbs).trans (hrr k hkn).2
      have HLI := Lib.hid ((hrows k hkn).2)
      obtain ⟨sz, hsz'⟩ : ∃ z, S.sz k = z := ⟨_, rfl⟩
      obtain ⟨pl, hpl⟩ : ∃ z, S.pts k = z := ⟨_, rfl⟩
      rw [hsz'] at d0
      rw [hpl] at d1 HLI
      have HSZ := Lib.hid hsz'
      have HPL := Lib.hid hpl
      clear hrows hcells hrr hsz' hpl
      obtain ⟨wb, hwb, HBb, hszb, hblkb⟩ := box1 wr (.cells #[.int .i64 0, .slice none 0 0] 40)
      have z0 := cell_blk hblkb 0 rfl
      have z1 := cell_blk hblkb 1 rfl
      have zf0 := free_blk hblkb 0
      have zf1 := free_blk hblkb 1
      go_upto_region 7 with fail
      obtain ⟨wq, hwq⟩ : ∃ wq, (wb.setCell ⟨wr.heap.size, 0, none⟩ (.int .i64 sz)).setCell ⟨wr.heap.size, 1, none⟩ (.slice (A k) pl.length (C k)) = wq := ⟨_, rfl⟩
      have hcq : wq.heap[wr.heap.size]? = some (.cells #[.int .i64 sz, .slice (A k) pl.length (C k)] 40) := by rw [← hwq]; exact blk_set (blk_set hblkb 0 _) 1 _
      have hbq : Below wr.heap.size wb wq := by rw [← hwq]; exact ((Below.refl _ wb).setCell (p := ⟨wr.heap.size, 0, none⟩) (Nat.le_refl _) _).setCell (p := ⟨wr.heap.size, 1, none⟩) (Nat.le_refl _) _
      rw [hwq]
      have HBq : Hid (Below wr.heap.size wr wq) := HBb.out.trans hbq
      have HB2 : Hid (Below ws.heap.size ws wq) := bel HBr.out HBq.out
      obtain ⟨g, hg⟩ : ∃ g, wr.heap.size = g := ⟨_, rfl⟩
      rw [hg] at hcq ⊢
      have hgq := (Array.getElem?_eq_some_iff.1 hcq).1
      have y0 := cell_blk hcq 0 rfl
      have y1 := cell_blk hcq 1 rfl
      have s0 := (HB2.out.cell (p := ⟨w.heap.size, 0, none⟩) hsz).trans q0
      have s1 := (HB2.out.cell (p := ⟨w.heap.size, 1, none⟩) hsz).trans q1
      have s2 := (HB2.out.cell (p := ⟨w.heap.size, 2, none⟩) hsz).trans q2
      have s3 := (HB2.out.cell (p := ⟨w.heap.size, 3, none⟩) hsz).trans q3
      have HLIq := Lib.hid (HLI.out.mono (HB2.out.mono HNS.out) (Nat.le_refl _))
      have hpl1 := HLI.out.len
      clear hwb hwq hbq z0 z1 zf0 zf1 d0 d1 r0 r1 r2 r3 hblkb hcq
      cases h6 : (decide (0 ≤ sz) && decide (sz ≤ 999)) with
      | false =>
        have H6 := Lib.hid h6
        have HE : Hid (okS S = false) := okS_pl hkn (by rw [HSZ.out]; unfold okPl; rw [h6]; rfl)
        clear h6
        go_wp2_with (go_at_call 61; refine (within_eq _ _ _ _ _ H6.out).mono ?_; rintro e w' ⟨rfl, hw'⟩; rw [hw']; clear hw')
        go_ret
        exact ⟨ret_int (by unfold errS; rw [HE.out]; rfl), fin HB.out HB2.out⟩
      | true =>
        have H6 := Lib.hid h6
        by_cases h7 : ((pl.length : Nat) : Int) = S.J
        · have h7b : (((pl.length : Nat) : Int) != S.J) = false := by simp [h7]
          have H7 := Lib.hid h7
          clear h6 h7
          go_wp2_with (go_at_call 61; refine (within_eq _ _ _ _ _ H6.out).mono ?_; rintro e w' ⟨rfl, hw'⟩; rw [hw']; clear hw')
          obtain ⟨wo, hwo⟩ : ∃ wo, wo = wq := ⟨_, rfl⟩
          subst hwo
          go_loopw [5] (fun i wr => ∃ m : Nat, m ≤ pl.length ∧ i = .int .i64 m ∧ Hid (∀ j, j < m → okPt (pl.getD j 0) = true) ∧ Hid (Drawn wo wr)) (fun i _ => pl.length - (intOf i).toNat)
          case atStart => exact ⟨0, Nat.zero_le _, rfl, fun j hj => absurd hj (Nat.not_lt_zero j), Drawn.refl _⟩
          case round =>
            obtain ⟨m, hm, rfl, HM, HD⟩ := hrel
            replace y1 := HD.out.cell y1
            by_cases hmn : m < pl.length
            · obtain ⟨b2, off2, e2, _, hr2⟩ := HLIq.out.cells (by omega)
              rw [e2] at y1 ⊢
              have cc := HD.out.cell (hr2 m hmn)
              obtain ⟨x, hx⟩ : ∃ x, pl.getD m 0 = x := ⟨_, rfl⟩
              have HX := Lib.hid hx
              simp only [hx] at cc
              clear hr2 hx
              cases h8 : (decide (0 ≤ x) && decide (x ≤ 20)) with
              | true =>
                have H8 := Lib.hid h8
                have HO : Hid (okPt (pl.getD m 0) = true) := by unfold Hid okPt; rw [HX.out]; simp only [Bool.and_eq_true, decide_eq_true_eq] at h8 ⊢; omega
                clear h8
                go_wp2_with (go_at_call 25; refine (isPoints_eq _ _ _ H8.out).mono ?_; rintro e w' ⟨rfl, hw'⟩; rw [hw']; clear hw')
                go_roundw
                case rel => exact ⟨m + 1, by omega, by go_num, fun j hj => by
                  rcases Nat.lt_succ_iff_lt_or_eq.1 hj with h | h
                  · exact HM.out j h
                  · rw [h]; exact HO.out, HD⟩
                case measure => simp [intOf]; omega
              | false =>
                have H8 := Lib.hid h8
                by_cases h9 : x = -1
                · have HO : Hid (okPt (pl.getD m 0) = true) := by unfold Hid okPt; rw [HX.out, h9]; rfl
                  have h9b : (x != -1) = false := by simp [h9]
                  clear h8 h9
                  go_wp2_with (go_at_call 25; refine (isPoints_eq _ _ _ H8.out).mono ?_; rintro e w' ⟨rfl, hw'⟩; rw [hw']; clear hw')
                  go_roundw
                  case rel => exact ⟨m + 1, by omega, by go_num, fun j hj => by
                    rcases Nat.lt_succ_iff_lt_or_eq.1 hj with h | h
                    · exact HM.out j h
                    · rw [h]; exact HO.out, HD⟩
                  case measure => simp [intOf]; omega
                · have HO : Hid (okPt (pl.getD m 0) = false) := by
                    unfold Hid okPt; rw [HX.out]
                    simp only [Bool.and_eq_false_iff, decide_eq_false_iff_not] at h8 ⊢
                    omega
                  have h9b : (x != -1) = true := by simp [h9]
                  have HE : Hid (okS S = false) := okS_pl hkn (by rw [HPL.out]; exact okPl_pt hmn HO.out)
                  clear h8 h9
                  go_wp2_with (go_at_call 25; refine (isPoints_eq _ _ _ H8.out).mono ?_; rintro e w' ⟨rfl, hw'⟩; rw [hw']; clear hw')
                  go_ret
                  exact ⟨ret_int (by unfold errS; rw [HE.out]; rfl), fin HB.out (bel HB2.out (HD.out.below _))⟩
            · have HO : Hid (okPl S.J (S.sz k) (S.pts k) = true) := by
                unfold Hid okPl
                rw [HSZ.out, HPL.out, H6.out, decide_eq_true H7.out, all_okPt fun j hj => HM.out j (by omega)]
                rfl
              go_wp2
              go_roundw
              case rel => exact ⟨k + 1, by omega, by go_num, fun j hj => by
                rcases Nat.lt_succ_iff_lt_or_eq.1 hj with h | h
                · exact HK.out j h
                · rw [h]; exact HO.out, bel HB2.out (HD.out.below _)⟩
              case measure => simp [intOf]; omega
        · have h7b : (((pl.length : Nat) : Int) != S.J) = true := by simp [h7]
          have HE : Hid (okS S = false) := okS_pl hkn (by rw [HPL.out]; unfold okPl; rw [decide_eq_false h7, Bool.false_and, Bool.and_false])
          clear h6 h7
          go_wp2_with (go_at_call 61; refine (within_eq _ _ _ _ _ H6.out).mono ?_; rintro e w' ⟨rfl, hw'⟩; rw [hw']; clear hw')
          go_ret
          exact ⟨ret_int (by unfold errS; rw [HE.out]; rfl), fin HB.out HB2.out⟩
    · have HE : Hid (okS S = true) := by
        unfold Hid okS
        rw [HN.out, allB_true.2 fun j hj => HK.out j (by omega)]
        rfl
      go_wp2
      go_ret
      exact ⟨ret_int (by unfold errS; rw [HE.out]; rfl), fin HB.out HBr.out⟩

end Go.Proofs.Ytffnlimgjnhmpaa
