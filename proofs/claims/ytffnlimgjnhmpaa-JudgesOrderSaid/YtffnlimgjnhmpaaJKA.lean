/-
  JKA: the checks of package judges.
-/
import Derived.Test.YtffnlimgjnhmpaaJRefA
namespace Go.Proofs.Ytffnlimgjnhmpaa
open Go.RowKit

theorem kbetween_any (a b c : Int) (v : Bool) (w : World) (h : (decide (b ≤ a) && decide (a ≤ c)) = v) :
    Calls Try.prog 101 #[.int .i64 a, .int .i64 b, .int .i64 c] w fun e w' => e = .returned (.bool v) ∧ w' = w := by
  have H := Lib.hid h
  by_cases h1 : b ≤ a
  all_goals
    clear h
    go_enter Try.func101, Try.ntmps101
    go_wp2
    go_ret
    exact ⟨ret_bool (by rw [← H.out]; first | (simp [h1]; done) | (simp; omega)), rfl⟩
theorem kwithin_any (a : Int) (n : Nat) (v : Bool) (w : World) (h : inN a n = v) :
    Calls Try.prog 59 #[.int .i64 a, .int .i64 n] w fun e w' => e = .returned (.bool v) ∧ w' = w := by
  have H := Lib.hid h
  by_cases h1 : 0 ≤ a
  all_goals
    clear h
    go_enter Try.func59, Try.ntmps59
    go_wp2
    go_ret
    exact ⟨ret_bool (by rw [← H.out]; unfold inN; first | (simp [h1]; done) | (simp; omega)), rfl⟩
set_option maxHeartbeats 400000 in
theorem kwrongPt_any (x : Int) (w : World) : Calls Try.prog 110 #[.int .i64 x] w fun e w' => e = .returned (.bool (!okPt x)) ∧ w' = w := by
  by_cases h1 : x = -1
  · have h1b : (x != -1) = false := by simp [h1]
    have HE : Hid ((!okPt x) = false) := by subst h1; rfl
    clear h1
    go_enter Try.func110, Try.ntmps110
    go_wp2
    (try go_quiet (fail))
    (try go_wp2)
    go_ret
    exact ⟨ret_bool HE.out.symm, rfl⟩
  · have h1b : (x != -1) = true := by simp [h1]
    have HE : Hid ((decide (0 ≤ x) && decide (x ≤ 20)) = okPt x) := by
      unfold Hid okPt
      congr 1
      exact decide_eq_decide.2 (by omega)
    clear h1
    go_enter Try.func110, Try.ntmps110
    go_wp2_with (go_at_call 101; refine (kbetween_any _ _ _ _ _ HE.out).mono ?_; rintro e w' ⟨rfl, hw'⟩; rw [hw']; clear hw')
    go_ret
    exact ⟨rfl, rfl⟩

/-- the first i below n with p i, or -1 -/
def firstI (n : Nat) (p : Nat → Bool) : Int := match (List.range n).find? p with | some i => i | none => -1
theorem firstI_spec (n : Nat) (p : Nat → Bool) {k : Nat} (hk : k < n) (h : p k = true) (hb : ∀ j, j < k → p j = false) : firstI n p = k := by
  have : (List.range n).find? p = some k := List.find?_range_eq_some.2 ⟨h, List.mem_range.2 hk, fun j hj => by simp [hb j hj]⟩
  simp [firstI, this]
theorem firstI_none (n : Nat) (p : Nat → Bool) (hb : ∀ j, j < n → p j = false) : firstI n p = -1 := by
  have : (List.range n).find? p = none := List.find?_range_eq_none.2 fun j hj => by simp [hb j hj]
  simp [firstI, this]
theorem firstI_any (n : Nat) (p : Nat → Bool) : decide (0 ≤ firstI n p) = anyB n p := by
  unfold firstI anyB
  rw [Bool.eq_iff_iff]
  cases h : (List.range n).find? p with
  | none =>
    simp only [List.find?_eq_none] at h
    simp only [List.any_eq_true]
    constructor
    · intro h2; simp at h2
    · rintro ⟨x, hx, hp⟩; exact absurd hp (h x hx)
  | some i =>
    have h1 := List.mem_of_find?_eq_some h
    have h2 := List.find?_some h
    simp only [List.any_eq_true]
    constructor
    · intro _; exact ⟨i, h1, h2⟩
    · intro _; simp
theorem any_notall (l : List Int) : (anyB l.length fun i => !okPt (l.getD i 0)) = !l.all okPt := by
  rw [Bool.eq_iff_iff, anyB_true]
  simp only [Bool.not_eq_true', List.all_eq_false]
  constructor
  · rintro ⟨i, hi, he⟩
    exact ⟨l[i], List.getElem_mem hi, by rw [getD_at hi] at he; simpa using he⟩
  · rintro ⟨x, hx, he⟩
    obtain ⟨i, hi, rfl⟩ := List.getElem_of_mem hx
    exact ⟨i, hi, by rw [getD_at hi]; simpa using he⟩

set_option maxHeartbeats 800000 in
theorem kindexPts_any (N : Nat) (v : Value) (l : List Int) (w : World) (h : LI N w v l) :
    Calls Try.prog 127 #[v, .func (.func 110) #[] #[]] w fun e w' => e = .returned (.int .i64 (firstI l.length fun i => !okPt (l.getD i 0))) ∧ w' = w := by
  obtain ⟨a, c, rfl⟩ := h.form
  have HL := Lib.hid h
  have hlen := h.len
  obtain ⟨n, hn⟩ : ∃ n, l.length = n := ⟨_, rfl⟩
  have HN := Lib.hid hn
  rw [hn] at HL hlen ⊢
  clear h hn
  go_enter Try.func127, Try.ntmps127
  go_wp2
  go_loop [8] (fun i => ∃ k : Nat, k ≤ n ∧ i = .int .i64 k ∧ Hid (∀ j, j < k → (!okPt (l.getD j 0)) = false)) (fun i => n - (intOf i).toNat)
  case atStart => exact ⟨0, Nat.zero_le _, rfl, fun j hj => absurd hj (Nat.not_lt_zero j)⟩
  case round =>
    obtain ⟨k, hk, rfl, HK⟩ := hrel
    by_cases hkn : k < n
    · obtain ⟨b, off, rfl, _, hr⟩ := HL.out.cell (by rw [HN.out]; omega)
      have ck := hr k (by rw [HN.out]; exact hkn)
      obtain ⟨x, hx⟩ : ∃ x, l.getD k 0 = x := ⟨_, rfl⟩
      have HX := Lib.hid hx
      rw [hx] at ck
      clear hr hx
      cases hp : (!okPt x) with
      | true =>
        have HP := Lib.hid hp
        clear hp
        go_wp2_with (go_at_call 110; refine (kwrongPt_any _ _).mono ?_; rw [HP.out]; rintro e w1 ⟨rfl, hw1⟩; rw [hw1]; clear hw1)
        go_ret
        exact ⟨ret_int (firstI_spec n _ hkn (by rw [HX.out]; exact HP.out) HK.out).symm, rfl⟩
      | false =>
        have HP := Lib.hid hp
        clear hp
        go_wp2_with (go_at_call 110; refine (kwrongPt_any _ _).mono ?_; rw [HP.out]; rintro e w1 ⟨rfl, hw1⟩; rw [hw1]; clear hw1)
        go_round
        case rel => exact ⟨k + 1, by omega, by go_num, lt_succ HK.out (by rw [HX.out]; exact HP.out)⟩
        case measure => simp [intOf]; omega
    · go_wp2
      go_ret
      exact ⟨ret_int (firstI_none n _ fun j h => HK.out j (by omega)).symm, rfl⟩

set_option maxHeartbeats 400000 in
theorem kcontPts_any (N : Nat) (v : Value) (l : List Int) (w : World) (h : LI N w v l) :
    Calls Try.prog 111 #[v, .func (.func 110) #[] #[]] w fun e w' => e = .returned (.bool (!l.all okPt)) ∧ w' = w := by
  obtain ⟨a, c, rfl⟩ := h.form
  have H := Lib.hid h
  have HF : Hid (decide (0 ≤ firstI l.length fun i => !okPt (l.getD i 0)) = !l.all okPt) := (firstI_any _ _).trans (any_notall l)
  clear h
  go_enter Try.func111, Try.ntmps111
  go_wp2_with (go_at_call 127; refine (kindexPts_any N _ _ _ H.out).mono ?_; rintro e w1 ⟨rfl, hw1⟩; rw [hw1]; clear hw1)
  go_ret
  exact ⟨ret_bool HF.out, rfl⟩

set_option maxHeartbeats 1600000 in
theorem kvalidPlate_any (N : Nat) (v : Value) (s J : Int) (l : List Int) (w : World) (h : LI N w v l) (hN : N ≤ w.heap.size) :
    Calls Try.prog 103 #[.agg #[.int .i64 s, v], .int .i64 J] w fun e w' => e = .returned (.bool (okPl J s l)) ∧ Below w.heap.size w w' := by
  obtain ⟨a, c, rfl⟩ := h.form
  have hlen := h.len
  obtain ⟨n, hn⟩ : ∃ n, l.length = n := ⟨_, rfl⟩
  have HN := Lib.hid hn
  rw [hn] at h hlen ⊢
  obtain ⟨ws, hws, HB, hsz, hblk⟩ := box1 w (.cells #[.int .i64 s, .slice a n c] 40)
  have q0 := cell_blk hblk 0 rfl
  have q1 := cell_blk hblk 1 rfl
  have HL := Lib.hid (h.go hN HB.out)
  clear hblk h hn
  cases h1 : (decide (0 ≤ s) && decide (s ≤ 999)) with
  | false =>
    have HE : Hid (okPl J s l = false) := by unfold Hid okPl; rw [h1]; rfl
    have H1 := Lib.hid h1
    clear h1
    go_enter Try.func103, Try.ntmps103
    go_wp2_with (go_at_call 101; refine (kbetween_any _ _ _ _ _ H1.out).mono ?_; rintro e w1 ⟨rfl, hw1⟩; rw [hw1]; clear hw1)
    go_ret
    exact ⟨ret_bool HE.out.symm, HB.out⟩
  | true =>
    by_cases h2 : (n : Int) = J
    · have h2b : ((n : Int) == J) = true := by simp [h2]
      have HE : Hid (okPl J s l = l.all okPt) := by unfold Hid okPl; rw [h1, decide_eq_true (show ((l.length : Nat) : Int) = J by rw [HN.out]; exact h2)]; rfl
      have H1 := Lib.hid h1
      clear h1 h2
      go_enter Try.func103, Try.ntmps103
      go_wp2_with (first
        | (go_at_call 101; refine (kbetween_any _ _ _ _ _ H1.out).mono ?_; rintro e w1 ⟨rfl, hw1⟩; rw [hw1]; clear hw1)
        | (go_at_call 111; refine (kcontPts_any N _ l _ HL.out).mono ?_; rintro e w1 ⟨rfl, hw1⟩; rw [hw1]; clear hw1))
      go_ret
      exact ⟨ret_bool (by first | (rw [HE.out]; done) | (rw [HE.out]; simp)), HB.out⟩
    · have h2b : ((n : Int) == J) = false := by simp [h2]
      have HE : Hid (okPl J s l = false) := by unfold Hid okPl; rw [decide_eq_false (show ¬ ((l.length : Nat) : Int) = J by rw [HN.out]; exact h2), Bool.false_and, Bool.and_false]
      have H1 := Lib.hid h1
      clear h1 h2
      go_enter Try.func103, Try.ntmps103
      go_wp2_with (go_at_call 101; refine (kbetween_any _ _ _ _ _ H1.out).mono ?_; rintro e w1 ⟨rfl, hw1⟩; rw [hw1]; clear hw1)
      go_ret
      exact ⟨ret_bool HE.out.symm, HB.out⟩

set_option maxHeartbeats 1600000 in
theorem kwrongPlate_any (N : Nat) (v : Value) (s J : Int) (l : List Int) (b : Nat) (w : World) (h : LI N w v l) (hN : N ≤ w.heap.size) (hb : b < w.heap.size) (hJ : w.cell? ⟨b, 0, none⟩ = some (.int .i64 J)) :
    Calls Try.prog 102 #[.agg #[.int .i64 s, v], .pointer (some ⟨b, 0, none⟩)] w fun e w' => e = .returned (.bool (!okPl J s l)) ∧ Below w.heap.size w w' := by
  obtain ⟨a, c, rfl⟩ := h.form
  obtain ⟨ws, hws, HB, hsz, hblk⟩ := box1 w (.cells #[.int .i64 s, .slice a l.length c] 40)
  have q0 := cell_blk hblk 0 rfl
  have q1 := cell_blk hblk 1 rfl
  have e0 := (HB.out.cell (p := ⟨b, 0, none⟩) hb).trans hJ
  have HL := Lib.hid (h.go hN HB.out)
  have HNS := Lib.hid (Nat.le_trans hN HB.out.size)
  clear hblk h hJ
  go_enter Try.func102, Try.ntmps102
  go_wp2_with (go_at_call 103; refine (kvalidPlate_any N _ s J l _ HL.out HNS.out).mono ?_; rintro e w1 ⟨rfl, hb1⟩; have HB1 := Lib.hid hb1; clear hb1)
  go_ret
  exact ⟨rfl, fin HB.out HB1.out⟩

set_option maxHeartbeats 1600000 in
set_option maxRecDepth 100000 in
theorem kindexPl_any (N : Nat) (v : Value) (S : JB) (b : Nat) (w : World) (h : PlatesAt N w v S) (hN : N ≤ w.heap.size) (hb : b < w.heap.size) (hJ : w.cell? ⟨b, 0, none⟩ = some (.int .i64 S.J)) :
    Calls Try.prog 112 #[v, .func (.func 102) #[] #[.pointer (some ⟨b, 0, none⟩)]] w fun e w' => e = .returned (.int .i64 (firstI S.np fun i => !okPl S.J (S.sz i) (S.pts i))) ∧ Below w.heap.size w w' := by
  obtain ⟨ao, c, rfl, hlen, _⟩ := id h
  obtain ⟨A, C, hcap, _, hrows, hcells⟩ := h.open
  have HRW := Lib.hid hrows
  have HCL := Lib.hid hcells
  have HN := Lib.hid hN
  have HJ := Lib.hid hJ
  have HB0 : Hid (Below w.heap.size w w) := Below.refl _ _
  clear hrows hcells h hN hJ
  go_enter Try.func112, Try.ntmps112
  go_wp2
  go_loopw [8] (fun i wr => ∃ k : Nat, k ≤ S.np ∧ i = .int .i64 k ∧ Hid (∀ j, j < k → (!okPl S.J (S.sz j) (S.pts j)) = false) ∧ Hid (Below w.heap.size w wr)) (fun i _ => S.np - (intOf i).toNat)
  case atStart => exact ⟨0, Nat.zero_le _, rfl, fun j hj => absurd hj (Nat.not_lt_zero j), HB0⟩
  case round =>
    obtain ⟨k, hk, rfl, HK, HBr⟩ := hrel
    by_cases hkn : k < S.np
    · obtain ⟨g, off, rfl, hgN, hrr⟩ := HCL.out (by omega)
      have hgw : g < w.heap.size := by have := HN.out; omega
      have d0 := (HBr.out.cell (p := ⟨g, off + k * 2, none⟩) hgw).trans (hrr k hkn).1
      have d1 := (HBr.out.cell (p := ⟨g, off + k * 2 + 1, none⟩) hgw).trans (hrr k hkn).2
      have HLI := Lib.hid ((HRW.out k hkn).2.go HN.out HBr.out)
      have HJr := Lib.hid ((HBr.out.cell (p := ⟨b, 0, none⟩) hb).trans HJ.out)
      have HNr := Lib.hid (Nat.le_trans HN.out HBr.out.size)
      have hbr := Nat.lt_of_lt_of_le hb HBr.out.size
      clear hrr
      cases hp : (!okPl S.J (S.sz k) (S.pts k)) with
      | true =>
        have HP := Lib.hid hp
        clear hp
        go_wp2_with (go_at_call 102; refine (kwrongPlate_any N _ (S.sz k) S.J (S.pts k) b _ HLI.out HNr.out hbr HJr.out).mono ?_; rw [HP.out]; rintro e w1 ⟨rfl, hb1⟩; have HB1 := Lib.hid (bel HBr.out hb1); clear hb1)
        go_ret
        exact ⟨ret_int (firstI_spec S.np _ hkn HP.out HK.out).symm, HB1.out⟩
      | false =>
        have HP := Lib.hid hp
        clear hp
        go_wp2_with (go_at_call 102; refine (kwrongPlate_any N _ (S.sz k) S.J (S.pts k) b _ HLI.out HNr.out hbr HJr.out).mono ?_; rw [HP.out]; rintro e w1 ⟨rfl, hb1⟩; have HB1 := Lib.hid (bel HBr.out hb1); clear hb1)
        go_roundw
        case rel => exact ⟨k + 1, by omega, by go_num, lt_succ HK.out HP.out, HB1.out⟩
        case measure => simp [intOf]; omega
    · go_wp2
      go_ret
      exact ⟨ret_int (firstI_none S.np _ fun j h => HK.out j (by omega)).symm, HBr.out⟩

theorem notall_any (n : Nat) (p : Nat → Bool) : (anyB n fun i => !p i) = !allB n p := by
  rw [Bool.eq_iff_iff, anyB_true]
  simp only [Bool.not_eq_true', allB_false]
set_option maxHeartbeats 400000 in
theorem kcontPl_any (N : Nat) (v : Value) (S : JB) (b : Nat) (w : World) (h : PlatesAt N w v S) (hN : N ≤ w.heap.size) (hb : b < w.heap.size) (hJ : w.cell? ⟨b, 0, none⟩ = some (.int .i64 S.J)) :
    Calls Try.prog 104 #[v, .func (.func 102) #[] #[.pointer (some ⟨b, 0, none⟩)]] w fun e w' => e = .returned (.bool (!allB S.np fun i => okPl S.J (S.sz i) (S.pts i))) ∧ Below w.heap.size w w' := by
  obtain ⟨ao, c, rfl, hlen, _⟩ := id h
  have H := Lib.hid h
  have HN := Lib.hid hN
  have HJ := Lib.hid hJ
  have HF : Hid (decide (0 ≤ firstI S.np fun i => !okPl S.J (S.sz i) (S.pts i)) = !allB S.np fun i => okPl S.J (S.sz i) (S.pts i)) := (firstI_any _ _).trans (notall_any _ _)
  clear h hN hJ
  go_enter Try.func104, Try.ntmps104
  go_wp2_with (go_at_call 112; refine (kindexPl_any N _ S b _ H.out HN.out hb HJ.out).mono ?_; rintro e w1 ⟨rfl, hb1⟩)
  go_ret
  exact ⟨ret_bool HF.out, hb1⟩

set_option maxHeartbeats 1600000 in
set_option maxRecDepth 100000 in
theorem kvalidShow_any (N : Nat) (v : Value) (S : JB) (w : World) (h : ShowAt N w v S) :
    Calls Try.prog 90 #[v] w fun e w' => e = .returned (.bool (okS S)) ∧ Below w.heap.size w w' := by
  obtain ⟨a1, c1, rfl⟩ := h.form
  obtain ⟨ws, hws, HB, hsz, hblk⟩ := box1 w (.cells #[.int .i64 S.J, .int .i64 S.D, .int .i64 S.Z, .slice a1 S.np c1] 24)
  have q0 := cell_blk hblk 0 rfl
  have q1 := cell_blk hblk 1 rfl
  have q2 := cell_blk hblk 2 rfl
  have q3 := cell_blk hblk 3 rfl
  have HNZ : Hid (N ≤ w.heap.size) := h.1
  have HBK := Lib.hid (h.go HB.out)
  have HB0 : Hid (Below ws.heap.size ws ws) := Below.refl _ _
  have HNS : Hid (N ≤ ws.heap.size) := HBK.out.1
  have hlen := h.len
  clear hblk h
  have HPL := Lib.hid (HBK.out.plates)
  cases h1 : (decide (1 ≤ S.J) && decide (S.J ≤ 5)) with
  | false =>
    have H1 := Lib.hid h1
    have HE : Hid (okS S = false) := okS_no (by unfold okN; rw [h1]; rfl)
    clear h1
    go_enter Try.func90, Try.ntmps90
    go_wp2_with (go_at_call 101; refine (kbetween_any _ _ _ _ _ H1.out).mono ?_; rintro e w' ⟨rfl, hw'⟩; rw [hw']; clear hw')
    go_ret
    exact ⟨ret_bool HE.out.symm, HB.out⟩
  | true =>
  have H1 := Lib.hid h1
  have hJ : 1 ≤ S.J ∧ S.J ≤ 5 := by simpa using h1
  obtain ⟨hJ1, hJ5⟩ := hJ
  obtain ⟨hd, hhd⟩ : ∃ x, (S.J - 1) / 2 = x := ⟨_, rfl⟩
  have hwJ : IntKind.i64.wrap (S.J - 1) = S.J - 1 := IntWalk.i64_in _ (by omega)
  have htd : (S.J - 1).tdiv 2 = hd := by rw [← hhd]; exact Int.tdiv_eq_ediv_of_nonneg (by omega)
  cases h2 : (decide (0 ≤ S.D) && decide (S.D ≤ hd)) with
  | false =>
    have H2 := Lib.hid h2
    have HE : Hid (okS S = false) := okS_no (by
      have : (decide (0 ≤ S.D) && decide (2 * S.D < S.J)) = false := by
        simp only [Bool.and_eq_false_iff, decide_eq_false_iff_not] at h2 ⊢
        omega
      unfold okN; rw [h1, this]; rfl)
    clear h1 h2
    go_enter Try.func90, Try.ntmps90
    go_wp2_with (first
      | (go_at_call 101; have hx := H1; clear H1; refine (kbetween_any _ _ _ _ _ hx.out).mono ?_; clear hx; rintro e w' ⟨rfl, hw'⟩; rw [hw']; clear hw')
      | (go_at_call 101; refine (kbetween_any _ _ _ _ _ H2.out).mono ?_; rintro e w' ⟨rfl, hw'⟩; rw [hw']; clear hw'))
    go_ret
    exact ⟨ret_bool HE.out.symm, HB.out⟩
  | true =>
  have H2 := Lib.hid h2
  have h2' : (decide (0 ≤ S.D) && decide (2 * S.D < S.J)) = true := by
    simp only [Bool.and_eq_true, decide_eq_true_eq] at h2 ⊢
    omega
  cases h4 : (decide (0 ≤ S.Z) && decide (S.Z ≤ 6)) with
  | false =>
    have H4 := Lib.hid h4
    have HE : Hid (okS S = false) := okS_no (by
      unfold okN; rw [h1, h4, Bool.false_and, Bool.and_false, Bool.and_false])
    clear h1 h2 h2' h4
    go_enter Try.func90, Try.ntmps90
    go_wp2_with (first
      | (go_at_call 101; have hx := H1; clear H1; refine (kbetween_any _ _ _ _ _ hx.out).mono ?_; clear hx; rintro e w' ⟨rfl, hw'⟩; rw [hw']; clear hw')
      | (go_at_call 101; have hx := H2; clear H2; refine (kbetween_any _ _ _ _ _ hx.out).mono ?_; clear hx; rintro e w' ⟨rfl, hw'⟩; rw [hw']; clear hw')
      | (go_at_call 101; refine (kbetween_any _ _ _ _ _ H4.out).mono ?_; rintro e w' ⟨rfl, hw'⟩; rw [hw']; clear hw'))
    go_ret
    exact ⟨ret_bool HE.out.symm, HB.out⟩
  | true =>
  have H4 := Lib.hid h4
  by_cases h5 : S.np ≤ 6
  · have h5i : (S.np : Int) ≤ 6 := by omega
    have HE : Hid (okS S = allB S.np fun i => okPl S.J (S.sz i) (S.pts i)) := by
      unfold Hid okS okN; rw [h1, h4, h2', decide_eq_true h5]; rfl
    clear h1 h2 h2' h4
    go_enter Try.func90, Try.ntmps90
    go_wp2_with (first
      | (go_at_call 101; have hx := H1; clear H1; refine (kbetween_any _ _ _ _ _ hx.out).mono ?_; clear hx; rintro e w' ⟨rfl, hw'⟩; rw [hw']; clear hw')
      | (go_at_call 101; have hx := H2; clear H2; refine (kbetween_any _ _ _ _ _ hx.out).mono ?_; clear hx; rintro e w' ⟨rfl, hw'⟩; rw [hw']; clear hw')
      | (go_at_call 101; refine (kbetween_any _ _ _ _ _ H4.out).mono ?_; rintro e w' ⟨rfl, hw'⟩; rw [hw']; clear hw')
      | (go_at_call 104; refine (kcontPl_any N _ S _ _ HPL.out HNS.out hsz q0).mono ?_; rintro e w1 ⟨rfl, hb1⟩; have HB1 := Lib.hid (bel HB0.out hb1); clear hb1))
    go_ret
    exact ⟨ret_bool (by first | (rw [HE.out]; done) | (rw [HE.out]; simp)), fin HB.out HB1.out⟩
  · have h5i : ¬ (S.np : Int) ≤ 6 := by omega
    have HE : Hid (okS S = false) := okS_no (by
      unfold okN; rw [decide_eq_false h5, Bool.and_false, Bool.and_false, Bool.and_false])
    clear h1 h2 h2' h4
    go_enter Try.func90, Try.ntmps90
    go_wp2_with (first
      | (go_at_call 101; have hx := H1; clear H1; refine (kbetween_any _ _ _ _ _ hx.out).mono ?_; clear hx; rintro e w' ⟨rfl, hw'⟩; rw [hw']; clear hw')
      | (go_at_call 101; have hx := H2; clear H2; refine (kbetween_any _ _ _ _ _ hx.out).mono ?_; clear hx; rintro e w' ⟨rfl, hw'⟩; rw [hw']; clear hw')
      | (go_at_call 101; refine (kbetween_any _ _ _ _ _ H4.out).mono ?_; rintro e w' ⟨rfl, hw'⟩; rw [hw']; clear hw'))
    go_ret
    exact ⟨ret_bool HE.out.symm, HB.out⟩

end Go.Proofs.Ytffnlimgjnhmpaa
