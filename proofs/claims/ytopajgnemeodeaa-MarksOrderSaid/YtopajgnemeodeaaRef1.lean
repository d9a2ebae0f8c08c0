/-
  Ref1: contracts of the functions that its theorems name.
-/
import Derived.Test.YtopajgnemeodeaaValid
namespace Go.Proofs.Ytopajgnemeodeaa
open Go.RowKit

theorem within_eq (a b c : Int) (r : Bool) (w : World) (h : (decide (b ≤ a) && decide (a ≤ c)) = r) :
    Calls Try.prog 86 #[.int .i64 a, .int .i64 b, .int .i64 c] w fun e w' => e = .returned (.bool r) ∧ w' = w := by
  subst h; exact within_any a b c w

def risesAt (c : Nat → Int) (lo hi : Int) (i : Nat) : Bool := decide (lo ≤ c i) && decide (c i ≤ hi) && (decide (i = 0) || decide (c (i - 1) < c i))
def rises (n : Nat) (c : Nat → Int) (lo hi : Int) : Bool := allB n (risesAt c lo hi)

/-- only draws -/
def Drawn (w w' : World) : Prop := ∃ q, w' = w.drewN q
theorem Drawn.refl (w : World) : Drawn w w := ⟨0, rfl⟩
theorem Drawn.more {w w' : World} (h : Drawn w w') (n : Nat) : Drawn w (w'.drewN n) := by
  obtain ⟨q, rfl⟩ := h; exact ⟨_, World.drewN_drewN _ _ _⟩
theorem Drawn.cell {w w' : World} (h : Drawn w w') {a : Addr} {o : Option Value} (hc : w.cell? a = o) : w'.cell? a = o := by
  obtain ⟨q, rfl⟩ := h; exact hc
theorem Drawn.below {w w' : World} (h : Drawn w w') (N : Nat) : Below N w w' := by
  obtain ⟨q, rfl⟩ := h; exact below_drewN (Below.refl _ _) q

set_option maxHeartbeats 1000000 in
theorem rising_any (N : Nat) (v : Value) (n : Nat) (c : Nat → Int) (lo hi : Int) (w : World) (h : IntsAt N w v n c) :
    Calls Try.prog 59 #[v, .int .i64 lo, .int .i64 hi] w fun e w' => e = .returned (.bool (rises n c lo hi)) ∧ Drawn w w' := by
  obtain ⟨ao, cap, rfl, hn, hc⟩ := h
  go_enter Try.func59, Try.ntmps59
  go_wp2
  go_loopw [7] (fun i wr => ∃ k : Nat, k ≤ n ∧ i = .int .i64 k ∧ Hid (∀ j, j < k → risesAt c lo hi j = true) ∧ Drawn w wr) (fun i _ => n - (intOf i).toNat)
  case atStart => exact ⟨0, Nat.zero_le _, rfl, fun j hj => absurd hj (Nat.not_lt_zero j), Drawn.refl _⟩
  case round =>
    obtain ⟨k, hk, rfl, hj, hq⟩ := hrel
    by_cases hkn : k < n
    · obtain ⟨b, off, rfl, _, hr⟩ := hc (by omega)
      obtain ⟨r, hcell, rfl⟩ := hr k hkn
      replace hcell := hq.cell hcell
      have hcellp : 0 < k → wr.cell? ⟨b, off + (k - 1), none⟩ = some (.int .i64 (c (k - 1))) := fun h0 => by
        obtain ⟨r', hc', rfl⟩ := hr (k - 1) (by omega); exact hq.cell hc'
      clear hr hc
      have HQ : Hid (Drawn w wr) := hq
      clear hq
      cases hfb : (decide (lo ≤ c k) && decide (c k ≤ hi)) with
      | false =>
        have HFB : Hid _ := Lib.hid hfb
        clear hfb hcellp
        go_wp2
        go_quiet ((go_at_call 86; exact Calls.quiet_of_same (within_eq _ _ _ _ _ HFB.out)))
        go_wp2
        go_ret
        exact ⟨ret_bool (by unfold rises; rw [allB_succ_false hkn (by unfold risesAt; rw [HFB.out, Bool.false_and])]), HQ.out.more _⟩
      | true =>
        have HFB : Hid _ := Lib.hid hfb
        clear hfb
        by_cases h0 : 0 < k
        · have hp := hcellp h0
          clear hcellp
          have h0i : (0 : Int) < (k : Int) := by omega
          have e1 : IntKind.i64.wrap ((k : Int) - 1) = (k : Int) - 1 := IntWalk.i64_in _ (by omega)
          have e2 : (0 : Int) ≤ (k : Int) - 1 := by omega
          have e2' : (1 : Int) ≤ (k : Int) := by omega
          have e3 : ((k : Int) - 1).toNat = k - 1 := by omega
          have e4 : (k : Int) - 1 < (n : Int) := by omega
          by_cases hxy : c k ≤ c (k - 1)
          · have H : Hid (c k ≤ c (k - 1)) := hxy
            go_wp2
            go_quiet ((go_at_call 86; exact Calls.quiet_of_same (within_eq _ _ _ _ _ HFB.out)))
            go_wp2
            go_ret
            exact ⟨ret_bool (by unfold rises; rw [allB_succ_false hkn (by unfold risesAt; have q : ¬ c (k - 1) < c k := (by have := H.out; omega); have q0 : ¬ k = 0 := (by omega); simp [q, q0])]), HQ.out.more _⟩
          · have hxy' : c (k - 1) < c k := by omega
            have H : Hid (c (k - 1) < c k) := hxy'
            go_wp2
            go_quiet ((go_at_call 86; exact Calls.quiet_of_same (within_eq _ _ _ _ _ HFB.out)))
            clear e1 e2 e3 e4
            go_wp2
            go_roundw
            case rel => exact ⟨k + 1, by omega, by go_num, lt_succ hj.out (by unfold risesAt; rw [HFB.out]; simp [H.out]), HQ.out.more _⟩
            case measure => simp [intOf]; omega
        · obtain rfl : k = 0 := by omega
          have hcell0 : wr.cell? ⟨b, off, none⟩ = some (.int .i64 (c 0)) := by simpa using hcell
          clear h0 hcellp hcell
          go_wp2
          go_quiet ((go_at_call 86; exact Calls.quiet_of_same (within_eq _ _ _ _ _ HFB.out)))
          go_wp2
          go_roundw
          case rel => exact ⟨1, by omega, by go_num, lt_succ hj.out (by unfold risesAt; rw [HFB.out]; simp), HQ.out.more _⟩
          case measure => simp [intOf]; omega
    · have Hk : Hid (k = n) := by show k = n; omega
      go_wp2
      go_ret
      exact ⟨ret_bool (by unfold rises; rw [allB_true.2 (fun i hi => hj.out i (by rw [Hk.out]; exact hi))]), hq⟩

theorem okCan_rises (n : Nat) (c : Nat → Int) (hi : Int) : okCan n c hi = (decide (0 < n) && rises n c 0 (hi - 1)) := by
  unfold okCan rises
  have : ∀ i, (decide (0 ≤ c i) && decide (c i < hi) && (decide (i = 0) || decide (c (i - 1) < c i))) = risesAt c 0 (hi - 1) i := fun i => by
    unfold risesAt
    have : decide (c i < hi) = decide (c i ≤ hi - 1) := by simp; omega
    rw [this]
  congr 2
  exact funext this

end Go.Proofs.Ytopajgnemeodeaa

namespace Go.Proofs.Ytopajgnemeodeaa
open Go.RowKit

def chkB (B : Bk) : Int := if okBook B then 0 else 10

theorem bad_marks {B : Bk} (h : okMarks B = false) : okBook B = false := by simp [okBook, h]
theorem bad_sorts {B : Bk} (h : okSorts B = false) : okBook B = false := by simp [okBook, h]

set_option maxHeartbeats 2000000 in
theorem checkBook_any (N : Nat) (v : Value) (B : Bk) (w : World) (h : BookAt N w v B) :
    Calls Try.prog 64 #[v] w fun e w' => e = .returned (.int .i64 (chkB B)) ∧ Below w.heap.size w w' := by
  obtain ⟨hN, a1, c1, a2, c2, a3, c3, rfl, h1, h2, h3⟩ := h
  have hnv := h1.len
  have hnf := h2.len
  have hns := h3.len
  have HB : Hid (Below w.heap.size w (w.alloc (.cells #[.slice a1 B.nv c1, .slice a2 B.nf c2, .slice a3 B.ns c3, .int .i64 B.wr] 25))) := below_alloc (Nat.le_refl _) _
  have H1 : Hid _ := Lib.hid h1
  have H2 : Hid _ := Lib.hid h2
  have H3 : Hid _ := Lib.hid h3
  clear h1 h2 h3
  by_cases h6 : B.nv ≤ 6
  case neg =>
    have h6' : 6 < (B.nv : Int) := by omega
    have G : Hid (okBook B = false) := bad_marks (by simp [okMarks, h6])
    clear h6
    go_enter Try.func64, Try.ntmps64
    go_wp2
    go_ret
    exact ⟨ret_int (by simp [chkB, G.out]), HB.out⟩
  have h6' : (B.nv : Int) ≤ 6 := by omega
  by_cases hfv : B.nf = B.nv
  case neg =>
    have hE : ((B.nf : Int) != (B.nv : Int)) = true := by simp; omega
    have G : Hid (okBook B = false) := bad_marks (by simp [okMarks, hfv])
    clear h6 hfv
    go_enter Try.func64, Try.ntmps64
    go_wp2
    go_ret
    exact ⟨ret_int (by simp [chkB, G.out]), HB.out⟩
  have hE : ((B.nf : Int) != (B.nv : Int)) = false := by simp; omega
  by_cases h8 : B.ns ≤ 8
  case neg =>
    have h8' : 8 < (B.ns : Int) := by omega
    have G : Hid (okBook B = false) := bad_sorts (by simp [okSorts, h8])
    clear h6 hfv h8
    go_enter Try.func64, Try.ntmps64
    go_wp2
    go_ret
    exact ⟨ret_int (by simp [chkB, G.out]), HB.out⟩
  have h8' : (B.ns : Int) ≤ 8 := by omega
  have H6 : Hid (B.nv ≤ 6) := h6
  have HF : Hid (B.nf = B.nv) := hfv
  have H8 : Hid (B.ns ≤ 8) := h8
  clear h6 hfv h8
  cases hwr : (decide (0 ≤ B.wr) && decide (B.wr ≤ 9)) with
  | false =>
    have HWR : Hid _ := Lib.hid hwr
    have G : Hid (okBook B = false) := by unfold Hid okBook; rw [Bool.and_assoc, hwr, Bool.and_false]
    clear hwr
    go_enter Try.func64, Try.ntmps64
    go_wp2_with (go_at_call 86; refine (within_eq _ _ _ _ _ HWR.out).mono ?_; rintro e w' ⟨rfl, rfl⟩)
    go_ret
    exact ⟨ret_int (by simp [chkB, G.out]), HB.out⟩
  | true =>
    have HWR : Hid _ := Lib.hid hwr
    clear hwr
    go_enter Try.func64, Try.ntmps64
    go_wp2_with (go_at_call 86; refine (within_eq _ _ _ _ _ HWR.out).mono ?_; rintro e w' ⟨rfl, rfl⟩)
    go_loopw [3] (fun i wr => ∃ k : Nat, k ≤ B.nv ∧ i = .int .i64 k ∧ Hid (∀ j, j < k → (decide (1 ≤ B.V j) && decide (B.V j ≤ 5) && (decide (0 ≤ B.F j) && decide (B.F j < 2))) = true) ∧ Hid (Drawn (w.alloc (.cells #[.slice a1 B.nv c1, .slice a2 B.nf c2, .slice a3 B.ns c3, .int .i64 B.wr] 25)) wr)) (fun i _ => B.nv - (intOf i).toNat)
    case atStart => exact ⟨0, Nat.zero_le _, rfl, fun j hj => absurd hj (Nat.not_lt_zero j), Drawn.refl _⟩
    case round =>
      obtain ⟨k, hk, rfl, hj, hq⟩ := hrel
      have ch := hq.out.below (w.heap.size + 1)
      have q0 := box_cell ch 0 rfl
      have q1 := box_cell ch 1 rfl
      have q2 := box_cell ch 2 rfl
      have HWw : Hid (Below w.heap.size w wr) := Lib.hid (below_of ch)
      clear ch
      by_cases hkn : k < B.nv
      · have hkf : (k : Int) < (B.nf : Int) := by have := HF.out; omega
        obtain ⟨_, _, e1, _, hc1⟩ := H1.out.mono (HWw.out.mono hN) (Nat.le_refl _)
        cases e1
        obtain ⟨b1, off1, rfl, hb1, hr1⟩ := hc1 (by omega)
        obtain ⟨r1, hcell1, rfl⟩ := hr1 k hkn
        obtain ⟨_, _, e2, _, hc2⟩ := H2.out.mono (HWw.out.mono hN) (Nat.le_refl _)
        cases e2
        obtain ⟨b2, off2, rfl, hb2, hr2⟩ := hc2 (by omega)
        obtain ⟨r2, hcell2, rfl⟩ := hr2 k (by omega)
        clear hc1 hr1 hc2 hr2
        cases hv : (decide (1 ≤ B.V k) && decide (B.V k ≤ 5)) with
        | false =>
          have HV : Hid _ := Lib.hid hv
          have G : Hid (okBook B = false) := bad_marks (by unfold okMarks; rw [allB_succ_false hkn (by rw [hv]; rfl), Bool.and_false])
          clear hv
          go_wp2_with (go_at_call 86; refine (within_eq _ _ _ _ _ HV.out).mono ?_; rintro e w' ⟨rfl, rfl⟩)
          go_ret
          exact ⟨ret_int (by simp [chkB, G.out]), HWw.out⟩
        | true =>
          have HV : Hid _ := Lib.hid hv
          clear hv
          cases hf : (decide (0 ≤ B.F k) && decide (B.F k ≤ 1)) with
          | false =>
            have HF2 : Hid _ := Lib.hid hf
            have G : Hid (okBook B = false) := bad_marks (by
              unfold okMarks
              rw [allB_succ_false hkn (by
                have : (decide (0 ≤ B.F k) && decide (B.F k < 2)) = false := by
                  rw [← hf]; congr 1; simp; omega
                rw [this, Bool.and_false]), Bool.and_false])
            clear hf
            go_wp2_with (go_at_call 86; refine (within_any _ _ _ _).mono ?_; rintro e w' ⟨rfl, rfl⟩; first | rw [HV.out] | rw [HF2.out])
            go_ret
            exact ⟨ret_int (by simp [chkB, G.out]), HWw.out⟩
          | true =>
            have HF2 : Hid _ := Lib.hid hf
            have G : Hid ((decide (1 ≤ B.V k) && decide (B.V k ≤ 5) && (decide (0 ≤ B.F k) && decide (B.F k < 2))) = true) := by
              unfold Hid
              have : (decide (0 ≤ B.F k) && decide (B.F k < 2)) = true := by
                rw [← hf]; congr 1; simp; omega
              rw [HV.out, this]; rfl
            clear hf
            go_wp2_with (go_at_call 86; refine (within_any _ _ _ _).mono ?_; rintro e w' ⟨rfl, rfl⟩; first | rw [HV.out] | rw [HF2.out])
            go_roundw
            case rel => exact ⟨k + 1, by omega, by go_num, lt_succ hj.out G.out, hq⟩
            case measure => simp [intOf]; omega
      · have HM : Hid (okMarks B = true) := by
          unfold Hid okMarks; rw [allB_true.2 (fun i hi => hj.out i (by omega))]; simp [HF.out, H6.out]
        clear hj
        have HQ1 : Hid (Drawn (w.alloc (.cells #[.slice a1 B.nv c1, .slice a2 B.nf c2, .slice a3 B.ns c3, .int .i64 B.wr] 25)) wr) := hq
        clear hq
        go_wp2
        obtain ⟨wq, rfl⟩ : ∃ wq : World, wq = wr := ⟨_, rfl⟩
        clear q0 q1 q2
        go_loopw [4] (fun i wr => ∃ k : Nat, k ≤ B.ns ∧ i = .int .i64 k ∧ Hid (∀ j, j < k → okSort B j = true) ∧ Hid (Drawn (w.alloc (.cells #[.slice a1 B.nv c1, .slice a2 B.nf c2, .slice a3 B.ns c3, .int .i64 B.wr] 25)) wr)) (fun i _ => B.ns - (intOf i).toNat)
        case atStart => exact ⟨0, Nat.zero_le _, rfl, fun j hj => absurd hj (Nat.not_lt_zero j), HQ1⟩
        case round =>
          clear HWw HQ1
          obtain ⟨k, hk, rfl, hj, hq⟩ := hrel
          have ch := hq.out.below (w.heap.size + 1)
          have q0 := box_cell ch 0 rfl
          have q2 := box_cell ch 2 rfl
          have HWw : Hid (Below w.heap.size w wr) := Lib.hid (below_of ch)
          clear ch
          by_cases hkn : k < B.ns
          · obtain ⟨_, _, e3, _, hc3⟩ := H3.out.mono (HWw.out.mono hN) (Nat.le_refl _)
            cases e3
            obtain ⟨b3, off3, rfl, hb3, hr3⟩ := hc3 (by omega)
            obtain ⟨r3, hcell3, ao, cap, rfl, hnc, hcr⟩ := hr3 k hkn
            clear hc3 hr3
            by_cases hc : B.nc k = B.nv
            · have hE2 : ((B.nc k : Int) != (B.nv : Int)) = false := by simp; omega
              have HC : Hid (B.nc k = B.nv) := hc
              clear hc
              go_wp2
              obtain ⟨wp, rfl⟩ : ∃ wp : World, wp = wr := ⟨_, rfl⟩
              have HQ2 : Hid (Drawn (w.alloc (.cells #[.slice a1 B.nv c1, .slice a2 B.nf c2, .slice (some ⟨b3, off3, none⟩) B.ns c3, .int .i64 B.wr] 25)) wp) := hq
              have Hj2 : Hid (∀ j, j < k → okSort B j = true) := hj
              clear q0 q2 hcell3 hq hj
              go_loopw [6] (fun i wr => ∃ m : Nat, m ≤ B.nc k ∧ i = .int .i64 m ∧ Hid (∀ j, j < m → okCan (B.ncc k j) (B.can k j) (B.V j) = true) ∧ Hid (Drawn wp wr)) (fun i _ => B.nc k - (intOf i).toNat)
              case atStart => exact ⟨0, Nat.zero_le _, rfl, fun j hj => absurd hj (Nat.not_lt_zero j), Drawn.refl _⟩
              case round =>
                obtain ⟨m, hm, rfl, hj, hq⟩ := hrel
                have HD : Hid (Drawn (w.alloc (.cells #[.slice a1 B.nv c1, .slice a2 B.nf c2, .slice (some ⟨b3, off3, none⟩) B.ns c3, .int .i64 B.wr] 25)) wr) := by
                  obtain ⟨q, rfl⟩ := hq.out; exact HQ2.out.more q
                have ch := HD.out.below (w.heap.size + 1)
                have q0 := box_cell ch 0 rfl
                have HW2 : Hid (Below w.heap.size w wr) := Lib.hid (below_of ch)
                clear ch
                by_cases hmn : m < B.nc k
                · obtain ⟨b4, off4, rfl, hb4, hr4⟩ := hcr (by omega)
                  obtain ⟨r4, hcell4, hints⟩ := hr4 m hmn
                  replace hcell4 := hq.out.cell hcell4
                  have hints2 := hints.mono (hq.out.below N) (Nat.le_refl _)
                  obtain ⟨_, _, e1, _, hc1⟩ := H1.out.mono (HW2.out.mono hN) (Nat.le_refl _)
                  cases e1
                  obtain ⟨b1, off1, rfl, hb1, hr1⟩ := hc1 (by have := HC.out; omega)
                  obtain ⟨r1, hcell1, rfl⟩ := hr1 m (by have := HC.out; omega)
                  have hmv : (m : Int) < (B.nv : Int) := by have := HC.out; omega
                  have hV := allB_true.1 (Bool.and_eq_true_iff.1 HM.out).2 m (by have := HC.out; omega)
                  simp only [Bool.and_eq_true, decide_eq_true_eq] at hV
                  have hV1 := hV.1.1
                  have hV2 := hV.1.2
                  have e1 : IntKind.i64.wrap (B.V m - 1) = B.V m - 1 := IntWalk.i64_in _ (by omega)
                  clear hV hr4 hcr hc1 hr1
                  obtain ⟨ao5, cap5, rfl, hn5, hc5⟩ := hints2
                  have HI : Hid (IntsAt N wr (.slice ao5 (B.ncc k m) cap5) (B.ncc k m) (B.can k m)) := ⟨ao5, cap5, rfl, hn5, hc5⟩
                  clear hc5 hints
                  by_cases h00 : B.ncc k m = 0
                  · have hz : ((B.ncc k m : Int) == 0) = true := by simp; omega
                    have G : Hid (okBook B = false) := bad_sorts (by
                      unfold okSorts; rw [allB_succ_false (k := k) hkn (by unfold okSort; rw [allB_succ_false hmn (by simp [okCan, h00]), Bool.and_false]), Bool.and_false])
                    clear h00
                    go_wp2
                    go_quiet (fail)
                    go_wp2
                    go_ret
                    exact ⟨ret_int (by simp [chkB, G.out]), below_drewN HW2.out _⟩
                  · have hz : ((B.ncc k m : Int) == 0) = false := by simp; omega
                    have Hpos : Hid (0 < B.ncc k m) := by unfold Hid; omega
                    clear h00
                    have HR : Hid (∀ q : Nat, Calls Try.prog 59 #[.slice ao5 (B.ncc k m) cap5, .int .i64 0, .int .i64 (B.V m - 1)] (wr.drewN q) fun e w' => e = .returned (.bool (rises (B.ncc k m) (B.can k m) 0 (B.V m - 1))) ∧ ∃ m, w' = (wr.drewN q).drewN m) := fun q => rising_any N _ _ _ _ _ _ (HI.out.mono (below_drewN (Below.refl _ _) q) (Nat.le_refl _))
                    cases hR : rises (B.ncc k m) (B.can k m) 0 (B.V m - 1) with
                    | false =>
                      have G : Hid (okBook B = false) := bad_sorts (by
                        unfold okSorts; rw [allB_succ_false (k := k) hkn (by unfold okSort; rw [allB_succ_false hmn (by rw [okCan_rises, hR, Bool.and_false]), Bool.and_false]), Bool.and_false])
                      rw [hR] at HR
                      clear hR
                      go_wp2
                      go_quiet ((go_at_call 59; exact Calls.quiet_of (HR.out _)))
                      go_wp2
                      go_ret
                      exact ⟨ret_int (by simp [chkB, G.out]), below_drewN HW2.out _⟩
                    | true =>
                      have G : Hid (okCan (B.ncc k m) (B.can k m) (B.V m) = true) := by
                        unfold Hid; rw [okCan_rises, hR]; simp [Hpos.out]
                      rw [hR] at HR
                      clear hR
                      go_wp2
                      go_quiet ((go_at_call 59; exact Calls.quiet_of (HR.out _)))
                      go_wp2
                      go_roundw
                      case rel => exact ⟨m + 1, by omega, by go_num, lt_succ hj.out G.out, hq.out.more _⟩
                      case measure => simp [intOf]; omega
                · have Hm : Hid (m = B.nc k) := by show m = _; omega
                  clear q0
                  go_wp2
                  go_roundw
                  case rel => exact ⟨k + 1, by omega, by go_num, lt_succ Hj2.out (by unfold okSort; rw [allB_true.2 (fun i hi => hj.out i (by rw [Hm.out]; exact hi))]; simp [HC.out]), HD⟩
                  case measure => simp [intOf]; omega
            · have hE2 : ((B.nc k : Int) != (B.nv : Int)) = true := by simp; omega
              have G : Hid (okBook B = false) := bad_sorts (by unfold okSorts; rw [allB_succ_false (k := k) hkn (by unfold okSort; simp [hc]), Bool.and_false])
              clear hc
              go_wp2
              go_ret
              exact ⟨ret_int (by simp [chkB, G.out]), HWw.out⟩
          · have Hk : Hid (k = B.ns) := by show k = _; omega
            have G : Hid (okBook B = true) := by
              unfold Hid okBook
              have hs : okSorts B = true := by unfold okSorts; rw [allB_true.2 (fun i hi => hj.out i (by rw [Hk.out]; exact hi))]; simp [H8.out]
              rw [HM.out, hs]; exact HWR.out
            go_wp2
            go_ret
            exact ⟨ret_int (by simp [chkB, G.out]), HWw.out⟩

end Go.Proofs.Ytopajgnemeodeaa

namespace Go.Proofs.Ytopajgnemeodeaa
open Go.RowKit

set_option maxHeartbeats 2000000 in
theorem areFruits_any (N : Nat) (v u : Value) (B : Bk) (R : Fr) (w : World) (h : BookAt N w v B) (hf : FruitsAt N w u R) (hV : ∀ i, i < B.nv → 1 ≤ B.V i ∧ B.V i ≤ 5) :
    Calls Try.prog 65 #[v, u] w fun e w' => e = .returned (.bool (okFruits B R)) ∧ Below w.heap.size w w' := by
  obtain ⟨hN, a1, c1, a2, c2, a3, c3, rfl, h1, h2, h3⟩ := h
  have hnv := h1.len
  have H1 : Hid _ := Lib.hid h1
  have HV : Hid _ := Lib.hid hV
  obtain ⟨af, cf, rfl, hnf, hcf⟩ := hf
  have HF : Hid _ := Lib.hid hcf
  clear h1 h2 h3 hcf hV
  go_enter Try.func65, Try.ntmps65
  go_wp2
  go_loopw [5] (fun i wr => ∃ k : Nat, k ≤ R.n ∧ i = .int .i64 k ∧ Hid (∀ j, j < k → okFruit B R j = true) ∧ Hid (Drawn (w.alloc (.cells #[.slice a1 B.nv c1, .slice a2 B.nf c2, .slice a3 B.ns c3, .int .i64 B.wr] 25)) wr)) (fun i _ => R.n - (intOf i).toNat)
  case atStart => exact ⟨0, Nat.zero_le _, rfl, fun j hj => absurd hj (Nat.not_lt_zero j), Drawn.refl _⟩
  case round =>
    obtain ⟨k, hk, rfl, hj, hq⟩ := hrel
    have ch := hq.out.below (w.heap.size + 1)
    have q0 := box_cell ch 0 rfl
    have HWw : Hid (Below w.heap.size w wr) := Lib.hid (below_of ch)
    clear ch
    by_cases hkn : k < R.n
    · obtain ⟨b3, off3, rfl, hb3, hr3⟩ := HF.out (by omega)
      obtain ⟨r3, hcell3, ao, cap, rfl, hL, hcr⟩ := hr3 k hkn
      replace hcell3 := (HWw.out.cell (p := ⟨b3, off3 + k, none⟩) (by show b3 < _; omega)).trans hcell3
      have HCR : Hid _ := Lib.hid hcr
      clear hr3 hcr
      by_cases hc : R.L k = B.nv
      case neg =>
        have hE : ((R.L k : Int) != (B.nv : Int)) = true := by simp; omega
        have G : Hid (okFruits B R = false) := by unfold Hid okFruits; rw [allB_succ_false (k := k) hkn (by unfold okFruit; simp [hc]), Bool.and_false]
        clear hc
        go_wp2
        go_quiet (fail)
        go_wp2
        go_ret
        exact ⟨ret_bool G.out.symm, below_drewN HWw.out _⟩
      have hE : ((R.L k : Int) != (B.nv : Int)) = false := by simp; omega
      have HC : Hid (R.L k = B.nv) := hc
      clear hc
      go_wp2
      go_quiet (fail)
      go_wp2
      obtain ⟨wp, HWP⟩ : ∃ wp : World, Hid (wp = wr.drewN nq) := ⟨_, rfl⟩
      have Hj2 : Hid (∀ j, j < k → okFruit B R j = true) := hj
      have HQ2 : Hid (Drawn (w.alloc (.cells #[.slice a1 B.nv c1, .slice a2 B.nf c2, .slice a3 B.ns c3, .int .i64 B.wr] 25)) wr) := hq
      obtain ⟨wo, rfl⟩ : ∃ wo : World, wo = wr := ⟨_, rfl⟩
      clear hj hq
      go_loopw [6] (fun i wr => ∃ m : Nat, m ≤ R.L k ∧ i = .int .i64 m ∧ Hid (∀ j, j < m → (decide (R.X k j = -1) || (decide (0 ≤ R.X k j) && decide (R.X k j < B.V j))) = true) ∧ Hid (Drawn wo wr)) (fun i _ => R.L k - (intOf i).toNat)
      case atStart => exact ⟨0, Nat.zero_le _, rfl, fun j hj => absurd hj (Nat.not_lt_zero j), (Drawn.refl _).more _⟩
      case round =>
        obtain ⟨m, hm, rfl, hj, hq⟩ := hrel
        replace hcell3 := hq.out.cell hcell3
        replace q0 := hq.out.cell q0
        have HW2 : Hid (Below w.heap.size w wr) := HWw.out.trans (hq.out.below _)
        by_cases hmn : m < R.L k
        · obtain ⟨b4, off4, rfl, hb4, hr4⟩ := HCR.out (by omega)
          obtain ⟨r4, hcell4, rfl⟩ := hr4 m hmn
          replace hcell4 := (HW2.out.cell (p := ⟨b4, off4 + m, none⟩) (by show b4 < _; omega)).trans hcell4
          obtain ⟨_, _, e1, _, hc1⟩ := H1.out.mono (HW2.out.mono hN) (Nat.le_refl _)
          cases e1
          obtain ⟨b1, off1, rfl, hb1, hr1⟩ := hc1 (by have := HC.out; omega)
          obtain ⟨r1, hcell1, rfl⟩ := hr1 m (by have := HC.out; omega)
          have hmv : (m : Int) < (B.nv : Int) := by have := HC.out; omega
          have hV1 := (HV.out m (by omega)).1
          have hV2 := (HV.out m (by omega)).2
          have e1 : IntKind.i64.wrap (B.V m - 1) = B.V m - 1 := IntWalk.i64_in _ (by omega)
          have heq : (decide (-1 ≤ R.X k m) && decide (R.X k m ≤ B.V m - 1)) = (decide (R.X k m = -1) || (decide (0 ≤ R.X k m) && decide (R.X k m < B.V m))) := by
            rw [Bool.eq_iff_iff]; simp; omega
          have HEQ : Hid _ := Lib.hid heq
          clear heq hr4 hc1 hr1
          cases hok : (decide (-1 ≤ R.X k m) && decide (R.X k m ≤ B.V m - 1)) with
          | true =>
            have HOK : Hid _ := Lib.hid hok
            clear hok
            go_wp2
            go_quiet ((go_at_call 86; exact Calls.quiet_of_same (within_eq _ _ _ _ _ HOK.out)))
            clear e1
            go_wp2
            go_roundw
            case rel => exact ⟨m + 1, by omega, by go_num, lt_succ hj.out (by rw [← HEQ.out, HOK.out]), hq.out.more _⟩
            case measure => simp [intOf]; omega
          | false =>
            have HOK : Hid _ := Lib.hid hok
            have G : Hid (okFruits B R = false) := by
              unfold Hid okFruits; rw [allB_succ_false (k := k) hkn (by unfold okFruit; rw [allB_succ_false hmn (by rw [← HEQ.out, HOK.out]), Bool.and_false]), Bool.and_false]
            clear hok
            go_wp2
            go_quiet ((go_at_call 86; exact Calls.quiet_of_same (within_eq _ _ _ _ _ HOK.out)))
            go_wp2
            go_ret
            exact ⟨ret_bool G.out.symm, below_drewN HW2.out _⟩
        · have Hm : Hid (m = R.L k) := by show m = _; omega
          go_wp2
          go_roundw
          case rel => exact ⟨k + 1, by omega, by go_num, lt_succ Hj2.out (by unfold okFruit; rw [allB_true.2 (fun i hi => hj.out i (by rw [Hm.out]; exact hi))]; simp [HC.out]), by obtain ⟨q, rfl⟩ := hq.out; exact HQ2.out.more q⟩
          case measure => simp [intOf]; omega
    · have G : Hid (decide (R.n ≤ 5) = okFruits B R) := by
        unfold Hid okFruits; rw [allB_true.2 (fun i hi => hj.out i (by omega)), Bool.and_true]
      go_wp2
      go_ret
      exact ⟨ret_bool (by rw [← G.out, Bool.eq_iff_iff]; simp only [decide_eq_true_eq]; omega), HWw.out⟩

theorem okMarks_V {B : Bk} (h : okMarks B = true) : ∀ i, i < B.nv → 1 ≤ B.V i ∧ B.V i ≤ 5 := fun i hi => by
  have hV := allB_true.1 (Bool.and_eq_true_iff.1 h).2 i hi
  simp only [Bool.and_eq_true, decide_eq_true_eq] at hV
  exact hV.1
theorem okBook_marks {B : Bk} (h : okBook B = true) : okMarks B = true := by
  simp only [okBook, Bool.and_eq_true] at h; exact h.1.1.1

set_option maxHeartbeats 800000 in
theorem rCheck_any (N : Nat) (v u : Value) (B : Bk) (R : Fr) (w : World) (h : BookAt N w v B) (hf : FruitsAt N w u R) :
    Calls Try.prog 19 #[v, u] w fun e w' => e = .returned (.int .i64 (chk B R)) ∧ Below w.heap.size w w' := by
  have H : Hid (BookAt N w v B) := h
  have HF : Hid (FruitsAt N w u R) := hf
  obtain ⟨hN, a1, c1, a2, c2, a3, c3, rfl, h1, h2, h3⟩ := h
  clear h1 h2 h3 hf
  cases hm : okBook B with
  | true =>
    have HM : Hid (okBook B = true) := Lib.hid hm
    have HC : Hid (chkB B = 0) := by unfold Hid; simp [chkB, hm]
    clear hm
    cases hs : okFruits B R with
    | true =>
      have HS : Hid (okFruits B R = true) := Lib.hid hs
      clear hs
      go_enter Try.func19, Try.ntmps19
      go_wp2_with (first
        | (go_at_call 64; refine (checkBook_any N _ B _ (H.out.in_alloc _)).mono ?_; rintro e w1 ⟨rfl, hb1⟩; rw [HC.out]; have ch1 := chain (chain0 _ _) hb1; have q0 := box_cell ch1 0 rfl; have q1 := box_cell ch1 1 rfl; have q2 := box_cell ch1 2 rfl; have q3 := box_cell ch1 3 rfl; clear hb1)
        | (go_at_call 65; refine (areFruits_any N _ _ B R _ (H.out.chain (by assumption)) (RowsAt.chain HF.out hN (by assumption)) (okMarks_V (okBook_marks HM.out))).mono ?_; rintro e w2 ⟨rfl, hb2⟩; rw [HS.out]; have ch2 := chain (by assumption) hb2; clear hb2))
      go_ret
      exact ⟨ret_int (by simp [chk, HM.out, HS.out]), below_of ch2⟩
    | false =>
      have HS : Hid (okFruits B R = false) := Lib.hid hs
      clear hs
      go_enter Try.func19, Try.ntmps19
      go_wp2_with (first
        | (go_at_call 64; refine (checkBook_any N _ B _ (H.out.in_alloc _)).mono ?_; rintro e w1 ⟨rfl, hb1⟩; rw [HC.out]; have ch1 := chain (chain0 _ _) hb1; have q0 := box_cell ch1 0 rfl; have q1 := box_cell ch1 1 rfl; have q2 := box_cell ch1 2 rfl; have q3 := box_cell ch1 3 rfl; clear hb1)
        | (go_at_call 65; refine (areFruits_any N _ _ B R _ (H.out.chain (by assumption)) (RowsAt.chain HF.out hN (by assumption)) (okMarks_V (okBook_marks HM.out))).mono ?_; rintro e w2 ⟨rfl, hb2⟩; rw [HS.out]; have ch2 := chain (by assumption) hb2; clear hb2))
      go_ret
      exact ⟨ret_int (by simp [chk, HM.out, HS.out]), below_of ch2⟩
  | false =>
    have HM : Hid (okBook B = false) := Lib.hid hm
    have HC : Hid (chkB B = 10) := by unfold Hid; simp [chkB, hm]
    clear hm
    go_enter Try.func19, Try.ntmps19
    go_wp2_with (go_at_call 64; refine (checkBook_any N _ B _ (H.out.in_alloc _)).mono ?_; rintro e w1 ⟨rfl, hb1⟩; rw [HC.out]; have ch1 := chain (chain0 _ _) hb1; clear hb1)
    go_ret
    exact ⟨ret_int (by simp [chk, HM.out]), below_of ch1⟩

end Go.Proofs.Ytopajgnemeodeaa
