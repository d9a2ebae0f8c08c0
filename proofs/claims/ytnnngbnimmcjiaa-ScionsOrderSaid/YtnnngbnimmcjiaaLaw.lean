/-
  Law: Far, ready, Same.
-/
import Derived.Test.YtnnngbnimmcjiaaExp3
import Derived.Test.YtnnngbnimmcjiaaRFits
namespace Go.Proofs.Ytnnngbnimmcjiaa
open Go.RowKit

/-- far too much of something, or valid with more wants than are looked at -/
def farL (B : SB) : Bool := decide (40 < B.ns) || decide (40 < B.ng) || decide (40 < B.nw) || (decide (9 < B.nw) && okL B)
theorem farL_le {B : SB} (h : farL B = false) : B.ns ≤ 40 ∧ B.ng ≤ 40 ∧ B.nw ≤ 40 ∧ (okL B = true → B.nw ≤ 9) := by
  simp only [farL, Bool.or_eq_false_iff, decide_eq_false_iff_not, Bool.and_eq_false_iff] at h
  obtain ⟨⟨⟨h1, h2⟩, h3⟩, h4⟩ := h
  refine ⟨by omega, by omega, by omega, fun e => ?_⟩
  rcases h4 with h | h
  · omega
  · rw [e] at h; cases h

set_option maxRecDepth 100000 in
set_option maxHeartbeats 3200000 in
theorem Far_any (N : Nat) (v : Value) (B : SB) (w : World) (h : BookAt N w v B) :
    Calls Try.prog 33 #[v] w fun e w' => e = .returned (.bool (farL B)) ∧ Below w.heap.size w w' := by
  have h' := h
  obtain ⟨_, a1, z1, a2, z2, a3, z3, rfl, _⟩ := h'
  obtain ⟨ws, hws, HB, hsz, hblk⟩ := box1 w (.cells #[.slice a1 B.ns z1, .slice a2 B.ng z2, .slice a3 B.nw z3] 26)
  have q0 := cell_blk hblk 0 rfl
  have q1 := cell_blk hblk 1 rfl
  have q2 := cell_blk hblk 2 rfl
  have HBK := Lib.hid (h.go HB.out)
  have HB0 : Hid (Below ws.heap.size ws ws) := Below.refl _ _
  have HNS : Hid (N ≤ ws.heap.size) := HBK.out.1
  have hlens := h.lens
  obtain ⟨hlv, hls, hln⟩ := hlens
  clear hblk h
  by_cases g1 : 40 < B.ns
  · have g1i : (40 : Int) < (B.ns : Int) := by omega
    have HF : Hid (farL B = true) := by unfold Hid farL; rw [decide_eq_true g1]; rfl
    clear g1
    go_enter Try.func33, Try.ntmps33
    go_wp2
    go_ret
    exact ⟨ret_bool HF.out.symm, HB.out⟩
  · have g1i : ¬ (40 : Int) < (B.ns : Int) := by omega
    by_cases g2 : 40 < B.ng
    · have g2i : (40 : Int) < (B.ng : Int) := by omega
      have HF : Hid (farL B = true) := by unfold Hid farL; rw [decide_eq_true g2]; simp
      clear g1 g2
      go_enter Try.func33, Try.ntmps33
      go_wp2
      go_ret
      exact ⟨ret_bool HF.out.symm, HB.out⟩
    · have g2i : ¬ (40 : Int) < (B.ng : Int) := by omega
      by_cases g3 : 40 < B.nw
      · have g3i : (40 : Int) < (B.nw : Int) := by omega
        have HF : Hid (farL B = true) := by unfold Hid farL; rw [decide_eq_true g3]; simp
        clear g1 g2 g3
        go_enter Try.func33, Try.ntmps33
        go_wp2
        go_ret
        exact ⟨ret_bool HF.out.symm, HB.out⟩
      · have g3i : ¬ (40 : Int) < (B.nw : Int) := by omega
        by_cases g4 : 9 < B.nw
        · have g4i : (9 : Int) < (B.nw : Int) := by omega
          have HE : Hid (farL B = okL B) := by unfold Hid farL; rw [decide_eq_false g1, decide_eq_false g2, decide_eq_false g3, decide_eq_true g4]; simp
          cases hv : okL B with
          | true =>
            have HV := Lib.hid hv
            have HF : Hid (farL B = true) := HE.out.trans hv
            clear g1 g2 g3 g4 hv
            go_enter Try.func33, Try.ntmps33
            go_wp2_with (go_at_call 35; refine (rCheck_any N _ B _ (HBK.out.go HB0.out)).mono ?_; rw [HV.out]; rintro e w1 ⟨rfl, hb1⟩; (try clear c0); have HB1 := Lib.hid (bel HB0.out hb1); have c1 := (old_of HB1.out).1; clear hb1)
            go_ret
            exact ⟨ret_bool HF.out.symm, fin HB.out HB1.out⟩
          | false =>
            have HV := Lib.hid hv
            have HF : Hid (farL B = false) := HE.out.trans hv
            clear g1 g2 g3 g4 hv
            go_enter Try.func33, Try.ntmps33
            go_wp2_with (go_at_call 35; refine (rCheck_any N _ B _ (HBK.out.go HB0.out)).mono ?_; rw [HV.out]; rintro e w1 ⟨rfl, hb1⟩; (try clear c0); have HB1 := Lib.hid (bel HB0.out hb1); have c1 := (old_of HB1.out).1; clear hb1)
            go_ret
            exact ⟨ret_bool HF.out.symm, fin HB.out HB1.out⟩
        · have g4i : ¬ (9 : Int) < (B.nw : Int) := by omega
          have HF : Hid (farL B = false) := by unfold Hid farL; rw [decide_eq_false g1, decide_eq_false g2, decide_eq_false g3, decide_eq_false g4]; rfl
          clear g1 g2 g3 g4
          go_enter Try.func33, Try.ntmps33
          go_wp2
          go_ret
          exact ⟨ret_bool HF.out.symm, HB.out⟩

def readyL (B : SB) : Bool := !farL B && okL B

set_option maxHeartbeats 1600000 in
theorem ready_any (N : Nat) (v : Value) (B : SB) (w : World) (h : BookAt N w v B) :
    Calls Try.prog 12 #[v] w fun e w' => e = .returned (.bool (readyL B)) ∧ Below w.heap.size w w' := by
  have h' := h
  obtain ⟨_, a1, z1, a2, z2, a3, z3, rfl, _⟩ := h'
  obtain ⟨ws, hws, HB, hsz, hblk⟩ := box1 w (.cells #[.slice a1 B.ns z1, .slice a2 B.ng z2, .slice a3 B.nw z3] 26)
  have q0 := cell_blk hblk 0 rfl
  have q1 := cell_blk hblk 1 rfl
  have q2 := cell_blk hblk 2 rfl
  have HBK := Lib.hid (h.go HB.out)
  have HB0 : Hid (Below ws.heap.size ws ws) := Below.refl _ _
  have HNS : Hid (N ≤ ws.heap.size) := HBK.out.1
  have hlens := h.lens
  obtain ⟨hlv, hls, hln⟩ := hlens
  clear hblk h
  cases hf : farL B with
  | true =>
    have HF := Lib.hid hf
    have HR : Hid (readyL B = false) := by unfold Hid readyL; rw [hf]; rfl
    clear hf
    go_enter Try.func12, Try.ntmps12
    go_wp2_with (go_at_call 33; refine (Far_any N _ B _ (HBK.out.go HB0.out)).mono ?_; rintro e w1 ⟨rfl, hb1⟩; rw [HF.out]; (try clear c0); have HB1 := Lib.hid (bel HB0.out hb1); have c1 := (old_of HB1.out).1; clear hb1)
    go_ret
    exact ⟨ret_bool HR.out.symm, fin HB.out HB1.out⟩
  | false =>
    have HF := Lib.hid hf
    have HR0 : Hid (readyL B = okL B) := by unfold Hid readyL; rw [hf]; rfl
    clear hf
    cases hv : okL B with
    | false =>
      have HA := Lib.hid hv
      have HR : Hid (readyL B = false) := HR0.out.trans hv
      clear hv
      go_enter Try.func12, Try.ntmps12
      go_wp2_with (first
        | (go_at_call 33; refine (Far_any N _ B _ (HBK.out.go HB0.out)).mono ?_; rintro e w1 ⟨rfl, hb1⟩; rw [HF.out]; (try clear c0); have HB1 := Lib.hid (bel HB0.out hb1); have c1 := (old_of HB1.out).1; clear hb1)
        | (go_at_call 35; refine (rCheck_any N _ B _ (HBK.out.go HB1.out)).mono ?_; rintro e w2 ⟨rfl, hb2⟩; rw [HA.out]; (try clear c1); have HB2 := Lib.hid (bel HB1.out hb2); have c2 := (old_of HB2.out).1; clear hb2))
      go_ret
      exact ⟨ret_bool HR.out.symm, fin HB.out HB2.out⟩
    | true =>
      have HA := Lib.hid hv
      have HR : Hid (readyL B = true) := HR0.out.trans hv
      clear hv
      go_enter Try.func12, Try.ntmps12
      go_wp2_with (first
        | (go_at_call 33; refine (Far_any N _ B _ (HBK.out.go HB0.out)).mono ?_; rintro e w1 ⟨rfl, hb1⟩; rw [HF.out]; (try clear c0); have HB1 := Lib.hid (bel HB0.out hb1); have c1 := (old_of HB1.out).1; clear hb1)
        | (go_at_call 35; refine (rCheck_any N _ B _ (HBK.out.go HB1.out)).mono ?_; rintro e w2 ⟨rfl, hb2⟩; rw [HA.out]; (try clear c1); have HB2 := Lib.hid (bel HB1.out hb2); have c2 := (old_of HB2.out).1; clear hb2))
      go_ret
      exact ⟨ret_bool HR.out.symm, fin HB.out HB2.out⟩

end Go.Proofs.Ytnnngbnimmcjiaa
