/-
  LLess: KeysLess: the ways out at its start.
-/
import Derived.Test.YtbieglmpkljjjaaLess
namespace Go.Proofs.Ytbieglmpkljjjaa
open Go.RowKit

set_option maxHeartbeats 3200000 in
set_option maxRecDepth 100000 in
/-- whatever is not asked about: true -/
theorem cless_out (N : Nat) (v : Value) (B : KB) (s m : Int) (w : World) (h : BookAt N w v B)
    (hno : ¬ (readyB B = true ∧ (0 ≤ s ∧ s < (B.ns : Int)) ∧ 0 ≤ m ∧ m < ((2 ^ B.nv : Nat) : Int))) :
    Calls Try.prog 7 #[v, .int .i64 s, .int .i64 m] w fun e w' => e = .returned (.bool true) ∧ Below w.heap.size w w' := by
  have h' := h
  obtain ⟨_, a1, z1, a2, z2, a3, z3, rfl, _⟩ := h'
  obtain ⟨ws, hws, HB, hsz, hblk⟩ := box1 w (.cells #[.slice a1 B.nv z1, .slice a2 B.ns z2, .slice a3 B.D.n z3] 26)
  have q0 := cell_blk hblk 0 rfl
  have q1 := cell_blk hblk 1 rfl
  have q2 := cell_blk hblk 2 rfl
  have HBK := Lib.hid (h.go HB.out)
  have HB0 : Hid (Below ws.heap.size ws ws) := Below.refl _ _
  have HNS : Hid (N ≤ ws.heap.size) := HBK.out.1
  have hlens := h.lens
  obtain ⟨hlv, hls, hln⟩ := hlens
  clear hblk h
  cases hrd : readyB B with
  | false =>
    have HRD := Lib.hid hrd
    clear hrd hno
    go_enter Try.func7, Try.ntmps7
    go_wp2_with (first
      | (go_at_call 15; refine (ready_any N _ B _ (HBK.out.go HB0.out)).mono ?_; rintro e w1 ⟨rfl, hb1⟩; rw [HRD.out]; (try clear c0); have HB1 := Lib.hid (bel HB0.out hb1); have c1 := (old_of HB1.out).1; clear hb1)
      | (go_at_call 17; refine (works_any _).mono ?_; rintro e w2 ⟨rfl, hb2⟩; (try clear c1); have HB2 := Lib.hid (bel HB1.out hb2); have c2 := (old_of HB2.out).1; clear hb2))
    go_ret
    exact ⟨rfl, fin HB.out HB2.out⟩
  | true =>
    have HRD := Lib.hid hrd
    have hok : okKB B = true := by unfold readyB at hrd; cases hf : okKB B with | true => rfl | false => rw [hf] at hrd; simp at hrd
    have hnv5 := (goodB hok).nv
    have hsl := shl_oneI hnv5
    cases hs : (decide (0 ≤ s) && decide (s < (B.ns : Int))) with
    | false =>
      have HS := Lib.hid hs
      clear hrd hno hs hok hsl
      go_enter Try.func7, Try.ntmps7
      go_wp2_with (first
        | (go_at_call 15; refine (ready_any N _ B _ (HBK.out.go HB0.out)).mono ?_; rintro e w1 ⟨rfl, hb1⟩; rw [HRD.out]; (try clear c0); have HB1 := Lib.hid (bel HB0.out hb1); have c1 := (old_of HB1.out).1; clear hb1)
        | (go_at_call 39; refine (isSort_any N _ B s _ (HBK.out.go HB1.out)).mono ?_; rintro e w2 ⟨rfl, hb2⟩; rw [HS.out]; (try clear c1); have HB2 := Lib.hid (bel HB1.out hb2); have c2 := (old_of HB2.out).1; clear hb2)
        | (go_at_call 17; refine (works_any _).mono ?_; rintro e w3 ⟨rfl, hb3⟩; (try clear c2); have HB3 := Lib.hid (bel HB2.out hb3); have c3 := (old_of HB3.out).1; clear hb3))
      go_ret
      exact ⟨rfl, fin HB.out HB3.out⟩
    | true =>
      have HS := Lib.hid hs
      by_cases h0 : m < 0
      · clear hrd hno hs hok hsl
        go_enter Try.func7, Try.ntmps7
        go_wp2_with (first
          | (go_at_call 15; refine (ready_any N _ B _ (HBK.out.go HB0.out)).mono ?_; rintro e w1 ⟨rfl, hb1⟩; rw [HRD.out]; (try clear c0); have HB1 := Lib.hid (bel HB0.out hb1); have c1 := (old_of HB1.out).1; clear hb1)
          | (go_at_call 39; refine (isSort_any N _ B s _ (HBK.out.go HB1.out)).mono ?_; rintro e w2 ⟨rfl, hb2⟩; rw [HS.out]; (try clear c1); have HB2 := Lib.hid (bel HB1.out hb2); have c2 := (old_of HB2.out).1; clear hb2)
          | (go_at_call 17; refine (works_any _).mono ?_; rintro e w3 ⟨rfl, hb3⟩; (try clear c2); have HB3 := Lib.hid (bel HB2.out hb3); have c3 := (old_of HB3.out).1; clear hb3))
        go_ret
        exact ⟨rfl, fin HB.out HB3.out⟩
      · have h1 : ((2 ^ B.nv : Nat) : Int) ≤ m := by
          rw [Bool.and_eq_true, decide_eq_true_eq, decide_eq_true_eq] at hs
          by_cases h : m < ((2 ^ B.nv : Nat) : Int)
          · exact absurd ⟨hrd, hs, by omega, h⟩ hno
          · omega
        obtain ⟨p2, hp2⟩ : ∃ p, (2 : Nat) ^ B.nv = p := ⟨_, rfl⟩
        rw [hp2] at hsl h1
        clear hrd hno hs hok hp2
        go_enter Try.func7, Try.ntmps7
        go_wp2_with (first
          | (go_at_call 15; refine (ready_any N _ B _ (HBK.out.go HB0.out)).mono ?_; rintro e w1 ⟨rfl, hb1⟩; rw [HRD.out]; (try clear c0); have HB1 := Lib.hid (bel HB0.out hb1); have c1 := (old_of HB1.out).1; clear hb1)
          | (go_at_call 39; refine (isSort_any N _ B s _ (HBK.out.go HB1.out)).mono ?_; rintro e w2 ⟨rfl, hb2⟩; rw [HS.out]; (try clear c1); have HB2 := Lib.hid (bel HB1.out hb2); have c2 := (old_of HB2.out).1; clear hb2)
          | (go_at_call 17; refine (works_any _).mono ?_; rintro e w3 ⟨rfl, hb3⟩; (try clear c2); have HB3 := Lib.hid (bel HB2.out hb3); have c3 := (old_of HB3.out).1; clear hb3))
        go_ret
        exact ⟨rfl, fin HB.out HB3.out⟩

end Go.Proofs.Ytbieglmpkljjjaa
