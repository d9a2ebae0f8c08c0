/-
  Ord2: KeysOrder for every book and two numbers.
-/
import Derived.Test.YtbieglmpkljjjaaOrd1
namespace Go.Proofs.Ytbieglmpkljjjaa
open Go.RowKit

set_option maxHeartbeats 3200000 in
set_option maxRecDepth 100000 in
theorem corder_out (N : Nat) (v : Value) (B : KB) (y z : Int) (w : World) (h : BookAt N w v B) (ho : readyB B = false ∨ y < 0 ∨ 100 < y ∨ z < 0 ∨ 100 < z) :
    Calls Try.prog 8 #[v, .int .i64 y, .int .i64 z] w fun e w' => e = .returned (.bool true) ∧ Below w.heap.size w w' := by
  have h' := h
  obtain ⟨_, a1, z1, a2, z2, a3, z3, rfl, _⟩ := h'
  obtain ⟨ws, hws, HB, hsz, hblk⟩ := box1 w (.cells #[.slice a1 B.nv z1, .slice a2 B.ns z2, .slice a3 B.D.n z3] 26)
  have q0 := cell_blk hblk 0 rfl
  have q1 := cell_blk hblk 1 rfl
  have q2 := cell_blk hblk 2 rfl
  have HBK := Lib.hid (h.go HB.out)
  have HB0 : Hid (Below ws.heap.size ws ws) := Below.refl _ _
  have HNS : Hid (N ≤ ws.heap.size) := HBK.out.1
  have hlens := h.lens
  obtain ⟨hlv, hls, hln⟩ := hlens
  clear hblk h
  cases hrd : readyB B with
  | false =>
    have HRD := Lib.hid hrd
    clear hrd ho
    go_enter Try.func8, Try.ntmps8
    go_wp2_with (first
      | (go_at_call 15; refine (ready_any N _ B _ (HBK.out.go HB0.out)).mono ?_; rintro e w1 ⟨rfl, hb1⟩; rw [HRD.out]; (try clear c0); have HB1 := Lib.hid (bel HB0.out hb1); have c1 := (old_of HB1.out).1; clear hb1)
      | (go_at_call 17; refine (works_any _).mono ?_; rintro e w2 ⟨rfl, hb2⟩; (try clear c1); have HB2 := Lib.hid (bel HB1.out hb2); have c2 := (old_of HB2.out).1; clear hb2))
    go_ret
    exact ⟨rfl, fin HB.out HB2.out⟩
  | true =>
    have HRD := Lib.hid hrd
    have ho' : y < 0 ∨ (¬ y < 0 ∧ 100 < y) ∨ (¬ y < 0 ∧ ¬ 100 < y ∧ z < 0) ∨ (¬ y < 0 ∧ ¬ 100 < y ∧ ¬ z < 0 ∧ 100 < z) := by
      rcases ho with h | h
      · rw [hrd] at h; cases h
      · omega
    clear hrd ho
    rcases ho' with h1 | ⟨h1, h2⟩ | ⟨h1, h2, h3⟩ | ⟨h1, h2, h3, h4⟩
    all_goals
      go_enter Try.func8, Try.ntmps8
      go_wp2_with (first
        | (go_at_call 15; refine (ready_any N _ B _ (HBK.out.go HB0.out)).mono ?_; rintro e w1 ⟨rfl, hb1⟩; rw [HRD.out]; (try clear c0); have HB1 := Lib.hid (bel HB0.out hb1); have c1 := (old_of HB1.out).1; clear hb1)
        | (go_at_call 17; refine (works_any _).mono ?_; rintro e w2 ⟨rfl, hb2⟩; (try clear c1); have HB2 := Lib.hid (bel HB1.out hb2); have c2 := (old_of HB2.out).1; clear hb2))
      go_ret
      exact ⟨rfl, fin HB.out HB2.out⟩

theorem corder_any (N : Nat) (v : Value) (B : KB) (y z : Int) (w : World) (h : BookAt N w v B) :
    Calls Try.prog 8 #[v, .int .i64 y, .int .i64 z] w fun e w' => e = .returned (.bool true) ∧ Below w.heap.size w w' := by
  by_cases ho : readyB B = false ∨ y < 0 ∨ 100 < y ∨ z < 0 ∨ 100 < z
  · exact corder_out N v B y z w h ho
  · have hr : readyB B = true := by cases hb : readyB B with | true => rfl | false => exact absurd (.inl hb) ho
    have hy : ¬ (y < 0 ∨ 100 < y ∨ z < 0 ∨ 100 < z) := fun e => ho (.inr e)
    obtain ⟨a, ha⟩ : ∃ a : Nat, y = a := ⟨y.toNat, by omega⟩
    obtain ⟨c, hc⟩ : ∃ c : Nat, z = c := ⟨z.toNat, by omega⟩
    subst ha; subst hc
    exact corder_in N v B a c w h hr (by omega) (by omega)

end Go.Proofs.Ytbieglmpkljjjaa
