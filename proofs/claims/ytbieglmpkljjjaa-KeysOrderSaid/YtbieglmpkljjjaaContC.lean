/-
  ContC: a cube among cubes.
-/
import Derived.Test.YtbieglmpkljjjaaParts
import Derived.Laws.StructEq
import Derived.Laws.Tables
import Derived.Laws.Cover2
namespace Go.Proofs.Ytbieglmpkljjjaa
open Go.RowKit

def sameC (c d : Nat → Int) : Bool := allB 5 fun i => decide (c i = d i)

set_option maxRecDepth 100000 in
set_option maxHeartbeats 3200000 in
theorem eqCube (a0 a1 a2 a3 a4 b0 b1 b2 b3 b4 : Int) (w : World) : (Op.equalIn 10000 94 (.agg #[.int .i64 a0, .int .i64 a1, .int .i64 a2, .int .i64 a3, .int .i64 a4]) (.agg #[.int .i64 b0, .int .i64 b1, .int .i64 b2, .int .i64 b3, .int .i64 b4])).run Try.prog w = .ok (a0 == b0 && (a1 == b1 && (a2 == b2 && (a3 == b3 && a4 == b4)))) w := by
  have u3 := Try.underlying3
  have a3' := Try.isAgg3
  have z3 := Try.sizeOf3
  rw [show (10000 : Nat) = 9999 + 1 from rfl, Op.equalIn]
  simp only [Sem.run_bind, run_underlying Try.underlying94, Result.andThen_ok]
  simp only [Std.Legacy.Range.forIn_eq_forIn_range', Std.Legacy.Range.size, Nat.sub_zero, Nat.add_sub_cancel, Nat.div_one, List.range'_succ, List.range'_zero, List.forIn_cons, List.forIn_nil]
  go_simp
  by_cases h0 : a0 = b0 <;> by_cases h1 : a1 = b1 <;> by_cases h2 : a2 = b2 <;> by_cases h3 : a3 = b3 <;> by_cases h4 : a4 = b4 <;> simp [h0, h1, h2, h3, h4]

set_option maxRecDepth 100000 in
set_option maxHeartbeats 3200000 in
theorem indexCube_any (N : Nat) (v : Value) (q : Nat) (C : Nat → Nat → Int) (c : Nat → Int) (w : World) (h : CubesIn N w v q C) (hq : q ≤ 1000) :
    Calls Try.prog 156 #[v, cubeV c] w fun e w' => (∃ i : Int, e = .returned (.int .i64 i) ∧ ((0 ≤ i) ↔ ∃ j, j < q ∧ sameC (C j) c = true)) ∧ Below w.heap.size w w' := by
  obtain ⟨g, cap, rfl, _, hg, hcs⟩ := h
  obtain ⟨ws, hws, HB, hsz, hblk⟩ := box1 w (.cells #[.int .i64 (c 0), .int .i64 (c 1), .int .i64 (c 2), .int .i64 (c 3), .int .i64 (c 4)] 94)
  have q0 := cell_blk hblk 0 rfl
  have q1 := cell_blk hblk 1 rfl
  have q2 := cell_blk hblk 2 rfl
  have q3 := cell_blk hblk 3 rfl
  have q4 := cell_blk hblk 4 rfl
  have HB0 : Hid (Below ws.heap.size ws ws) := Below.refl _ _
  have hgs : g < ws.heap.size := by have := HB.out.size; omega
  have HCS : Hid (∀ y, y < q → ∀ i, i < 5 → ws.cell? ⟨g, y * 5 + i, none⟩ = some (.int .i64 (C y i))) := fun y hy i hi => (HB.out.cell (p := ⟨g, y * 5 + i, none⟩) hg).trans (hcs y hy i hi)
  clear hblk hcs
  unfold cubeV
  go_enter Try.func156, Try.ntmps156
  go_wp2
  (try rw [hws])
  clear hws
  go_loopw [8] (fun i wr => ∃ k : Nat, k ≤ q ∧ i = .int .i64 k ∧ Hid (∀ j, j < k → ¬ sameC (C j) c = true) ∧ Hid (Below ws.heap.size ws wr)) (fun i _ => q - (intOf i).toNat)
  case atStart => exact ⟨0, Nat.zero_le _, rfl, fun j hj => absurd hj (Nat.not_lt_zero j), HB0⟩
  case round =>
  obtain ⟨k, hk, rfl, HJ, HBr⟩ := hrel
  by_cases hkq : k < q
  · have hki : (k : Int) < (q : Int) := by omega
    have k0 := HCS.out k hkq 0 (by omega)
    rw [Nat.add_zero] at k0
    have k1 := HCS.out k hkq 1 (by omega)
    have k2 := HCS.out k hkq 2 (by omega)
    have k3 := HCS.out k hkq 3 (by omega)
    have k4 := HCS.out k hkq 4 (by omega)
    have HKQ := Lib.hid hkq
    have heq : ∀ w, (Op.equalIn 10000 94 (.agg #[.int .i64 (c 0), .int .i64 (c 1), .int .i64 (c 2), .int .i64 (c 3), .int .i64 (c 4)]) (.agg #[.int .i64 (C k 0), .int .i64 (C k 1), .int .i64 (C k 2), .int .i64 (C k 3), .int .i64 (C k 4)])).run Try.prog w = .ok (sameC (C k) c) w := fun w => by
      rw [eqCube]
      congr 1
      rw [Bool.eq_iff_iff]
      unfold sameC
      rw [allB_true]
      simp only [Bool.and_eq_true, beq_iff_eq, decide_eq_true_eq]
      constructor
      · rintro ⟨h0, h1, h2, h3, h4⟩ i hi
        have : i = 0 ∨ i = 1 ∨ i = 2 ∨ i = 3 ∨ i = 4 := by omega
        rcases this with rfl | rfl | rfl | rfl | rfl <;> (symm; assumption)
      · intro h
        exact ⟨(h 0 (by omega)).symm, (h 1 (by omega)).symm, (h 2 (by omega)).symm, (h 3 (by omega)).symm, (h 4 (by omega)).symm⟩
    clear hkq hk
    cases hsm : sameC (C k) c with
    | true =>
      have HSM := Lib.hid hsm
      rw [hsm] at heq
      have Srd := old_of HBr.out.drew; have HBrd := Srd.2
      clear hsm
      go_upto_region 4 with fail
      refine wp_region_held_drew (S := (fun w' => (∀ b o, b < ws.heap.size → w'.cell? ⟨b, o, none⟩ = ws.cell? ⟨b, o, none⟩) ∧ Hid (Below ws.heap.size ws w'))) (by kernel_rfl) Srd (fun hHeld => ?_)
      (refine wpAnyH_take (i := 0) (v := ?_) rfl (by kernel_rfl) (by kernel_rfl) (by kernel_rfl) (fun _ _ _ h => h) (Or.inl ⟨by rfl, ?_⟩) (by assumption) ?_; rotate_left; (focus (intro w hSw; (try dsimp only at hSw); go_simp; (try with_reducible rfl))); (try simp only [List.getElem_toArray, List.getElem_cons_zero, List.getElem_cons_succ, Act.put, List.setIfInBounds_toArray, List.set_cons_zero, List.set_cons_succ])); (refine wpAnyH_take (i := 1) (v := ?_) rfl (by kernel_rfl) (by kernel_rfl) (by kernel_rfl) (fun _ _ _ h => h) (Or.inl ⟨by rfl, ?_⟩) (by assumption) ?_; rotate_left; (focus (intro w hSw; (try dsimp only at hSw); go_simp; (try with_reducible rfl))); (try simp only [List.getElem_toArray, List.getElem_cons_zero, List.getElem_cons_succ, Act.put, List.setIfInBounds_toArray, List.set_cons_zero, List.set_cons_succ])); (refine wpAnyH_take (i := 2) (v := ?_) rfl (by kernel_rfl) (by kernel_rfl) (by kernel_rfl) (fun _ _ _ h => h) (Or.inl ⟨by rfl, ?_⟩) (by assumption) ?_; rotate_left; (focus (intro w hSw; (try dsimp only at hSw); go_simp; (try with_reducible rfl))); (try simp only [List.getElem_toArray, List.getElem_cons_zero, List.getElem_cons_succ, Act.put, List.setIfInBounds_toArray, List.set_cons_zero, List.set_cons_succ])); (refine wpAnyH_take (i := 3) (v := ?_) rfl (by kernel_rfl) (by kernel_rfl) (by kernel_rfl) (fun _ _ _ h => h) (Or.inl ⟨by rfl, ?_⟩) (by assumption) ?_; rotate_left; (focus (intro w hSw; (try dsimp only at hSw); go_simp; (try with_reducible rfl))); (try simp only [List.getElem_toArray, List.getElem_cons_zero, List.getElem_cons_succ, Act.put, List.setIfInBounds_toArray, List.set_cons_zero, List.set_cons_succ])); (refine wpAnyH_take (i := 4) (v := ?_) rfl (by kernel_rfl) (by kernel_rfl) (by kernel_rfl) (fun _ _ _ h => h) (Or.inl ⟨by rfl, ?_⟩) (by assumption) ?_; rotate_left; (focus (intro w hSw; (try dsimp only at hSw); go_simp; (try with_reducible rfl))); (try simp only [List.getElem_toArray, List.getElem_cons_zero, List.getElem_cons_succ, Act.put, List.setIfInBounds_toArray, List.set_cons_zero, List.set_cons_succ])); (refine wpAnyH_take (i := 5) (v := ?_) rfl (by kernel_rfl) (by kernel_rfl) (by kernel_rfl) (fun _ _ _ h => h) (Or.inl ⟨by rfl, ?_⟩) (by assumption) ?_; rotate_left; (focus (intro w hSw; (try dsimp only at hSw); go_simp; (try with_reducible rfl))); (try simp only [List.getElem_toArray, List.getElem_cons_zero, List.getElem_cons_succ, Act.put, List.setIfInBounds_toArray, List.set_cons_zero, List.set_cons_succ]))
      refine wpAnyH_done (by kernel_rfl) ?_ _; clear hHeld
      clear Srd
      go_wp2
      go_ret
      exact ⟨⟨_, rfl, ⟨fun _ => ⟨k, HKQ.out, HSM.out⟩, fun _ => by omega⟩⟩, fin HB.out HBrd.out⟩
    | false =>
      have HSM := Lib.hid hsm
      rw [hsm] at heq
      have Srd := old_of HBr.out.drew; have HBrd := Srd.2
      clear hsm
      go_upto_region 4 with fail
      refine wp_region_held_drew (S := (fun w' => (∀ b o, b < ws.heap.size → w'.cell? ⟨b, o, none⟩ = ws.cell? ⟨b, o, none⟩) ∧ Hid (Below ws.heap.size ws w'))) (by kernel_rfl) Srd (fun hHeld => ?_)
      (refine wpAnyH_take (i := 0) (v := ?_) rfl (by kernel_rfl) (by kernel_rfl) (by kernel_rfl) (fun _ _ _ h => h) (Or.inl ⟨by rfl, ?_⟩) (by assumption) ?_; rotate_left; (focus (intro w hSw; (try dsimp only at hSw); go_simp; (try with_reducible rfl))); (try simp only [List.getElem_toArray, List.getElem_cons_zero, List.getElem_cons_succ, Act.put, List.setIfInBounds_toArray, List.set_cons_zero, List.set_cons_succ])); (refine wpAnyH_take (i := 1) (v := ?_) rfl (by kernel_rfl) (by kernel_rfl) (by kernel_rfl) (fun _ _ _ h => h) (Or.inl ⟨by rfl, ?_⟩) (by assumption) ?_; rotate_left; (focus (intro w hSw; (try dsimp only at hSw); go_simp; (try with_reducible rfl))); (try simp only [List.getElem_toArray, List.getElem_cons_zero, List.getElem_cons_succ, Act.put, List.setIfInBounds_toArray, List.set_cons_zero, List.set_cons_succ])); (refine wpAnyH_take (i := 2) (v := ?_) rfl (by kernel_rfl) (by kernel_rfl) (by kernel_rfl) (fun _ _ _ h => h) (Or.inl ⟨by rfl, ?_⟩) (by assumption) ?_; rotate_left; (focus (intro w hSw; (try dsimp only at hSw); go_simp; (try with_reducible rfl))); (try simp only [List.getElem_toArray, List.getElem_cons_zero, List.getElem_cons_succ, Act.put, List.setIfInBounds_toArray, List.set_cons_zero, List.set_cons_succ])); (refine wpAnyH_take (i := 3) (v := ?_) rfl (by kernel_rfl) (by kernel_rfl) (by kernel_rfl) (fun _ _ _ h => h) (Or.inl ⟨by rfl, ?_⟩) (by assumption) ?_; rotate_left; (focus (intro w hSw; (try dsimp only at hSw); go_simp; (try with_reducible rfl))); (try simp only [List.getElem_toArray, List.getElem_cons_zero, List.getElem_cons_succ, Act.put, List.setIfInBounds_toArray, List.set_cons_zero, List.set_cons_succ])); (refine wpAnyH_take (i := 4) (v := ?_) rfl (by kernel_rfl) (by kernel_rfl) (by kernel_rfl) (fun _ _ _ h => h) (Or.inl ⟨by rfl, ?_⟩) (by assumption) ?_; rotate_left; (focus (intro w hSw; (try dsimp only at hSw); go_simp; (try with_reducible rfl))); (try simp only [List.getElem_toArray, List.getElem_cons_zero, List.getElem_cons_succ, Act.put, List.setIfInBounds_toArray, List.set_cons_zero, List.set_cons_succ])); (refine wpAnyH_take (i := 5) (v := ?_) rfl (by kernel_rfl) (by kernel_rfl) (by kernel_rfl) (fun _ _ _ h => h) (Or.inl ⟨by rfl, ?_⟩) (by assumption) ?_; rotate_left; (focus (intro w hSw; (try dsimp only at hSw); go_simp; (try with_reducible rfl))); (try simp only [List.getElem_toArray, List.getElem_cons_zero, List.getElem_cons_succ, Act.put, List.setIfInBounds_toArray, List.set_cons_zero, List.set_cons_succ]))
      refine wpAnyH_done (by kernel_rfl) ?_ _; clear hHeld
      clear Srd
      go_wp2
      go_roundw
      case rel => first | exact ⟨k + 1, HKQ.out, by go_num, fun j hj1 => by
          rcases Nat.lt_succ_iff_lt_or_eq.1 hj1 with h | h
          · exact HJ.out j h
          · rw [h, HSM.out]; simp, HBrd⟩ | exact ⟨k + 1, HKQ.out, by go_num⟩
      case measure => simp [intOf]; have := HKQ.out; omega
  · have hki : ¬ (k : Int) < (q : Int) := by omega
    go_wp2
    go_ret
    exact ⟨⟨_, rfl, ⟨fun h0 => absurd h0 (by omega), fun ⟨j, h1, h2⟩ => absurd h2 (HJ.out j (by omega))⟩⟩, fin HB.out HBr.out⟩


theorem containsCube_any (N : Nat) (v : Value) (q : Nat) (C : Nat → Nat → Int) (c : Nat → Int) (w : World) (h : CubesIn N w v q C) (hq : q ≤ 1000) :
    Calls Try.prog 142 #[v, cubeV c] w fun e w' => e = .returned (.bool (anyB q fun j => sameC (C j) c)) ∧ Below w.heap.size w w' := by
  obtain ⟨g, cap, rfl, h1, hg, hcs⟩ := h
  obtain ⟨ws, hws, HB, hsz, hblk⟩ := box1 w (.cells #[.int .i64 (c 0), .int .i64 (c 1), .int .i64 (c 2), .int .i64 (c 3), .int .i64 (c 4)] 94)
  have q0 := cell_blk hblk 0 rfl
  have q1 := cell_blk hblk 1 rfl
  have q2 := cell_blk hblk 2 rfl
  have q3 := cell_blk hblk 3 rfl
  have q4 := cell_blk hblk 4 rfl
  have H := Lib.hid (indexCube_any N _ q C c ws ⟨g, cap, rfl, h1, by have := HB.out.size; omega, fun y hy i hi => (HB.out.cell (p := ⟨g, y * 5 + i, none⟩) hg).trans (hcs y hy i hi)⟩ hq)
  clear hcs hblk
  unfold cubeV at H ⊢
  go_enter Try.func142, Try.ntmps142
  go_wp2_with (go_at_call 156; refine H.out.mono ?_; rintro e w1 ⟨⟨i, rfl, hi⟩, hb1⟩)
  go_ret
  refine ⟨ret_bool ?_, fin HB.out hb1⟩
  rw [Bool.eq_iff_iff, anyB_true]
  first | exact hi | (simp only [decide_eq_true_eq]; exact hi) | simp only [decide_eq_true_eq, hi]

end Go.Proofs.Ytbieglmpkljjjaa
