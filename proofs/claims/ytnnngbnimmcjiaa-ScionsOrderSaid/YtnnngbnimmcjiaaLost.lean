/-
  Lost: the sorts that a frost takes; what is counted.
-/
import Derived.Test.YtnnngbnimmcjiaaGive
namespace Go.Proofs.Ytnnngbnimmcjiaa
open Go.RowKit

/-- the value of counts -/
def cntV (c : Nat → Nat) : Value := .agg #[.int .i64 (c 0), .int .i64 (c 1), .int .i64 (c 2), .int .i64 (c 3)]
theorem info_parts {t : TypeId} {z : Value} {s b : Nat} (h : (Try.prog.info? t).map (fun i => (i.zero, i.size, i.bytes)) = some (some z, s, b)) : ∃ i, Try.prog.info? t = some i ∧ i.zero = some z ∧ i.size = s ∧ i.bytes = b := by
  cases hi : Try.prog.info? t with
  | none => simp [hi] at h
  | some i => simp [hi] at h; exact ⟨i, rfl, h⟩

theorem idx4 (c : Nat → Nat) {k : Nat} (hk : k < 4) (w : World) : (Instr.index 69 (.agg #[.int .i64 (c 0), .int .i64 (c 1), .int .i64 (c 2), .int .i64 (c 3)]) (.int .i64 k)).run Try.prog w = .ok (.int .i64 (c k)) w := by
  have u3 := Try.underlying3
  have a3' := Try.isAgg3
  have z3 := Try.sizeOf3
  have : k = 0 ∨ k = 1 ∨ k = 2 ∨ k = 3 := by omega
  rcases this with rfl | rfl | rfl | rfl <;> simp [Instr.index, run_underlying Try.underlying69, run_underlying Try.underlying3, asIntOf, go_sem, part, a3', z3]

def lostP (B : SB) (l : List Nat) (f : Nat) (s : Nat) : Bool := decide (cS B l s = 1) && fr B l s f

set_option maxRecDepth 100000 in
set_option maxHeartbeats 3200000 in
theorem lost_any (B : SB) (cs : Array Value) (l : List Nat) (f : Nat) (w : World) (hV : GV B cs l) (hf : f < 4) :
    Calls Try.prog 63 #[.agg cs, .int .i64 f] w (GivesI w.heap.size w (sel (lostP B l f) 4)) := by
  obtain ⟨i0, hi, hz0, hz1, hz2⟩ := info_parts Try.infoInt
  obtain ⟨ws, hws, HB, hsz, hblk⟩ := box1 w (.cells cs 78)
  have d0 := cell_blk hblk 0 (hV.c 0 (by omega))
  have d1 := cell_blk hblk 1 (hV.c 1 (by omega))
  have d2 := cell_blk hblk 2 (hV.c 2 (by omega))
  have d3 := cell_blk hblk 3 (hV.c 3 (by omega))
  have HK := Lib.hid hblk
  have HV := Lib.hid hV
  have hfi : (f : Int) < 4 := by omega
  have HB0 : Hid (Below ws.heap.size ws ws) := Below.refl _ _
  clear hblk hV
  go_enter Try.func63, Try.ntmps63
  go_wp2
  clear hws
  go_loopw [10, 5] (fun i ov wr => ∃ k : Nat, k ≤ 4 ∧ i = .int .i64 k ∧ Hid (OwnI ws.heap.size wr ov (sel (lostP B l f) k)) ∧ Hid (Below ws.heap.size ws wr)) (fun i _ _ => 4 - (intOf i).toNat)
  case atStart => exact ⟨0, Nat.zero_le _, rfl, World.ownsRow_nil _ _ _ _, HB0⟩
  case round =>
    obtain ⟨k, hk, rfl, ho, HBr⟩ := hrel
    have cr := (old_of HBr.out).1
    by_cases hkn : k < 4
    · have hki : (k : Int) < 4 := by omega
      have e0 : w.heap.size + 1 ≤ ws.heap.size := hsz
      have d5 : ws.cell? ⟨w.heap.size, 9 + k * 4 + f, none⟩ = some (.bool (fr B l k f)) := cell_blk HK.out _ (HV.out.f k f hkn hf)
      have hix := idx4 (cS B l) hkn
      cases h1 : (((cS B l k : Nat) : Int) == 1) with
      | false =>
        have HP : Hid (sel (lostP B l f) (k + 1) = sel (lostP B l f) k) := sel_miss (by unfold lostP; have : ¬ cS B l k = 1 := fun e => (by rw [e] at h1; simp at h1); simp [this])
        go_wp2
        go_roundw
        case rel => exact ⟨k + 1, by omega, by go_num, by rw [HP.out]; exact ho, HBr⟩
        case measure => simp [intOf]; omega
      | true =>
        have hc1 : cS B l k = 1 := by have : ((cS B l k : Nat) : Int) = 1 := by simpa using h1
                                      omega
        cases h2 : fr B l k f with
        | false =>
          have HP : Hid (sel (lostP B l f) (k + 1) = sel (lostP B l f) k) := sel_miss (by unfold lostP; rw [h2]; simp)
          rw [h2] at d5
          clear hc1 h2
          go_wp2
          go_roundw
          case rel => exact ⟨k + 1, by omega, by go_num, by rw [HP.out]; exact ho, HBr⟩
          case measure => simp [intOf]; omega
        | true =>
          have HP : Hid (sel (lostP B l f) (k + 1) = sel (lostP B l f) k ++ [(k : Int)]) := sel_hit (by unfold lostP; rw [h2, hc1]; rfl)
          have hsl := sel_len (lostP B l f) k
          rw [h2] at d5
          clear hc1 h2
          generalize sel (lostP B l f) k = q at *
          have hown3 := own_below ho.out (Below.refl _ _)
          have HO3 := Lib.hid hown3
          have hs3 := HBr.out.size
          clear hown3
          go_wp2_with (at_builtin; refine wpList_append_own _ rfl _ _ 22 rfl ws.heap.size 3 i0 (.int .i64 0) 1 8 Try.underlying22 hi hz0 hz1 hz2 rfl (by decide) _ _ _ rfl (HO3.out.alloc _) ⟨wr.heap.size, 0, none⟩ 1 1 [.int .i64 k] rfl rfl (cell_one_new _ _ _) (by simp [Value.oneCell']) (by unfold maxLen; omega) (by omega) (by simp; omega) ?_; intro v' w4 hown4 hgrow _)
          go_roundw
          case rel => exact ⟨k + 1, by omega, by go_num, by rw [HP.out]; unfold Hid OwnI; rw [List.length_append, List.map_append]; exact hown4, (HBr.out.alloc HBr.out.size _).grown hgrow (by simp; omega) (fun j e => (HO3.out.lt j e).1)⟩
          case measure => simp [intOf]; omega
    · have hk4 : k = 4 := by omega
      subst hk4
      go_wp2
      go_ret
      exact ⟨_, rfl, (show OwnI w.heap.size wr _ _ from own_mono ho.out (Nat.le_of_lt hsz)), fin HB.out HBr.out⟩

end Go.Proofs.Ytnnngbnimmcjiaa
