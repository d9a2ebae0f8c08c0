/-
  Del: the wants of a garden are deleted.
-/
import Derived.Test.YtnnngbnimmcjiaaClone
import Derived.Laws.IdiomCopy
import Derived.Lib.SliceRun
namespace Go.Proofs.Ytnnngbnimmcjiaa
open Go.RowKit

/-- those below k that are of no such garden -/
def keptL (x : Nat → Int) (d : Int) : Nat → List Nat
  | 0 => []
  | k + 1 => if x k = d then keptL x d k else keptL x d k ++ [k]
theorem keptL_len (x : Nat → Int) (d : Int) (k : Nat) : (keptL x d k).length ≤ k := by
  induction k with
  | zero => simp [keptL]
  | succ k ih =>
    unfold keptL
    split
    · omega
    · simp; omega
theorem keptL_all {x : Nat → Int} {d : Int} : ∀ k, (∀ j, j < k → x j ≠ d) → keptL x d k = List.range k := by
  intro k
  induction k with
  | zero => intro _; rfl
  | succ k ih =>
    intro h
    unfold keptL
    rw [if_neg (h k (by omega)), ih (fun j hj => h j (by omega)), List.range_succ]
theorem keptL_lt (x : Nat → Int) (d : Int) (k : Nat) : ∀ i, i ∈ keptL x d k → i < k ∧ x i ≠ d := by
  induction k with
  | zero => intro i hi; cases hi
  | succ k ih =>
    intro i hi
    unfold keptL at hi
    split at hi
    · have := ih i hi; omega
    · rename_i hn
      rcases List.mem_append.1 hi with h | h
      · have := ih i h; omega
      · rw [List.mem_singleton.1 h]; exact ⟨by omega, hn⟩

set_option maxHeartbeats 800000 in
theorem isOf_any (a b d : Int) (bp : Nat) (w : World) (h : w.cell? ⟨bp, 0, none⟩ = some (.int .i64 d)) (hb : bp < w.heap.size) :
    Calls Try.prog 91 #[.agg #[.int .i64 a, .int .i64 b], .pointer (some ⟨bp, 0, none⟩)] w fun e w' => e = .returned (.bool (decide (a = d))) ∧ Below w.heap.size w w' := by
  obtain ⟨ws, hws, HB, hsz, hblk⟩ := box1 w (.cells #[.int .i64 a, .int .i64 b] 43)
  have q0 := cell_blk hblk 0 rfl
  have q1 := cell_blk hblk 1 rfl
  have q2 : ws.cell? ⟨bp, 0, none⟩ = some (.int .i64 d) := (HB.out.cell (p := ⟨bp, 0, none⟩) hb).trans h
  clear hblk
  go_enter Try.func91, Try.ntmps91
  go_wp2
  go_ret
  exact ⟨ret_bool (by by_cases e : a = d <;> simp [e]), HB.out⟩

set_option maxHeartbeats 800000 in
theorem indexDel_any (N bp : Nat) (v : Value) (n : Nat) (x y : Nat → Int) (d : Int) (w : World) (h : PairsAt N w v n x y) (hN : N ≤ w.heap.size) (hp : w.cell? ⟨bp, 0, none⟩ = some (.int .i64 d)) (hb : bp < w.heap.size) :
    Calls Try.prog 95 #[v, .func (.func 91) #[] #[.pointer (some ⟨bp, 0, none⟩)]] w fun e w' => e = .returned (.int .i64 (firstI n fun i => decide (x i = d))) ∧ Below w.heap.size w w' := by
  have HP := Lib.hid h
  have HN := Lib.hid hN
  have HPP := Lib.hid hp
  obtain ⟨ao, cap, rfl, hn, _, hc⟩ := h
  clear hc hN hp
  have HB0 : Hid (Below w.heap.size w w) := Below.refl _ _
  go_enter Try.func95, Try.ntmps95
  go_wp2
  go_loopw [8] (fun i wr => ∃ k : Nat, k ≤ n ∧ i = .int .i64 k ∧ Hid (∀ j, j < k → decide (x j = d) = false) ∧ Hid (Below w.heap.size w wr)) (fun i _ => n - (intOf i).toNat)
  case atStart => exact ⟨0, Nat.zero_le _, rfl, fun j hj => absurd hj (Nat.not_lt_zero j), HB0⟩
  case round =>
    obtain ⟨k, hk, rfl, hj, HBr⟩ := hrel
    by_cases hkn : k < n
    · obtain ⟨b1, off, rfl, _, hr⟩ := (HP.out.go HN.out HBr.out).cells (by omega)
      obtain ⟨c0, c1⟩ := hr k hkn
      have HQ := Lib.hid (isOf_any (x k) (y k) d bp wr ((HBr.out.cell (p := ⟨bp, 0, none⟩) hb).trans HPP.out) (Nat.lt_of_lt_of_le hb HBr.out.size))
      clear hr
      cases hxy : decide (x k = d) with
      | true =>
        have HX : Hid _ := Lib.hid hxy
        rw [hxy] at HQ
        clear hxy
        go_wp2_with (go_at_call 91; refine HQ.out.mono ?_; rintro e w' ⟨rfl, hb1⟩)
        go_ret
        exact ⟨ret_int (firstI_spec n _ hkn HX.out hj.out).symm, bel HBr.out hb1⟩
      | false =>
        have HX : Hid _ := Lib.hid hxy
        rw [hxy] at HQ
        clear hxy
        go_wp2_with (go_at_call 91; refine HQ.out.mono ?_; rintro e w' ⟨rfl, hb1⟩)
        go_roundw
        case rel => exact ⟨k + 1, by omega, by go_num, lt_succ hj.out HX.out, bel HBr.out hb1⟩
        case measure => simp [intOf]; omega
    · have Hk : Hid (k = n) := by show k = n; omega
      go_wp2
      go_ret
      exact ⟨ret_int (firstI_none n _ fun j h => hj.out j (by rw [Hk.out]; exact h)).symm, HBr.out⟩

theorem run_clear2 (w : World) (ty : TypeId) (b o n c : Nat) (hn : 0 < n) (hc : ∀ j, j < n * 2 → (w.cell? ⟨b, o + j, none⟩).isSome = true) (hf : ∀ j, j < n * 2 → w.frozen? ⟨b, o + j, none⟩ = false) :
    (Builtin.clear_ #[24] ty #[.slice (some ⟨b, o, none⟩) n c]).run Try.prog w = .ok (.tuple #[]) (w.setCells b o (Builtin.zeroCells #[.int .i64 0, .int .i64 0] n).toList) := by
  have hl : (Builtin.zeroCells #[.int .i64 0, .int .i64 0] n).toList.length = n * 2 := by simp [Builtin.zeroCells]
  have h1 : ∀ v ∈ (Builtin.zeroCells #[.int .i64 0, .int .i64 0] n).toList, v.oneCell' = true := by
    intro v hv
    simp only [Builtin.zeroCells, Array.toList_map, List.mem_map] at hv
    obtain ⟨i, _, rfl⟩ := hv
    have : i % 2 = 0 ∨ i % 2 = 1 := by omega
    rcases this with e | e <;> simp [e] <;> rfl
  have hst := run_storeCells_cells (P := Try.prog) b o _ 0 w (by rw [hl]; exact hc) (by rw [hl]; exact hf) h1
  simp only [Nat.add_zero] at hst
  have hv : ∀ w, (zeroValue 43).run Try.prog w = .ok (.agg #[.int .i64 0, .int .i64 0]) w := by
    intro w
    obtain ⟨i, h1, h2, h3, h4⟩ := info_parts Try.infoW
    simp [zeroValue, typeInfo, h1, h2]
  obtain ⟨m, rfl⟩ : ∃ m, n = m + 1 := ⟨n - 1, by omega⟩
  simp [Builtin.clear_, run_underlying Try.underlying24, hv, Value.cells, hst]

end Go.Proofs.Ytnnngbnimmcjiaa
