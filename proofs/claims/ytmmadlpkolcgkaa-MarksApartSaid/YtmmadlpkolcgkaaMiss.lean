import Derived.Test.YtmmadlpkolcgkaaRef3
import Derived.RangeFuncNested
import Derived.RangeFuncBound
import Derived.RangeFuncCalls
import Derived.RangeFuncLeaves
import Derived.Shelf.Abstract
import Derived.Shelf.RegionOpen
import Derived.OwnWalkIn
import Derived.TacticsInMore
import Derived.LoopNIn
import Derived.LoopIn
namespace Go.Proofs.Ytmmadlpkolcgkaa
open Go.RowKit Go.Shelf

set_option maxHeartbeats 400000 in
theorem looked_any (v1 v2 v3 vw vf : Value) (m : Int) (w : World) :
    Calls Try.prog 106 #[.agg #[v1, v2, v3, vw, vf], .int .i64 m] w fun e w' => e = .returned (.func (.func 107) #[] #[.pointer (some ⟨w.heap.size, 0, none⟩), .pointer (some ⟨w.heap.size + 1, 0, none⟩)]) ∧ w' = (w.alloc (.cells #[v1, v2, v3, vw, vf] 93)).alloc (.cells #[.int .i64 m] 3) := by
  go_enter Try.func106, Try.ntmps106
  go_wp2
  go_ret
  exact ⟨rfl, rfl⟩

attribute [local go_sem] Oper.semAt_some

/-- the fruits below k of which the mark m was looked at, each with the value that was seen -/
def vis (R : Fr) (m : Nat) : Nat → List (Nat × Int)
  | 0 => []
  | k + 1 => if R.X k m = -1 then vis R m k else vis R m k ++ [(k, R.X k m)]
theorem vis_le (R : Fr) (m k : Nat) : (vis R m k).length ≤ k := by
  induction k with
  | zero => simp [vis]
  | succ k ih =>
    unfold vis; split
    · omega
    · simp; omega

/-- of the blocks below M all but Bo are as they were -/
def But (M Bo : Nat) (W W' : World) : Prop := ∀ k, k < M → k ≠ Bo → W'.heap[k]? = W.heap[k]?
theorem But.refl (M Bo : Nat) (W : World) : But M Bo W W := fun _ _ _ => rfl
theorem But.trans {M Bo : Nat} {A B C : World} (h : But M Bo A B) (k : But M Bo B C) : But M Bo A C := fun i h1 h2 => (k i h1 h2).trans (h i h1 h2)
theorem But.cell {M Bo : Nat} {W W' : World} (h : But M Bo W W') {a : Addr} (h1 : a.block < M) (h2 : a.block ≠ Bo) : W'.cell? a = W.cell? a := World.cell?_of_block (w := W) (h a.block h1 h2)

set_option maxRecDepth 100000 in
set_option maxHeartbeats 2000000 in
theorem looked1_in (n : Nat) (hn : 1 ≤ n) (l Bx Bm M Bo N : Nat) (ao : Option Addr) (cap m : Nat) (R : Fr) (hBx : Bx < M) (hBx' : Bx ≠ Bo) (hBm : Bm < M) (hBm' : Bm ≠ Bo) (hNM : N ≤ M) (hNB : N ≤ Bo)
    (J Jx : List (Nat × Int) → World → Prop)
    (hY : ∀ pre x W, J pre W → pre.length < R.n → YieldAt Fence.wide (n - 1) Try.prog l #[.int .i64 (x.1 : Int), .int .i64 x.2] W fun e W' =>
      (e = .returned (.bool true) ∧ J (pre ++ [x]) W' ∧ But M Bo W W') ∨ (e = .returned (.bool false) ∧ Jx (pre ++ [x]) W'))
    (W : World) (hcx : W.cell? ⟨Bx, 4, none⟩ = some (.slice ao R.n cap)) (hcm : W.cell? ⟨Bm, 0, none⟩ = some (.int .i64 m)) (hf : FruitsAt N W (.slice ao R.n cap) R) (hm : ∀ f, f < R.n → m < R.L f) (h0 : J [] W) :
    CallsIn Fence.wide n Try.prog 107 #[.func (.yield l) #[] #[], .pointer (some ⟨Bx, 0, none⟩), .pointer (some ⟨Bm, 0, none⟩)] W fun e W' => (∃ v, e = .returned v) ∧
      ((∃ ys, ys = vis R m R.n ∧ J ys W') ∨ (∃ pre, True ∧ Jx pre W')) := by
  obtain ⟨_, _, e0, hnR, hc⟩ := hf
  cases e0
  have HC : Hid _ := Lib.hid hc
  have HM : Hid _ := Lib.hid hm
  have HY : Hid _ := Lib.hid hY
  clear hc hm hY
  refine callsIn_of_wp Try.func107 rfl trivial ?_ rfl
  simp only [Try.ntmps107, List.size_toArray, List.length_cons, List.length_nil, Nat.reduceAdd, Nat.reduceSub, Array.replicate_succ, Array.replicate_zero, List.push_toArray, List.append_toArray, List.nil_append, List.cons_append]
  gi_wp2
  gi_loopw [9] (fun i wr => ∃ k : Nat, k ≤ R.n ∧ i = .int .i64 k ∧ Hid (J (vis R m k) wr) ∧ Hid (But M Bo W wr))
    (fun i _ => R.n - (intOf i).toNat)
  case atStart => exact ⟨0, Nat.zero_le _, rfl, h0, But.refl _ _ _⟩
  case round =>
    obtain ⟨k, hk, rfl, hJs, hnx⟩ := hrel
    have hcm2 : wr.cell? ⟨Bm, 0, none⟩ = some (.int .i64 m) := (hnx.out.cell (a := ⟨Bm, 0, none⟩) hBm hBm').trans hcm
    by_cases hlt : k < R.n
    · obtain ⟨b, off, rfl, hb, hr⟩ := HC.out (by omega)
      obtain ⟨r, hcell, ao2, cap2, rfl, hL, hr2⟩ := hr k hlt
      have hmk := HM.out k hlt
      obtain ⟨b2, off2, rfl, hb2, hr3⟩ := hr2 (by omega)
      obtain ⟨r3, hcell3, rfl⟩ := hr3 m hmk
      replace hcell := (hnx.out.cell (a := ⟨b, off + k, none⟩) (by show b < _; omega) (by show b ≠ _; omega)).trans hcell
      replace hcell3 := (hnx.out.cell (a := ⟨b2, off2 + m, none⟩) (by show b2 < _; omega) (by show b2 ≠ _; omega)).trans hcell3
      clear hr hr2 hr3
      by_cases hx : R.X k m = -1
      · have hxe : (R.X k m != -1) = false := by simp [hx]
        have HX : Hid (R.X k m = -1) := hx
        clear hx
        gi_wp2
        refine ⟨fun _ h => (by cases h), ?_⟩
        gi_wp2
        go_roundw
        case rel => exact ⟨k + 1, by omega, by simp, by unfold Hid vis; rw [if_pos HX.out]; exact hJs.out, hnx⟩
        case measure => simp [intOf]; omega
      · have hxe : (R.X k m != -1) = true := by simp [hx]
        have HX : Hid (¬ R.X k m = -1) := hx
        clear hx
        obtain ⟨fn, tmps, assign, body, hy, hR⟩ := HY.out _ (k, R.X k m) wr hJs.out (by have := vis_le R m k; omega)
        dsimp only at hy
        gi_wp2
        refine hR.mono ?_
        rintro e W3 (⟨rfl, hJ3, hk3⟩ | ⟨rfl, hJx3⟩)
        · gi_wp2
          go_roundw
          case rel => exact ⟨k + 1, by omega, by simp, by unfold Hid vis; rw [if_neg HX.out]; exact hJ3, hnx.out.trans hk3⟩
          case measure => simp [intOf]; omega
        · gi_wp2
          refine bodyPost_ret (results_none rfl _ _ _) rfl ?_
          exact ⟨⟨_, rfl⟩, .inr ⟨_, trivial, hJx3⟩⟩
    · have Hk : Hid (k = R.n) := by show k = R.n; omega
      gi_wp2
      go_end0
      exact ⟨⟨_, rfl⟩, .inl ⟨_, rfl, by rw [← Hk.out]; exact hJs.out⟩⟩

end Go.Proofs.Ytmmadlpkolcgkaa
