/-
  Miss: contracts of the functions that its theorems name.
-/
import Derived.Test.YtopajgnemeodeaaRef1
import Derived.RangeFuncNested
import Derived.RangeFuncBound
import Derived.RangeFuncCalls
import Derived.RangeFuncLeaves
import Derived.Shelf.Abstract
import Derived.Shelf.RegionOpen
import Derived.OwnWalkIn
import Derived.TacticsInMore
import Derived.LoopNIn
import Derived.LoopIn
namespace Go.Proofs.Ytopajgnemeodeaa
open Go.RowKit Go.Shelf

set_option maxHeartbeats 400000 in
theorem looked_any (v1 v2 v3 vw vf : Value) (m : Int) (w : World) :
    Calls Try.prog 106 #[.agg #[v1, v2, v3, vw, vf], .int .i64 m] w fun e w' => e = .returned (.func (.func 107) #[] #[.pointer (some ⟨w.heap.size, 0, none⟩), .pointer (some ⟨w.heap.size + 1, 0, none⟩)]) ∧ w' = (w.alloc (.cells #[v1, v2, v3, vw, vf] 93)).alloc (.cells #[.int .i64 m] 3) := by
  go_enter Try.func106, Try.ntmps106
  go_wp2
  go_ret
  exact ⟨rfl, rfl⟩

attribute [local go_sem] Oper.semAt_some

/-- the fruits below k of which the mark m was looked at, each with the value that was seen -/
def vis (R : Fr) (m : Nat) : Nat → List (Nat × Int)
  | 0 => []
  | k + 1 => if R.X k m = -1 then vis R m k else vis R m k ++ [(k, R.X k m)]
theorem vis_le (R : Fr) (m k : Nat) : (vis R m k).length ≤ k := by
  induction k with
  | zero => simp [vis]
  | succ k ih =>
    unfold vis; split
    · omega
    · simp; omega

/-- of the blocks below M all but Bo are as they were -/
def But (M Bo : Nat) (W W' : World) : Prop := ∀ k, k < M → k ≠ Bo → W'.heap[k]? = W.heap[k]?
theorem But.refl (M Bo : Nat) (W : World) : But M Bo W W := fun _ _ _ => rfl
theorem But.trans {M Bo : Nat} {A B C : World} (h : But M Bo A B) (k : But M Bo B C) : But M Bo A C := fun i h1 h2 => (k i h1 h2).trans (h i h1 h2)
theorem But.cell {M Bo : Nat} {W W' : World} (h : But M Bo W W') {a : Addr} (h1 : a.block < M) (h2 : a.block ≠ Bo) : W'.cell? a = W.cell? a := World.cell?_of_block (w := W) (h a.block h1 h2)

set_option maxRecDepth 100000 in
set_option maxHeartbeats 2000000 in
theorem looked1_in (n : Nat) (hn : 1 ≤ n) (l Bx Bm M Bo N : Nat) (ao : Option Addr) (cap m : Nat) (R : Fr) (hBx : Bx < M) (hBx' : Bx ≠ Bo) (hBm : Bm < M) (hBm' : Bm ≠ Bo) (hNM : N ≤ M) (hNB : N ≤ Bo)
    (J Jx : List (Nat × Int) → World → Prop)
    (hY : ∀ pre x W, J pre W → pre.length < R.n → YieldAt Fence.wide (n - 1) Try.prog l #[.int .i64 (x.1 : Int), .int .i64 x.2] W fun e W' =>
      (e = .returned (.bool true) ∧ J (pre ++ [x]) W' ∧ But M Bo W W') ∨ (e = .returned (.bool false) ∧ Jx (pre ++ [x]) W'))
    (W : World) (hcx : W.cell? ⟨Bx, 4, none⟩ = some (.slice ao R.n cap)) (hcm : W.cell? ⟨Bm, 0, none⟩ = some (.int .i64 m)) (hf : FruitsAt N W (.slice ao R.n cap) R) (hm : ∀ f, f < R.n → m < R.L f) (h0 : J [] W) :
    CallsIn Fence.wide n Try.prog 107 #[.func (.yield l) #[] #[], .pointer (some ⟨Bx, 0, none⟩), .pointer (some ⟨Bm, 0, none⟩)] W fun e W' => (∃ v, e = .returned v) ∧
      ((∃ ys, ys = vis R m R.n ∧ J ys W') ∨ (∃ pre, True ∧ Jx pre W')) := by
  obtain ⟨_, _, e0, hnR, hc⟩ := hf
  cases e0
  have HC : Hid _ := Lib.hid hc
  have HM : Hid _ := Lib.hid hm
  have HY : Hid _ := Lib.hid hY
  clear hc hm hY
  refine callsIn_of_wp Try.func107 rfl trivial ?_ rfl
  simp only [Try.ntmps107, List.size_toArray, List.length_cons, List.length_nil, Nat.reduceAdd, Nat.reduceSub, Array.replicate_succ, Array.replicate_zero, List.push_toArray, List.append_toArray, List.nil_append, List.cons_append]
  gi_wp2
  gi_loopw [9] (fun i wr => ∃ k : Nat, k ≤ R.n ∧ i = .int .i64 k ∧ Hid (J (vis R m k) wr) ∧ Hid (But M Bo W wr))
    (fun i _ => R.n - (intOf i).toNat)
  case atStart => exact ⟨0, Nat.zero_le _, rfl, h0, But.refl _ _ _⟩
  case round =>
    obtain ⟨k, hk, rfl, hJs, hnx⟩ := hrel
    have hcm2 : wr.cell? ⟨Bm, 0, none⟩ = some (.int .i64 m) := (hnx.out.cell (a := ⟨Bm, 0, none⟩) hBm hBm').trans hcm
    by_cases hlt : k < R.n
    · obtain ⟨b, off, rfl, hb, hr⟩ := HC.out (by omega)
      obtain ⟨r, hcell, ao2, cap2, rfl, hL, hr2⟩ := hr k hlt
      have hmk := HM.out k hlt
      obtain ⟨b2, off2, rfl, hb2, hr3⟩ := hr2 (by omega)
      obtain ⟨r3, hcell3, rfl⟩ := hr3 m hmk
      replace hcell := (hnx.out.cell (a := ⟨b, off + k, none⟩) (by show b < _; omega) (by show b ≠ _; omega)).trans hcell
      replace hcell3 := (hnx.out.cell (a := ⟨b2, off2 + m, none⟩) (by show b2 < _; omega) (by show b2 ≠ _; omega)).trans hcell3
      clear hr hr2 hr3
      by_cases hx : R.X k m = -1
      · have hxe : (R.X k m != -1) = false := by simp [hx]
        have HX : Hid (R.X k m = -1) := hx
        clear hx
        gi_wp2
        refine ⟨fun _ h => (by cases h), ?_⟩
        gi_wp2
        go_roundw
        case rel => exact ⟨k + 1, by omega, by simp, by unfold Hid vis; rw [if_pos HX.out]; exact hJs.out, hnx⟩
        case measure => simp [intOf]; omega
      · have hxe : (R.X k m != -1) = true := by simp [hx]
        have HX : Hid (¬ R.X k m = -1) := hx
        clear hx
        obtain ⟨fn, tmps, assign, body, hy, hR⟩ := HY.out _ (k, R.X k m) wr hJs.out (by have := vis_le R m k; omega)
        dsimp only at hy
        gi_wp2
        refine hR.mono ?_
        rintro e W3 (⟨rfl, hJ3, hk3⟩ | ⟨rfl, hJx3⟩)
        · gi_wp2
          go_roundw
          case rel => exact ⟨k + 1, by omega, by simp, by unfold Hid vis; rw [if_neg HX.out]; exact hJ3, hnx.out.trans hk3⟩
          case measure => simp [intOf]; omega
        · gi_wp2
          refine bodyPost_ret (results_none rfl _ _ _) rfl ?_
          exact ⟨⟨_, rfl⟩, .inr ⟨_, trivial, hJx3⟩⟩
    · have Hk : Hid (k = R.n) := by show k = R.n; omega
      gi_wp2
      go_end0
      exact ⟨⟨_, rfl⟩, .inl ⟨_, rfl, by rw [← Hk.out]; exact hJs.out⟩⟩

end Go.Proofs.Ytopajgnemeodeaa

namespace Go.Proofs.Ytopajgnemeodeaa
open Go.RowKit Go.Shelf

attribute [local go_sem] Oper.semAt_some

theorem keeps_below {W W' : World} (h : Below W.heap.size W W') : KeepsOthers W W' :=
  ⟨h.size, fun k o hk _ => (h.block k (Array.getElem?_eq_some_iff.1 hk).1).trans hk⟩

/-- of the fruits of which the mark was looked at: how many values are not right -/
def bad (R : Fr) (m : Nat) (r : Nat → Int → Bool) (k : Nat) : Nat := cnt k fun f => decide (R.X f m ≠ -1) && !r f (R.X f m)

theorem bad_vis (R : Fr) (m : Nat) (r : Nat → Int → Bool) (k : Nat) : ((vis R m k).filter fun x => !r x.1 x.2).length = bad R m r k := by
  unfold bad
  induction k with
  | zero => rfl
  | succ k ih =>
    unfold vis cnt
    split
    · rename_i h; rw [ih]; simp [h]
    · rename_i h
      rw [List.filter_append, List.length_append, ih]
      cases hr : r k (R.X k m) <;> simp [hr, h]

set_option maxRecDepth 100000 in
set_option maxHeartbeats 4000000 in
theorem misses_any (N m : Nat) (v1 v2 v3 vw : Value) (lb : Array Value) (ao : Option Addr) (cap : Nat) (R : Fr) (r : Nat → Int → Bool) (w : World) (hN : N ≤ w.heap.size)
    (hf : FruitsAt N w (.slice ao R.n cap) R) (hm : ∀ f, f < R.n → m < R.L f)
    (hright : ∀ (W : World) (f : Nat) (s : Int), Below w.heap.size w W → Calls Try.prog 105 (#[.int .i64 f, .int .i64 s] ++ lb) W fun e W' => e = .returned (.bool (r f s)) ∧ Below W.heap.size W W') :
    Calls Try.prog 104 #[.agg #[v1, v2, v3, vw, .slice ao R.n cap], .int .i64 m, .func (.func 105) #[] lb] w fun e W' => e = .returned (.int .i64 (bad R m r R.n)) ∧ Below w.heap.size w W' := by
  have hlen := RowsAt.len hf
  have HR : Hid _ := Lib.hid hright
  have HF : Hid _ := Lib.hid hf
  have HM : Hid _ := Lib.hid hm
  clear hright hf hm
  refine (callsIn_wide (n := 3)).1 ?_
  refine callsIn_of_wp_marks Try.func104 rfl trivial ?_ rfl
  simp only [Try.ntmps104, List.size_toArray, List.length_cons, List.length_nil, Nat.reduceAdd, Nat.reduceSub, Array.replicate_succ, Array.replicate_zero, List.push_toArray, List.append_toArray, List.nil_append, List.cons_append]
  gi_wp2_with (refine ⟨trivial, ?_⟩; gi_at_call 106; refine (callsIn_wide.2 (looked_any _ _ _ _ _ _ _)).mono ?_; rintro e w' ⟨rfl, rfl⟩)
  obtain ⟨ws, hws⟩ : ∃ ws : World, (((((w.alloc (.cells #[v1, v2, v3, vw, .slice ao R.n cap] 93)).alloc (.cells #[.func (.func 105) #[] lb] 106)).alloc (.cells #[.int .i64 0] 3)).alloc (.cells #[v1, v2, v3, vw, .slice ao R.n cap] 93)).alloc (.cells #[.int .i64 m] 3)) = ws := ⟨_, rfl⟩
  have hsz : ws.heap.size = w.heap.size + 5 := by rw [← hws]; simp
  have hB0 : Below w.heap.size w ws := by
    rw [← hws]; exact (((((Below.refl _ w).alloc (Nat.le_refl _) _).alloc (by simp) _).alloc (by simp; omega) _).alloc (by simp; omega) _).alloc (by simp; omega) _
  have hcm : ws.cell? ⟨w.heap.size + 1 + 1, 0, none⟩ = some (.int .i64 0) ∧ ws.frozen? ⟨w.heap.size + 1 + 1, 0, none⟩ = false := by
    rw [← hws]; constructor <;> simp [go_sem]
  have hcr : ws.cell? ⟨w.heap.size + 1, 0, none⟩ = some (.func (.func 105) #[] lb) := by
    rw [← hws]; simp [go_sem]
  have hcx : ws.cell? ⟨w.heap.size + 1 + 1 + 1, 4, none⟩ = some (.slice ao R.n cap) := by
    rw [← hws]; simp [go_sem]
  have hck : ws.cell? ⟨w.heap.size + 1 + 1 + 1 + 1, 0, none⟩ = some (.int .i64 m) := by
    rw [← hws]; simp [go_sem]
  rw [hws]
  clear hws
  refine wpIn_rangeFunc_ownF (N := R.n) (S := fun ys => ys = vis R m R.n) (Sp := fun _ => True) (Kp := But (w.heap.size + 5) (w.heap.size + 2)) (encs := fun x : Nat × Int => #[.int .i64 (x.1 : Int), .int .i64 x.2]) (w0 := ws) rfl (by omega) (gf := 107) (lb := #[.pointer (some ⟨w.heap.size + 1 + 1 + 1, 0, none⟩), .pointer (some ⟨w.heap.size + 1 + 1 + 1 + 1, 0, none⟩)]) rfl trivial (enters_of Try.func107 (by kernel_rfl) rfl)
    (fun l J Jx W hW _ _ hY h0 => looked1_in 2 (by omega) l (w.heap.size + 3) (w.heap.size + 4) (w.heap.size + 5) (w.heap.size + 2) N ao cap m R (by omega) (by omega) (by omega) (by omega) (by omega) (by omega) J Jx hY W
      ((hW.cell (p := ⟨w.heap.size + 3, 4, none⟩) (by show w.heap.size + 3 < _; omega)).trans hcx) ((hW.cell (p := ⟨w.heap.size + 4, 0, none⟩) (by show w.heap.size + 4 < _; omega)).trans hck)
      (RowsAt.mono HF.out ((hB0.mono hN).trans (hW.mono (by omega))) (Nat.le_refl _)) HM.out h0)
    (fun h k => h.trans k) (fun W l o o' hl _ _ _ k hk _ => by
      have : k ≠ l := by omega
      exact (grownBy_putObj' W l o').block k (by
        rename_i h1 _ _ _
        have := (Array.getElem?_eq_some_iff.1 h1).1
        omega) (fun e => by cases e; omega))
    (Below.refl _ _) (fun _ => rfl)
    (fun pre W => (W.cell? ⟨w.heap.size + 1 + 1, 0, none⟩ = some (.int .i64 ((pre.filter fun x => !r x.1 x.2).length : Nat)) ∧ W.frozen? ⟨w.heap.size + 1 + 1, 0, none⟩ = false) ∧ Below (w.heap.size + 2) ws W)
    (fun _ _ _ => False)
    (OwnFrom.and (Own.from (fun s A B row hs hg hr => ⟨cell_kept hs.1 hg hr, (frozen_kept hs.1 hg hr).trans hs.2⟩) _) (ownFrom_below (by omega) (by omega)))
    (fun _ _ _ _ _ hs _ _ => hs)
    ⟨hcm, Below.refl _ _⟩
    (fun x => { tmps := #[.agg #[v1, v2, v3, vw, .slice ao R.n cap], .int .i64 m, .func (.func 105) #[] lb, .pointer (some ⟨w.heap.size, 0, none⟩), undef, .pointer (some ⟨w.heap.size + 1, 0, none⟩), .int .i64 0, .pointer (some ⟨w.heap.size + 1 + 1, 0, none⟩), .int .i64 (x.1 : Int), .int .i64 x.2, .agg #[v1, v2, v3, vw, .slice ao R.n cap], .int .i64 m,
      .func (.func 107) #[] #[.pointer (some ⟨w.heap.size + 1 + 1 + 1, 0, none⟩), .pointer (some ⟨w.heap.size + 1 + 1 + 1 + 1, 0, none⟩)], .int .i64 (x.1 : Int), .int .i64 x.2, undef, undef, undef, undef, undef, undef, undef, undef], defers := [] }) ?assign ?body ?done ?stop
  case assign =>
    intro l x W K hK
    gi_wp2
    exact hK
  case body =>
    rintro l pre x W ⟨⟨hc, hfz⟩, hB⟩ hpl
    have hcr2 : W.cell? ⟨w.heap.size + 1, 0, none⟩ = some (.func (.func 105) #[] lb) := (hB.cell (p := ⟨w.heap.size + 1, 0, none⟩) (by show w.heap.size + 1 < _; omega)).trans hcr
    have hWs : w.heap.size + 5 ≤ W.heap.size := by have := hB.size; omega
    have hlt : ((pre.filter fun x => !r x.1 x.2).length : Int) ≤ 140737488351232 := by
      have := List.length_filter_le (fun x : Nat × Int => !r x.1 x.2) pre; omega
    have HW : Hid (Below w.heap.size w W) := hB0.trans (hB.mono (by omega))
    cases hrx : r x.1 x.2 with
    | true =>
      have HX : Hid _ := Lib.hid hrx
      have HE : Hid (((pre ++ [x]).filter (fun x => !r x.1 x.2)).length = (pre.filter fun x => !r x.1 x.2).length) := by
        unfold Hid; rw [List.filter_append]; simp [hrx]
      clear hrx
      generalize (pre.filter fun x => !r x.1 x.2).length = c at *
      gi_wp2_with (refine ⟨trivial, ?_⟩; gi_at_call 105; refine (CallsIn.inRound l (callsIn_wide.2 (HR.out _ _ _ HW.out))).mono ?_; rintro e w1 ⟨rfl, hb1⟩; rw [HX.out]; have hc1 := (hb1.cell (p := ⟨w.heap.size + 1 + 1, 0, none⟩) (by show w.heap.size + 1 + 1 < _; omega)).trans hc; have hfz1 := (hb1.frozen (p := ⟨w.heap.size + 1 + 1, 0, none⟩) (by show w.heap.size + 1 + 1 < _; omega)).trans hfz)
      exact ⟨keeps_below hb1, fun k h1 _ => hb1.block k (by omega), ⟨by rw [HE.out]; exact hc1, hfz1⟩, hB.trans (hb1.mono (by omega))⟩
    | false =>
      have HX : Hid _ := Lib.hid hrx
      have HE : Hid (((pre ++ [x]).filter (fun x => !r x.1 x.2)).length = (pre.filter fun x => !r x.1 x.2).length + 1) := by
        unfold Hid; rw [List.filter_append]; simp [hrx]
      clear hrx
      generalize (pre.filter fun x => !r x.1 x.2).length = c at *
      gi_wp2_with (refine ⟨trivial, ?_⟩; gi_at_call 105; refine (CallsIn.inRound l (callsIn_wide.2 (HR.out _ _ _ HW.out))).mono ?_; rintro e w1 ⟨rfl, hb1⟩; rw [HX.out]; have hc1 := (hb1.cell (p := ⟨w.heap.size + 1 + 1, 0, none⟩) (by show w.heap.size + 1 + 1 < _; omega)).trans hc; have hfz1 := (hb1.frozen (p := ⟨w.heap.size + 1 + 1, 0, none⟩) (by show w.heap.size + 1 + 1 < _; omega)).trans hfz)
      exact ⟨(keeps_below hb1).trans (KeepsOthers.setCell _ _ _), But.trans (fun k h1 _ => hb1.block k (by omega)) (fun k _ h => Below.heap_setCell _ _ _ _ h), ⟨by rw [HE.out]; exact World.cell?_setCell_same' _ _ _ (by rw [hc1]; rfl), by rw [World.frozen?_setCell]; exact hfz1⟩, (hB.trans (hb1.mono (by omega))).setCell (p := ⟨w.heap.size + 1 + 1, 0, none⟩) (Nat.le_refl _) _⟩
  case done =>
    rintro D ys W hD rfl ⟨⟨hc, _⟩, hB⟩ hK
    rw [bad_vis] at hc
    gi_wp2
    refine ⟨by simp, .inl ⟨_, _, rfl, run_takeDeferred hK, ?_⟩⟩
    exact ⟨_, results_tmp rfl _ _ _, rfl, (hB0.trans (hB.mono (by omega))).trans (belowK_b (w := w) (Nat.le_refl _) W D _ _ (by omega) hK rfl rfl)⟩
  case stop =>
    rintro D c pre W hD _ h _
    exact h.elim

end Go.Proofs.Ytopajgnemeodeaa
