/-
  Parts: parts of a cube; lists of cubes.
-/
import Derived.Test.YtbieglmpkljjjaaOneEnd2
import Derived.Test.YtbieglmpkljjjaaKeyC
namespace Go.Proofs.Ytbieglmpkljjjaa
open Go.RowKit

theorem Try.infoCube : (Try.prog.info? 94).map (fun i => (i.zero, i.size, i.bytes)) = some (some (.agg #[.int .i64 0, .int .i64 0, .int .i64 0, .int .i64 0, .int .i64 0]), 5, 40) := by kernel_rfl
def cubeA (c : Nat → Int) : Array Value := #[.int .i64 (c 0), .int .i64 (c 1), .int .i64 (c 2), .int .i64 (c 3), .int .i64 (c 4)]
theorem cubeA_get (c : Nat → Int) {i : Nat} (h : i < 5) : (cubeA c)[i]? = some (.int .i64 (c i)) := by
  have : i = 0 ∨ i = 1 ∨ i = 2 ∨ i = 3 ∨ i = 4 := by omega
  rcases this with rfl | rfl | rfl | rfl | rfl <;> rfl
theorem cubeA_set (c : Nat → Int) {i : Nat} (h : i < 5) (v : Int) : (cubeA c).setIfInBounds i (.int .i64 v) = cubeA (upd c i v) := by
  have : i = 0 ∨ i = 1 ∨ i = 2 ∨ i = 3 ∨ i = 4 := by omega
  rcases this with rfl | rfl | rfl | rfl | rfl <;> simp [cubeA, upd]
def flatC (cs : List (Nat → Int)) : List Value := cs.flatMap fun c => (cubeA c).toList
theorem flatC_snoc (cs : List (Nat → Int)) (c : Nat → Int) : flatC (cs ++ [c]) = flatC cs ++ (cubeA c).toList := by simp [flatC]
theorem flatC_len (cs : List (Nat → Int)) : (flatC cs).length = cs.length * 5 := by
  induction cs with
  | nil => rfl
  | cons a l ih =>
    have : flatC (a :: l) = (cubeA a).toList ++ flatC l := rfl
    rw [this, List.length_append, ih]
    simp [cubeA]; omega
theorem flatC_get : ∀ (cs : List (Nat → Int)) (y i : Nat) (c : Nat → Int), cs[y]? = some c → i < 5 → (flatC cs)[y * 5 + i]? = some (.int .i64 (c i)) := by
  intro cs
  induction cs with
  | nil => intro y i c h; cases h
  | cons a l ih =>
    intro y i c h hi
    have e : flatC (a :: l) = (cubeA a).toList ++ flatC l := rfl
    have hl : (cubeA a).toList.length = 5 := rfl
    rw [e]
    cases y with
    | zero =>
      obtain rfl : a = c := by simpa using h
      rw [List.getElem?_append_left (by rw [hl]; omega), Nat.zero_mul, Nat.zero_add]
      have := cubeA_get a hi
      simpa using this
    | succ y =>
      rw [List.getElem?_append_right (by rw [hl]; omega), hl, show (y + 1) * 5 + i - 5 = y * 5 + i by omega]
      exact ih y i c (by simpa using h) hi

/-- v is a list of q cubes -/
def CubesIn (N : Nat) (w : World) (v : Value) (q : Nat) (C : Nat → Nat → Int) : Prop :=
  ∃ g cap, v = .slice (some ⟨g, 0, none⟩) q cap ∧ N ≤ g ∧ g < w.heap.size ∧ ∀ y, y < q → ∀ i, i < 5 → w.cell? ⟨g, y * 5 + i, none⟩ = some (.int .i64 (C y i))
theorem own_cubes {N : Nat} {w : World} {v : Value} {cs : List (Nat → Int)} {q : Nat} {C : Nat → Nat → Int} (h : w.ownsRow N 94 5 v q (flatC cs)) (hq : 0 < q) (hC : ∀ y, y < q → cs[y]? = some (C y)) : CubesIn N w v q C := by
  obtain ⟨h1, ⟨rfl, h2⟩ | ⟨g, cap, cur, rfl, h3, h4, h5⟩⟩ := id h
  · omega
  · refine ⟨g, cap, rfl, h3, heap_lt h4, fun y hy i hi => ?_⟩
    have := World.ownsRow.cells h rfl (y * 5 + i) _ (flatC_get cs y i _ (hC y hy) hi)
    rw [addrAdd, Nat.zero_add] at this
    exact this
theorem own_mono' {N N' : Nat} {w : World} {v : Value} {q : Nat} {C : Nat → Nat → Int} (h : CubesIn N w v q C) (hN : N' ≤ N) : CubesIn N' w v q C := by
  obtain ⟨g, cap, e, h1, h2, h3⟩ := h
  exact ⟨g, cap, e, Nat.le_trans hN h1, h2, h3⟩
theorem own_setZ {W : World} {base hi n i size : Nat} {e : TypeId} {v : Value} {xs : List Value} (h : W.ownsRow base e size v n xs) (hhl : hi < base) (x : Value) : (W.setCell ⟨hi, i, none⟩ x).ownsRow base e size v n xs := by
  obtain ⟨h1, h2 | ⟨g, cap, cur, e1, h3, h4, h5⟩⟩ := h
  · exact ⟨h1, .inl h2⟩
  · refine ⟨h1, .inr ⟨g, cap, cur, e1, h3, ?_, h5⟩⟩
    rw [Below.heap_setCell _ _ _ _ (by show g ≠ hi; omega)]
    exact h4
theorem cells_new {w : World} {cs : Array Value} {T : TypeId} : ∀ j u, cs.toList[j]? = some u → (w.alloc (.cells cs T)).cell? ((⟨w.heap.size, 0, none⟩ : Addr).add j) = some u := fun j u h => by
  rw [addrAdd, Nat.zero_add]
  exact cell_blk (World.alloc_heap_new w (.cells cs T)) j (by simpa using h)
def partsTo (c : Nat → Int) (m y : Nat) : List (Nat → Int) := (List.range y).map fun v : Nat => upd c m (v : Int)
theorem partsTo_succ (c : Nat → Int) (m y : Nat) : partsTo c m (y + 1) = partsTo c m y ++ [upd c m (y : Int)] := by simp [partsTo, List.range_succ]
theorem cubeA_congr {c d : Nat → Int} (h : ∀ i, i < 5 → c i = d i) : cubeA c = cubeA d := by
  unfold cubeA
  rw [h 0 (by omega), h 1 (by omega), h 2 (by omega), h 3 (by omega), h 4 (by omega)]
theorem store_cube {w : World} {g m : Nat} {d : Nat → Int} {T : TypeId} (h : w.heap[g]? = some (Obj.cells (cubeA d) T (0, 0))) (hm : m < 5) (v : Int) : (w.setCell ⟨g, m, none⟩ (.int .i64 v)).heap[g]? = some (Obj.cells (cubeA (upd d m v)) T (0, 0)) := by
  rw [← cubeA_set d hm v]
  exact setCell_heap_same h _

/-- the parts of a cube -/
def partQ (B : KB) (c : Nat → Int) (m : Nat) : Nat := if c m = -1 then (B.V m).toNat else 1
def partC (c : Nat → Int) (m y : Nat) : Nat → Int := if c m = -1 then upd c m (y : Int) else c

set_option maxRecDepth 100000 in
set_option maxHeartbeats 3200000 in
theorem partsOne_any (c : Nat → Int) (m : Nat) (V : Int) (w : World) (hm : m < 5) (hc : c m ≠ -1) :
    Calls Try.prog 115 #[cubeV c, .int .i64 m, .int .i64 V] w fun e w' => ∃ v', e = .returned v' ∧ CubesIn w.heap.size w' v' 1 (fun _ => c) ∧ Below w.heap.size w w' := by
  obtain ⟨ws, hws, HB, hsz, hblk⟩ := box1 w (.cells #[.int .i64 (c 0), .int .i64 (c 1), .int .i64 (c 2), .int .i64 (c 3), .int .i64 (c 4)] 94)
  have q0 := cell_blk hblk 0 rfl
  have q1 := cell_blk hblk 1 rfl
  have q2 := cell_blk hblk 2 rfl
  have q3 := cell_blk hblk 3 rfl
  have q4 := cell_blk hblk 4 rfl
  have qm : ws.cell? ⟨w.heap.size, m, none⟩ = some (.int .i64 (c m)) := cell_blk hblk m (cubeA_get c hm)
  have hmi : (m : Int) < 5 := by omega
  have hcb : (c m != -1) = true := by simp [hc]
  clear hblk
  unfold cubeV
  go_enter Try.func115, Try.ntmps115
  go_wp2
  go_ret
  have hb := below_alloc (Nat.le_refl ws.heap.size) (.cells (cubeA c) 94)
  refine ⟨_, rfl, ⟨ws.heap.size, 1, rfl, Nat.le_of_lt hsz, by simp, fun y hy i hi => ?_⟩, fin HB.out hb⟩
  have hy0 : y = 0 := by omega
  subst hy0
  rw [Nat.zero_mul, Nat.zero_add]
  exact cell_blk (World.alloc_heap_new ws (.cells (cubeA c) 94)) i (cubeA_get c hi)

set_option maxRecDepth 100000 in
set_option maxHeartbeats 3200000 in
theorem partsAll_any (c : Nat → Int) (m q : Nat) (w : World) (hm : m < 5) (hc : c m = -1) (hq : 0 < q) (hq3 : q ≤ 3) :
    Calls Try.prog 115 #[cubeV c, .int .i64 m, .int .i64 q] w fun e w' => ∃ v', e = .returned v' ∧ CubesIn w.heap.size w' v' q (fun y => upd c m (y : Int)) ∧ Below w.heap.size w w' := by
  obtain ⟨i1, hi1, hz1, hz2, hz3⟩ := info_parts Try.infoCube
  obtain ⟨ws, hws, HB, hsz, hblk⟩ := box1 w (.cells #[.int .i64 (c 0), .int .i64 (c 1), .int .i64 (c 2), .int .i64 (c 3), .int .i64 (c 4)] 94)
  have qm : ws.cell? ⟨w.heap.size, m, none⟩ = some (.int .i64 (c m)) := cell_blk hblk m (cubeA_get c hm)
  have hmi : (m : Int) < 5 := by omega
  have hcb : (c m != -1) = false := by simp [hc]
  have HK : Hid (ws.heap[w.heap.size]? = some (Obj.cells (cubeA c) 94 (0, 0))) := hblk
  have HBws : Hid (Below ws.heap.size ws ws) := Below.refl _ _
  have HM := Lib.hid hm
  have hnil : Hid (ws.ownsRow ws.heap.size 94 5 (.slice none 0 0) 0 (flatC (partsTo c m 0))) := World.ownsRow_nil _ _ _ _
  clear hblk hc
  unfold cubeV
  go_enter Try.func115, Try.ntmps115
  go_wp2
  (try rw [hws])
  clear hws
  go_loopw [7, 16] (fun t i wr => ∃ (y : Nat) (d : Nat → Int), y ≤ q ∧ i = .int .i64 y ∧ Hid (∀ j, j ≠ m → d j = c j) ∧ Hid (wr.heap[w.heap.size]? = some (Obj.cells (cubeA d) 94 (0, 0))) ∧ Hid (wr.ownsRow ws.heap.size 94 5 t y (flatC (partsTo c m y))) ∧ Hid (Below w.heap.size w wr ∧ ws.heap.size ≤ wr.heap.size)) (fun _ i _ => q - (intOf i).toNat)
  case atStart => exact ⟨0, c, Nat.zero_le _, rfl, fun _ _ => rfl, HK, hnil, HB.out, Nat.le_refl _⟩
  case round =>
  obtain ⟨y, d, hy, rfl, HD, HC, HO, HBr⟩ := hrel
  by_cases hyq : y < q
  · have hyi : (y : Int) < (q : Int) := by omega
    have hfz := frozen_blk HC.out m
    have hcm : wr.cell? ⟨w.heap.size, m, none⟩ = some (.int .i64 (d m)) := cell_blk HC.out m (cubeA_get d HM.out)
    have HYQ := Lib.hid hyq
    clear hyq hy
    go_upto_region 8 with fail
    obtain ⟨e, he⟩ : ∃ e, upd d m (y : Int) = e := ⟨_, rfl⟩
    have hcn := store_cube HC.out HM.out (y : Int)
    have hown := own_setZ (i := m) HO.out hsz (.int .i64 (y : Int))
    have hbn : Below w.heap.size w (wr.setCell ⟨w.heap.size, m, none⟩ (.int .i64 (y : Int))) := HBr.out.1.setCell (p := ⟨w.heap.size, m, none⟩) (Nat.le_refl _) _
    have hsn : ws.heap.size ≤ (wr.setCell ⟨w.heap.size, m, none⟩ (.int .i64 (y : Int))).heap.size := by simpa [World.setCell] using HBr.out.2
    obtain ⟨wn, hwn⟩ : ∃ wn, wr.setCell ⟨w.heap.size, m, none⟩ (.int .i64 (y : Int)) = wn := ⟨_, rfl⟩
    rw [he, hwn] at hcn
    rw [hwn] at hown hbn hsn ⊢
    have q0 := cell_blk hcn 0 (cubeA_get e (by omega))
    have q1 := cell_blk hcn 1 (cubeA_get e (by omega))
    have q2 := cell_blk hcn 2 (cubeA_get e (by omega))
    have q3 := cell_blk hcn 3 (cubeA_get e (by omega))
    have q4 := cell_blk hcn 4 (cubeA_get e (by omega))
    have HCN := Lib.hid hcn
    have HBN := Lib.hid hbn
    have hwsn : w.heap.size < wn.heap.size := heap_lt hcn
    have HE1 : Hid (∀ j, j ≠ m → e j = c j) := fun j hj => by rw [← he, upd_other _ _ hj]; exact HD.out j hj
    have HFL : Hid (flatC (partsTo c m (y + 1)) = flatC (partsTo c m y) ++ (cubeA e).toList) := by
      unfold Hid
      rw [partsTo_succ, flatC_snoc]
      congr 2
      refine cubeA_congr fun i _ => ?_
      rw [← he]
      by_cases ei : i = m
      · subst ei; rw [upd_same, upd_same]
      · rw [upd_other _ _ ei, upd_other _ _ ei]; exact (HD.out i ei).symm
    obtain ⟨xs, hxs⟩ : ∃ xs, flatC (partsTo c m y) = xs := ⟨_, rfl⟩
    rw [hxs] at hown HFL
    clear hfz hcm hwn hcn hbn he hxs HO HC HD HBr
    go_wp2_with (at_builtin; go_must (refine wpList_append_own _ rfl _ _ 132 rfl ws.heap.size 94 i1 (.agg #[.int .i64 0, .int .i64 0, .int .i64 0, .int .i64 0, .int .i64 0]) 5 40 Try.underlying132 hi1 hz1 hz2 hz3 rfl (by decide) _ _ _ rfl (hown.alloc _) ⟨wn.heap.size, 0, none⟩ 1 1 (cubeA e).toList rfl rfl (fun j u h => cells_new (cs := cubeA e) j u h) (by simp [cubeA, Value.oneCell']) (by unfold maxLen; omega) (by omega) (by simp; omega) ?_; intro v' w5 hown5 hgrow _))
    have HB5 : Hid (Below w.heap.size w w5 ∧ ws.heap.size ≤ w5.heap.size) := ⟨Below.grown (HBN.out.alloc (Nat.le_of_lt hwsn) _) hgrow (by simp; omega) (fun i e => Nat.le_trans (Nat.le_of_lt hsz) (hown.lt i e).1), Nat.le_trans hsn (Nat.le_trans (by simp) hgrow.size)⟩
    have HC5 : Hid (w5.heap[w.heap.size]? = some (Obj.cells (cubeA e) 94 (0, 0))) := (hgrow.block _ (by simp; omega) (fun e9 => by have := (hown.lt _ e9.symm).1; omega)).trans ((Below.heap_alloc _ _ _ (by omega)).trans HCN.out)
    have HO5 : Hid (w5.ownsRow ws.heap.size 94 5 v' (y + 1) (flatC (partsTo c m (y + 1)))) := by rw [HFL.out]; exact hown5
    go_roundw
    case rel => first | exact ⟨y + 1, e, HYQ.out, by go_num, HE1, HC5, HO5, HB5⟩ | exact ⟨y + 1, e, HYQ.out, by go_num⟩
    case measure => simp [intOf]; have := HYQ.out; omega
  · have hyi : ¬ (y : Int) < (q : Int) := by omega
    have hye : y = q := by omega
    subst hye
    go_wp2
    go_ret
    exact ⟨_, rfl, own_mono' (own_cubes HO.out hq (fun y' hy' => by simp [partsTo, hy'])) (Nat.le_of_lt hsz), HBr.out.1⟩

end Go.Proofs.Ytbieglmpkljjjaa
