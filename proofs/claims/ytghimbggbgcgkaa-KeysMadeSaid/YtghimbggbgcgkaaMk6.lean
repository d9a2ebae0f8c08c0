/-
  Mk6: nodes are turned around.
-/
import Derived.Test.YtghimbggbgcgkaaMk5
namespace Go.Proofs.Ytghimbggbgcgkaa
open Go.RowKit Go.Maps

/-- what stands in the cells of a list of nodes -/
def NCells (w : World) (g k : Nat) (f : Nat → Int × Int × Value) : Prop := ∀ i, i < k → w.cell? ⟨g, i * 3, none⟩ = some (.int .i64 (f i).1) ∧ w.cell? ⟨g, i * 3 + 1, none⟩ = some (.int .i64 (f i).2.1) ∧ w.cell? ⟨g, i * 3 + 2, none⟩ = some (f i).2.2
theorem set_same {w : World} {g o : Nat} {u v : Value} (h : w.cell? ⟨g, o, none⟩ = some u) : (w.setCell ⟨g, o, none⟩ v).cell? ⟨g, o, none⟩ = some v := World.cell?_setCell_same _ _ _ h
theorem set_off {w : World} {g o p : Nat} {v : Value} (h : o ≠ p) : (w.setCell ⟨g, o, none⟩ v).cell? ⟨g, p, none⟩ = w.cell? ⟨g, p, none⟩ := World.cell?_setCell_other _ _ _ _ (by intro e; injection e with _ e; exact h e)
theorem NCells.put {w : World} {g k : Nat} {f : Nat → Int × Int × Value} (h : NCells w g k f) {i : Nat} (x : Int × Int × Value) (hi : i < k) :
    NCells (((w.setCell ⟨g, i * 3, none⟩ (.int .i64 x.1)).setCell ⟨g, i * 3 + 1, none⟩ (.int .i64 x.2.1)).setCell ⟨g, i * 3 + 2, none⟩ x.2.2) g k (fun j => if j = i then x else f j) := by
  intro j hj
  obtain ⟨h0, h1, h2⟩ := h i hi
  by_cases e : j = i
  · subst e
    simp only [if_true]
    refine ⟨?_, ?_, ?_⟩
    · rw [set_off (by omega), set_off (by omega)]; exact set_same h0
    · rw [set_off (by omega)]; exact set_same (by rw [set_off (by omega)]; exact h1)
    · exact set_same (by rw [set_off (by omega), set_off (by omega)]; exact h2)
  · simp only [e, if_false]
    obtain ⟨g0, g1, g2⟩ := h j hj
    refine ⟨?_, ?_, ?_⟩
    · rw [set_off (by omega), set_off (by omega), set_off (by omega)]; exact g0
    · rw [set_off (by omega), set_off (by omega), set_off (by omega)]; exact g1
    · rw [set_off (by omega), set_off (by omega), set_off (by omega)]; exact g2
theorem NCells.congr {w : World} {g k : Nat} {f f' : Nat → Int × Int × Value} (h : NCells w g k f) (e : ∀ i, i < k → f i = f' i) : NCells w g k f' := fun i hi => by rw [← e i hi]; exact h i hi
/-- the block may be written -/
def Free (w : World) (g : Nat) : Prop := g < w.heap.size ∧ ∀ o, w.frozen? ⟨g, o, none⟩ = false
/-- turned around, as far as the first i and the last i -/
def revTo {α : Type} (f : Nat → α) (k i p : Nat) : α := if p < i ∨ k - 1 - i < p then f (k - 1 - p) else f p
theorem revTo_zero {α : Type} (f : Nat → α) (k p : Nat) (hp : p < k) : revTo f k 0 p = f p := by
  unfold revTo; rw [if_neg (by omega)]
theorem revTo_all {α : Type} (f : Nat → α) {k i p : Nat} (hp : p < k) (hi : k ≤ 2 * i + 1) : revTo f k i p = f (k - 1 - p) := by
  unfold revTo
  split
  · rfl
  · congr 1; omega
theorem revTo_succ {α : Type} (f : Nat → α) {k i p : Nat} (hi : 2 * i + 1 < k) (hp : p < k) : revTo f k (i + 1) p = if p = k - 1 - i then revTo f k i i else if p = i then revTo f k i (k - 1 - i) else revTo f k i p := by
  unfold revTo
  by_cases e1 : p = k - 1 - i
  · subst e1
    rw [if_pos rfl, if_pos (by omega), if_neg (by omega)]
    congr 1; omega
  · rw [if_neg e1]
    by_cases e2 : p = i
    · subst e2
      rw [if_pos rfl, if_pos (by omega), if_neg (by omega)]
    · rw [if_neg e2]
      by_cases h : p < i ∨ k - 1 - i < p
      · rw [if_pos (by omega), if_pos h]
      · rw [if_neg (by omega), if_neg h]

set_option maxRecDepth 100000 in
set_option maxHeartbeats 3200000 in
theorem reverse_any (g k cap : Nat) (f : Nat → Int × Int × Value) (w : World) (h : NCells w g k f) (hfr : ∃ cs T, w.heap[g]? = some (Obj.cells cs T (0, 0))) (hk : k ≤ 40) (hsl : ∀ i, i < k → ∃ a n c, (f i).2.2 = .slice a n c) :
    Calls Try.prog 126 #[.slice (some ⟨g, 0, none⟩) k cap] w fun e w' => e = .returned (.tuple #[]) ∧ NCells w' g k (fun i => f (k - 1 - i)) ∧ w.grownBy w' (some g) ∧ (∃ cs T, w'.heap[g]? = some (Obj.cells cs T (0, 0))) := by
  have HK := Lib.hid hk
  have h0 : NCells w g k (revTo f k 0) := h.congr fun i hi => (revTo_zero f k i hi).symm
  have H0 := Lib.hid h0
  have HFR := Lib.hid hfr
  have HSL := Lib.hid hsl
  have hwr : IntKind.i64.wrap ((k : Int) - 1) = (k : Int) - 1 := IntWalk.i64_in _ (by omega)
  have HG0 : Hid (w.grownBy w (some g)) := grown_of_below (Below.refl _ _)
  clear h h0 hfr hsl
  go_enter Try.func126, Try.ntmps126
  go_wp2
  go_loopw [2, 3] (fun a b wr => ∃ i : Nat, i ≤ k ∧ a = .int .i64 i ∧ b = .int .i64 ((k : Int) - 1 - i) ∧ Hid (NCells wr g k (revTo f k i)) ∧ Hid (w.grownBy wr (some g)) ∧ Hid (∃ cs T, wr.heap[g]? = some (Obj.cells cs T (0, 0)))) (fun a _ _ => k - (intOf a).toNat)
  case atStart => exact ⟨0, Nat.zero_le _, rfl, by simp, H0, HG0, HFR⟩
  case round =>
  obtain ⟨i, hi, rfl, rfl, HC, HGi, HFi⟩ := hrel
  by_cases hlt : 2 * i + 1 < k
  · have hki : (i : Int) < (k : Int) - 1 - (i : Int) := by omega
    obtain ⟨j, hj⟩ : ∃ j, k - 1 - i = j := ⟨_, rfl⟩
    have hje : (k : Int) - 1 - (i : Int) = (j : Int) := by omega
    have hij : i < j := by omega
    have hjk : j < k := by omega
    obtain ⟨⟨xa, xb, xc⟩, hx⟩ : ∃ x, revTo f k i i = x := ⟨_, rfl⟩
    obtain ⟨⟨ya, yb, yc⟩, hy⟩ : ∃ y, revTo f k i j = y := ⟨_, rfl⟩
    obtain ⟨ax, lx, cx, rfl⟩ : ∃ a n c, xc = .slice a n c := by
      have e : (revTo f k i i).2.2 = xc := by rw [hx]
      rw [← e]
      unfold revTo
      split
      · exact HSL.out _ (by omega)
      · exact HSL.out _ (by omega)
    obtain ⟨ay, ly, cy, rfl⟩ : ∃ a n c, yc = .slice a n c := by
      have e : (revTo f k i j).2.2 = yc := by rw [hy]
      rw [← e]
      unfold revTo
      split
      · exact HSL.out _ (by omega)
      · exact HSL.out _ (by omega)
    obtain ⟨a0, a1, a2⟩ := HC.out i (by omega)
    obtain ⟨b0, b1, b2⟩ := HC.out j hjk
    rw [hx] at a0 a1 a2
    rw [hy] at b0 b1 b2
    simp only at a0 a1 a2 b0 b1 b2
    rw [hje] at hki ⊢
    have hiji : (i : Int) < (j : Int) := by omega
    have hiki : (i : Int) < (k : Int) := by omega
    have hjki : (j : Int) < (k : Int) := by omega
    obtain ⟨wd, hwd⟩ : ∃ wd, wr.drew = wd := ⟨_, rfl⟩
    have HCd : Hid (NCells wd g k (revTo f k i)) := by rw [← hwd]; exact HC.out
    have HGd : Hid (w.grownBy wd (some g)) := by rw [← hwd]; exact grown_trans HGi.out (grown_of_below (Below.refl _ _).drew)
    have HFd : Hid (∃ cs T, wd.heap[g]? = some (Obj.cells cs T (0, 0))) := by rw [← hwd]; exact HFi.out
    go_upto_region 3 with fail
    refine wp_region_held_drew (S := fun _ => True) (by kernel_rfl) trivial (fun hHeld => ?_)
    rw [hwd]
    have a0d : wd.cell? ⟨g, i * 3, none⟩ = some (.int .i64 xa) := by rw [← hwd]; exact a0
    have a1d : wd.cell? ⟨g, i * 3 + 1, none⟩ = some (.int .i64 xb) := by rw [← hwd]; exact a1
    have a2d : wd.cell? ⟨g, i * 3 + 2, none⟩ = some (.slice ax lx cx) := by rw [← hwd]; exact a2
    have b0d : wd.cell? ⟨g, j * 3, none⟩ = some (.int .i64 ya) := by rw [← hwd]; exact b0
    have b1d : wd.cell? ⟨g, j * 3 + 1, none⟩ = some (.int .i64 yb) := by rw [← hwd]; exact b1
    have b2d : wd.cell? ⟨g, j * 3 + 2, none⟩ = some (.slice ay ly cy) := by rw [← hwd]; exact b2
    obtain ⟨cs, T, hcs⟩ := HFd.out
    have fz := frozen_blk hcs
    clear hwd a0 a1 a2 b0 b1 b2 HC HGi HFi
    (refine wpAnyH_take (i := 0) (v := ?_) rfl (by kernel_rfl) (by kernel_rfl) (by kernel_rfl) (fun _ _ _ h => h) (Or.inl ⟨by rfl, ?_⟩) (by assumption) ?_; rotate_left; (focus (intro w hSw; (try dsimp only at hSw); go_simp; (try with_reducible rfl))); (try simp only [List.getElem_toArray, List.getElem_cons_zero, List.getElem_cons_succ, Act.put, List.setIfInBounds_toArray, List.set_cons_zero, List.set_cons_succ])); (refine wpAnyH_take (i := 1) (v := ?_) rfl (by kernel_rfl) (by kernel_rfl) (by kernel_rfl) (fun _ _ _ h => h) (Or.inl ⟨by rfl, ?_⟩) (by assumption) ?_; rotate_left; (focus (intro w hSw; (try dsimp only at hSw); go_simp; (try with_reducible rfl))); (try simp only [List.getElem_toArray, List.getElem_cons_zero, List.getElem_cons_succ, Act.put, List.setIfInBounds_toArray, List.set_cons_zero, List.set_cons_succ])); (refine wpAnyH_take (i := 2) (v := ?_) rfl (by kernel_rfl) (by kernel_rfl) (by kernel_rfl) (fun _ _ _ h => h) (Or.inl ⟨by rfl, ?_⟩) (by assumption) ?_; rotate_left; (focus (intro w hSw; (try dsimp only at hSw); go_simp; (try with_reducible rfl))); (try simp only [List.getElem_toArray, List.getElem_cons_zero, List.getElem_cons_succ, Act.put, List.setIfInBounds_toArray, List.set_cons_zero, List.set_cons_succ])); (refine wpAnyH_take (i := 3) (v := ?_) rfl (by kernel_rfl) (by kernel_rfl) (by kernel_rfl) (fun _ _ _ h => h) (Or.inl ⟨by rfl, ?_⟩) (by assumption) ?_; rotate_left; (focus (intro w hSw; (try dsimp only at hSw); go_simp; (try with_reducible rfl))); (try simp only [List.getElem_toArray, List.getElem_cons_zero, List.getElem_cons_succ, Act.put, List.setIfInBounds_toArray, List.set_cons_zero, List.set_cons_succ])); (refine wpAnyH_take (i := 4) (v := ?_) rfl (by kernel_rfl) (by kernel_rfl) (by kernel_rfl) (fun _ _ _ h => h) (Or.inl ⟨by rfl, ?_⟩) (by assumption) ?_; rotate_left; (focus (intro w hSw; (try dsimp only at hSw); go_simp; (try with_reducible rfl))); (try simp only [List.getElem_toArray, List.getElem_cons_zero, List.getElem_cons_succ, Act.put, List.setIfInBounds_toArray, List.set_cons_zero, List.set_cons_succ])); (refine wpAnyH_take (i := 5) (v := ?_) rfl (by kernel_rfl) (by kernel_rfl) (by kernel_rfl) (fun _ _ _ h => h) (Or.inl ⟨by rfl, ?_⟩) (by assumption) ?_; rotate_left; (focus (intro w hSw; (try dsimp only at hSw); go_simp; (try with_reducible rfl))); (try simp only [List.getElem_toArray, List.getElem_cons_zero, List.getElem_cons_succ, Act.put, List.setIfInBounds_toArray, List.set_cons_zero, List.set_cons_succ])); (refine wpAnyH_take (i := 6) (v := ?_) rfl (by kernel_rfl) (by kernel_rfl) (by kernel_rfl) (fun _ _ _ h => h) (Or.inl ⟨by rfl, ?_⟩) (by assumption) ?_; rotate_left; (focus (intro w hSw; (try dsimp only at hSw); go_simp; (try with_reducible rfl))); (try simp only [List.getElem_toArray, List.getElem_cons_zero, List.getElem_cons_succ, Act.put, List.setIfInBounds_toArray, List.set_cons_zero, List.set_cons_succ]))
    (refine wpAnyH_take (i := 8) (v := ?_) rfl (by kernel_rfl) (by kernel_rfl) (by kernel_rfl) (fun _ _ _ h => h) (Or.inl ⟨by rfl, ?_⟩) (by assumption) ?_; rotate_left; (focus (intro w hSw; (try dsimp only at hSw); go_simp; (try with_reducible rfl))); (try simp only [List.getElem_toArray, List.getElem_cons_zero, List.getElem_cons_succ, Act.put, List.setIfInBounds_toArray, List.set_cons_zero, List.set_cons_succ])); (refine wpAnyH_take (i := 9) (v := ?_) rfl (by kernel_rfl) (by kernel_rfl) (by kernel_rfl) (fun _ _ _ h => h) (Or.inl ⟨by rfl, ?_⟩) (by assumption) ?_; rotate_left; (focus (intro w hSw; (try dsimp only at hSw); go_simp; (try with_reducible rfl))); (try simp only [List.getElem_toArray, List.getElem_cons_zero, List.getElem_cons_succ, Act.put, List.setIfInBounds_toArray, List.set_cons_zero, List.set_cons_succ])); (refine wpAnyH_take (i := 10) (v := ?_) rfl (by kernel_rfl) (by kernel_rfl) (by kernel_rfl) (fun _ _ _ h => h) (Or.inl ⟨by rfl, ?_⟩) (by assumption) ?_; rotate_left; (focus (intro w hSw; (try dsimp only at hSw); go_simp; (try with_reducible rfl))); (try simp only [List.getElem_toArray, List.getElem_cons_zero, List.getElem_cons_succ, Act.put, List.setIfInBounds_toArray, List.set_cons_zero, List.set_cons_succ]))
    refine wpAnyH_ready (rs := [7, 11]) (by kernel_rfl) (by simp) ?_
    refine (AllReadyH.cons rfl (fun K hK => ?_) (AllReadyH.cons rfl (fun K hK => ?_) AllReadyH.nil))
    · go_simp
      refine hK.out _ _ trivial (fun hHeld => ?_); clear hK K; (try simp only [List.getElem_toArray, List.getElem_cons_zero, List.getElem_cons_succ, Act.put, List.setIfInBounds_toArray, List.set_cons_zero, List.set_cons_succ])
      refine wpAnyH_ready (rs := [11]) (by kernel_rfl) (by simp) ?_
      refine (AllReadyH.cons rfl (fun K hK => ?_) AllReadyH.nil)
      go_simp
      refine hK.out _ _ trivial (fun hHeld => ?_); clear hK K; (try simp only [List.getElem_toArray, List.getElem_cons_zero, List.getElem_cons_succ, Act.put, List.setIfInBounds_toArray, List.set_cons_zero, List.set_cons_succ])
      (refine wpAnyH_take (i := 12) (v := ?_) rfl (by kernel_rfl) (by kernel_rfl) (by kernel_rfl) (fun _ _ _ h => h) (Or.inl ⟨by rfl, ?_⟩) (by assumption) ?_; rotate_left; (focus (intro w hSw; (try dsimp only at hSw); go_simp; (try with_reducible rfl))); (try simp only [List.getElem_toArray, List.getElem_cons_zero, List.getElem_cons_succ, Act.put, List.setIfInBounds_toArray, List.set_cons_zero, List.set_cons_succ]))
      refine wpAnyH_ready (rs := [13]) (by kernel_rfl) (by simp) ?_
      refine (AllReadyH.cons rfl (fun K hK => ?_) AllReadyH.nil)
      go_simp
      have hC1 := NCells.put HCd.out (i := i) (ya, yb, .slice ay ly cy) (by omega)
      simp only at hC1
      have hG1 : w.grownBy (((wd.setCell ⟨g, i * 3, none⟩ (.int .i64 ya)).setCell ⟨g, i * 3 + 1, none⟩ (.int .i64 yb)).setCell ⟨g, i * 3 + 2, none⟩ (.slice ay ly cy)) (some g) := grown_trans (grown_trans (grown_trans HGd.out (grown_setCell _ _ _ _)) (grown_setCell _ _ _ _)) (grown_setCell _ _ _ _)
      have hc1 := setCell_heap_same (setCell_heap_same (setCell_heap_same hcs (j := i * 3) (.int .i64 ya)) (j := i * 3 + 1) (.int .i64 yb)) (j := i * 3 + 2) (.slice ay ly cy)
      obtain ⟨w1, hw1⟩ : ∃ w1, ((wd.setCell ⟨g, i * 3, none⟩ (.int .i64 ya)).setCell ⟨g, i * 3 + 1, none⟩ (.int .i64 yb)).setCell ⟨g, i * 3 + 2, none⟩ (.slice ay ly cy) = w1 := ⟨_, rfl⟩
      rw [hw1] at hC1 hG1 hc1 ⊢
      have HC1 := Lib.hid hC1
      have HG1 := Lib.hid hG1
      have HCS1 := Lib.hid hc1
      have fz1 := frozen_blk hc1
      obtain ⟨c0, c1, c2⟩ := hC1 j hjk
      have hji : ¬ j = i := by omega
      simp only [hji, if_false, hy] at c0 c1 c2
      clear hw1 a0d a1d a2d b0d b1d b2d fz hC1 hG1 hc1
      refine hK.out _ _ trivial (fun hHeld => ?_); clear hK K; (try simp only [List.getElem_toArray, List.getElem_cons_zero, List.getElem_cons_succ, Act.put, List.setIfInBounds_toArray, List.set_cons_zero, List.set_cons_succ])
      (refine wpAnyH_take (i := 14) (v := ?_) rfl (by kernel_rfl) (by kernel_rfl) (by kernel_rfl) (fun _ _ _ h => h) (Or.inl ⟨by rfl, ?_⟩) (by assumption) ?_; rotate_left; (focus (intro w hSw; (try dsimp only at hSw); go_simp; (try with_reducible rfl))); (try simp only [List.getElem_toArray, List.getElem_cons_zero, List.getElem_cons_succ, Act.put, List.setIfInBounds_toArray, List.set_cons_zero, List.set_cons_succ]))
      refine wpAnyH_ready (rs := [15]) (by kernel_rfl) (by simp) ?_
      refine (AllReadyH.cons rfl (fun K hK => ?_) AllReadyH.nil)
      go_simp
      have hC2 := NCells.put HC1.out (i := j) (xa, xb, .slice ax lx cx) hjk
      simp only at hC2
      have hG2 : w.grownBy (((w1.setCell ⟨g, j * 3, none⟩ (.int .i64 xa)).setCell ⟨g, j * 3 + 1, none⟩ (.int .i64 xb)).setCell ⟨g, j * 3 + 2, none⟩ (.slice ax lx cx)) (some g) := grown_trans (grown_trans (grown_trans HG1.out (grown_setCell _ _ _ _)) (grown_setCell _ _ _ _)) (grown_setCell _ _ _ _)
      have hc2 := setCell_heap_same (setCell_heap_same (setCell_heap_same HCS1.out (j := j * 3) (.int .i64 xa)) (j := j * 3 + 1) (.int .i64 xb)) (j := j * 3 + 2) (.slice ax lx cx)
      obtain ⟨w2, hw2⟩ : ∃ w2, ((w1.setCell ⟨g, j * 3, none⟩ (.int .i64 xa)).setCell ⟨g, j * 3 + 1, none⟩ (.int .i64 xb)).setCell ⟨g, j * 3 + 2, none⟩ (.slice ax lx cx) = w2 := ⟨_, rfl⟩
      rw [hw2] at hC2 hG2 hc2 ⊢
      have HC2 : Hid (NCells w2 g k (revTo f k (i + 1))) := hC2.congr fun p hp => by
        rw [revTo_succ f hlt hp, hj, hx, hy]
      have HG2 := Lib.hid hG2
      have HF2 : Hid (∃ cs T, w2.heap[g]? = some (Obj.cells cs T (0, 0))) := ⟨_, _, hc2⟩
      clear hw2 hC2 hG2 hc2 fz1 c0 c1 c2
      refine hK.out _ _ trivial (fun hHeld => ?_); clear hK K; (try simp only [List.getElem_toArray, List.getElem_cons_zero, List.getElem_cons_succ, Act.put, List.setIfInBounds_toArray, List.set_cons_zero, List.set_cons_succ])
      refine wpAnyH_done (by kernel_rfl) ?_ _; clear hHeld
      have hw1k : IntKind.i64.wrap ((j : Int) - 1) = (j : Int) - 1 := IntWalk.i64_in _ (by omega)
      go_wp2
      go_roundw
      case rel => first | exact ⟨i + 1, by omega, by go_num, by simp; omega, HC2, HG2, HF2⟩ | exact ⟨i + 1, by omega, by go_num, by congr 1; omega, HC2, HG2, HF2⟩
      case measure => simp [intOf]; omega
    · go_simp
      refine hK.out _ _ trivial (fun hHeld => ?_); clear hK K; (try simp only [List.getElem_toArray, List.getElem_cons_zero, List.getElem_cons_succ, Act.put, List.setIfInBounds_toArray, List.set_cons_zero, List.set_cons_succ])
      refine wpAnyH_ready (rs := [7]) (by kernel_rfl) (by simp) ?_
      refine (AllReadyH.cons rfl (fun K hK => ?_) AllReadyH.nil)
      go_simp
      refine hK.out _ _ trivial (fun hHeld => ?_); clear hK K; (try simp only [List.getElem_toArray, List.getElem_cons_zero, List.getElem_cons_succ, Act.put, List.setIfInBounds_toArray, List.set_cons_zero, List.set_cons_succ])
      (refine wpAnyH_take (i := 12) (v := ?_) rfl (by kernel_rfl) (by kernel_rfl) (by kernel_rfl) (fun _ _ _ h => h) (Or.inl ⟨by rfl, ?_⟩) (by assumption) ?_; rotate_left; (focus (intro w hSw; (try dsimp only at hSw); go_simp; (try with_reducible rfl))); (try simp only [List.getElem_toArray, List.getElem_cons_zero, List.getElem_cons_succ, Act.put, List.setIfInBounds_toArray, List.set_cons_zero, List.set_cons_succ]))
      refine wpAnyH_ready (rs := [13]) (by kernel_rfl) (by simp) ?_
      refine (AllReadyH.cons rfl (fun K hK => ?_) AllReadyH.nil)
      go_simp
      have hC1 := NCells.put HCd.out (i := i) (ya, yb, .slice ay ly cy) (by omega)
      simp only at hC1
      have hG1 : w.grownBy (((wd.setCell ⟨g, i * 3, none⟩ (.int .i64 ya)).setCell ⟨g, i * 3 + 1, none⟩ (.int .i64 yb)).setCell ⟨g, i * 3 + 2, none⟩ (.slice ay ly cy)) (some g) := grown_trans (grown_trans (grown_trans HGd.out (grown_setCell _ _ _ _)) (grown_setCell _ _ _ _)) (grown_setCell _ _ _ _)
      have hc1 := setCell_heap_same (setCell_heap_same (setCell_heap_same hcs (j := i * 3) (.int .i64 ya)) (j := i * 3 + 1) (.int .i64 yb)) (j := i * 3 + 2) (.slice ay ly cy)
      obtain ⟨w1, hw1⟩ : ∃ w1, ((wd.setCell ⟨g, i * 3, none⟩ (.int .i64 ya)).setCell ⟨g, i * 3 + 1, none⟩ (.int .i64 yb)).setCell ⟨g, i * 3 + 2, none⟩ (.slice ay ly cy) = w1 := ⟨_, rfl⟩
      rw [hw1] at hC1 hG1 hc1 ⊢
      have HC1 := Lib.hid hC1
      have HG1 := Lib.hid hG1
      have HCS1 := Lib.hid hc1
      have fz1 := frozen_blk hc1
      obtain ⟨c0, c1, c2⟩ := hC1 j hjk
      have hji : ¬ j = i := by omega
      simp only [hji, if_false, hy] at c0 c1 c2
      clear hw1 a0d a1d a2d b0d b1d b2d fz hC1 hG1 hc1
      refine hK.out _ _ trivial (fun hHeld => ?_); clear hK K; (try simp only [List.getElem_toArray, List.getElem_cons_zero, List.getElem_cons_succ, Act.put, List.setIfInBounds_toArray, List.set_cons_zero, List.set_cons_succ])
      (refine wpAnyH_take (i := 14) (v := ?_) rfl (by kernel_rfl) (by kernel_rfl) (by kernel_rfl) (fun _ _ _ h => h) (Or.inl ⟨by rfl, ?_⟩) (by assumption) ?_; rotate_left; (focus (intro w hSw; (try dsimp only at hSw); go_simp; (try with_reducible rfl))); (try simp only [List.getElem_toArray, List.getElem_cons_zero, List.getElem_cons_succ, Act.put, List.setIfInBounds_toArray, List.set_cons_zero, List.set_cons_succ]))
      refine wpAnyH_ready (rs := [15]) (by kernel_rfl) (by simp) ?_
      refine (AllReadyH.cons rfl (fun K hK => ?_) AllReadyH.nil)
      go_simp
      have hC2 := NCells.put HC1.out (i := j) (xa, xb, .slice ax lx cx) hjk
      simp only at hC2
      have hG2 : w.grownBy (((w1.setCell ⟨g, j * 3, none⟩ (.int .i64 xa)).setCell ⟨g, j * 3 + 1, none⟩ (.int .i64 xb)).setCell ⟨g, j * 3 + 2, none⟩ (.slice ax lx cx)) (some g) := grown_trans (grown_trans (grown_trans HG1.out (grown_setCell _ _ _ _)) (grown_setCell _ _ _ _)) (grown_setCell _ _ _ _)
      have hc2 := setCell_heap_same (setCell_heap_same (setCell_heap_same HCS1.out (j := j * 3) (.int .i64 xa)) (j := j * 3 + 1) (.int .i64 xb)) (j := j * 3 + 2) (.slice ax lx cx)
      obtain ⟨w2, hw2⟩ : ∃ w2, ((w1.setCell ⟨g, j * 3, none⟩ (.int .i64 xa)).setCell ⟨g, j * 3 + 1, none⟩ (.int .i64 xb)).setCell ⟨g, j * 3 + 2, none⟩ (.slice ax lx cx) = w2 := ⟨_, rfl⟩
      rw [hw2] at hC2 hG2 hc2 ⊢
      have HC2 : Hid (NCells w2 g k (revTo f k (i + 1))) := hC2.congr fun p hp => by
        rw [revTo_succ f hlt hp, hj, hx, hy]
      have HG2 := Lib.hid hG2
      have HF2 : Hid (∃ cs T, w2.heap[g]? = some (Obj.cells cs T (0, 0))) := ⟨_, _, hc2⟩
      clear hw2 hC2 hG2 hc2 fz1 c0 c1 c2
      refine hK.out _ _ trivial (fun hHeld => ?_); clear hK K; (try simp only [List.getElem_toArray, List.getElem_cons_zero, List.getElem_cons_succ, Act.put, List.setIfInBounds_toArray, List.set_cons_zero, List.set_cons_succ])
      refine wpAnyH_done (by kernel_rfl) ?_ _; clear hHeld
      have hw1k : IntKind.i64.wrap ((j : Int) - 1) = (j : Int) - 1 := IntWalk.i64_in _ (by omega)
      go_wp2
      go_roundw
      case rel => first | exact ⟨i + 1, by omega, by go_num, by simp; omega, HC2, HG2, HF2⟩ | exact ⟨i + 1, by omega, by go_num, by congr 1; omega, HC2, HG2, HF2⟩
      case measure => simp [intOf]; omega
  · have hki : ¬ (i : Int) < (k : Int) - 1 - (i : Int) := by omega
    have HA : Hid (NCells wr g k (fun i => f (k - 1 - i))) := HC.out.congr fun p hp => revTo_all f hp (by omega)
    clear hlt
    go_wp2
    exact bodyPost_end (v := .tuple #[]) (by simp [results, Try.results126, go_sem]) rfl ⟨rfl, HA.out, HGi.out, HFi.out⟩

end Go.Proofs.Ytghimbggbgcgkaa
