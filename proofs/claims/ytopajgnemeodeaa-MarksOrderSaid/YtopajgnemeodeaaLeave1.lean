/-
  More leave: a book with a greater Wrong, a mark that is not firm any more, one more value of a sort; and such a book in memory of the call's own.
-/
import Derived.Test.YtopajgnemeodeaaNothing4
import Derived.Test.YtopajgnemeodeaaCWrong
namespace Go.Proofs.Ytopajgnemeodeaa
open Go.RowKit

/-- the book with a greater Wrong, and a mark that is not firm -/
def Bk.loose (B : Bk) (x lo : Int) : Bk := { B with wr := B.wr + x, F := fun i => if (i : Int) = lo then 0 else B.F i }
/-- the values below n that a sort can have with one more -/
def moreP (B : Bk) (s i : Nat) (y : Int) (v : Nat) : Bool := decide ((v : Int) = y) || cin B s i v
def moreL (B : Bk) (s i : Nat) (y : Int) : List Int := sel (moreP B s i y) (B.V i).toNat
/-- the book in which a sort can have one more value of a mark -/
def Bk.can1 (B : Bk) (s i : Nat) (l : List Int) : Bk := { B with ncc := fun t j => if t = s ∧ j = i then l.length else B.ncc t j, can := fun t j k => if t = s ∧ j = i then l.getD k 0 else B.can t j k }

theorem lm_leave {B C : Bk} {R : Fr} {s m : Nat} (h0 : 0 < B.ncc s m) (h1 : 0 < C.ncc s m) (hF : C.F m = B.F m ∨ C.F m = 0) (hB : B.F m = 0 ∨ B.F m = 1) (hc : ∀ y, inCan B s m y = true → inCan C s m y = true) : lm C R s m ≤ lm B R s m := by
  obtain ⟨i, hi, he⟩ := lm_hit (B := B) (R := R) (s := s) (m := m) 0 h0
  have hy := inCan_can (B := B) (s := s) (m := m) hi
  generalize B.can s m i = y at *
  rw [← he]
  refine Nat.le_trans (lm_le_mw (f := ((0 : Nat) : Int)) h1 (hc y hy)) ?_
  refine cnt_mono fun g _ hh => ?_
  simp only [Bool.and_eq_true, Bool.not_eq_true'] at hh ⊢
  refine ⟨hh.1, ?_⟩
  cases hr : right (B.F m == 1) ((0 : Nat) : Int) y (B.ncc s m) (B.can s m) g (R.X g m) with
  | false => rfl
  | true =>
    exfalso
    have h2 := hh.2
    unfold right at hr h2
    split at hr
    · have e := of_decide_eq_true hr
      split at h2
      · rw [e] at h2; simp at h2
      · rw [e] at h2
        have := hc y hy
        unfold inCan at this
        rw [this] at h2; simp at h2
    · rename_i hn
      have hB0 : B.F m = 0 := by
        rcases hB with h | h
        · exact h
        · rw [h] at hn; simp at hn
      have hC0 : C.F m = 0 := by
        rcases hF with h | h
        · rw [h]; exact hB0
        · exact h
      rw [hC0] at h2
      rw [hB0] at hn
      rw [if_neg hn] at h2
      have := hc _ hr
      unfold inCan at this
      rw [this] at h2; simp at h2

theorem wrong_leave {B C : Bk} {R : Fr} {s : Nat} (hv : C.nv = B.nv) (h : ∀ m, m < B.nv → 0 < B.ncc s m ∧ 0 < C.ncc s m ∧ (C.F m = B.F m ∨ C.F m = 0) ∧ (B.F m = 0 ∨ B.F m = 1) ∧ ∀ y, inCan B s m y = true → inCan C s m y = true) : wrong C R s ≤ wrong B R s := by
  unfold wrong
  rw [hv]
  exact sumTo_mono fun m hm => by obtain ⟨a, b, c, d, e⟩ := h m hm; exact lm_leave a b c d e

/-- a store into the second of two rows -/
theorem Two.put {w : World} {lo m hi : Nat} {a b v : Value} {B : Bk} (h : Two w lo m a b B) (hs : SortsIn w m hi v B.ns B) {i : Nat} (hi' : i < B.nf) (hv : 0 < B.nv) (x : Int) :
    ∃ g cap, b = .slice (some ⟨g, 0, none⟩) B.nf cap ∧ w.cell? ⟨g, i, none⟩ = some (.int .i64 (B.F i)) ∧ (∀ j, w.frozen? ⟨g, j, none⟩ = false) ∧ lo ≤ g ∧ (∃ cur, w.heap[g]? = some (Obj.cells cur 3 (0, 0))) ∧
      Two (w.setCell ⟨g, i, none⟩ (.int .i64 0)) lo m a b (B.loose x i) ∧ SortsIn (w.setCell ⟨g, i, none⟩ (.int .i64 0)) m hi v B.ns (B.loose x i) := by
  obtain ⟨mid, h1, g, cap, rfl, hk⟩ := h
  obtain ⟨k1, k2, cur, hg, k3, k4, k5, k6⟩ := hk (by omega)
  have hset : (w.setCell ⟨g, i, none⟩ (.int .i64 0)).heap[g]? = some (Obj.cells (cur.setIfInBounds i (.int .i64 0)) 3 (0, 0)) := by
    simp [World.setCell, Array.getElem?_modify, hg]
  refine ⟨g, cap, rfl, cell_blk hg i (k6 i hi'), frozen_blk hg, ?_, ⟨cur, hg⟩, ⟨mid, ?_, ?_⟩, ?_⟩
  · obtain ⟨ga, ca, rfl, hka⟩ := h1
    have := hka hv; omega
  · exact h1.keep fun k cur' _ hlt hh => Below.heap_setCell _ _ _ _ (by show k ≠ g; omega)
  · refine ⟨g, cap, rfl, fun _ => ⟨k1, k2, _, hset, k3, k4, by simp [k5], fun j hj => ?_⟩⟩
    by_cases hji : j = i
    · subst hji
      simp [k5, Nat.lt_of_lt_of_le hj k3, Bk.loose]
    · rw [Array.getElem?_setIfInBounds_ne (by omega), k6 j hj]
      have : ¬ ((j : Int) = (i : Int)) := by omega
      simp [Bk.loose, this]
  · exact SortsIn.keep (B := B) hs fun k cs u hk1 _ _ _ => Below.heap_setCell _ _ _ _ (by show k ≠ g; omega)

/-- a list of rows of the call's own, with another row stored in it -/
theorem RowsIn.store {w : World} {lo hi : Nat} {v r : Value} {n nl : Nat} {L : Nat → Nat} {x : Nat → Nat → Int} {z : Nat → Int} (h : RowsIn w lo hi v n L x) (hh : hi ≤ w.heap.size) (hn : n ≤ 1000000) (hL : ∀ j, j < n → L j ≤ 1000000) {i : Nat} (hi' : i < n) :
    ∃ g cap cur, v = .slice (some ⟨g, 0, none⟩) n cap ∧ lo ≤ g ∧ g < hi ∧ w.heap[g]? = some (Obj.cells cur 22 (0, 0)) ∧ (∃ old, w.cell? ⟨g, i, none⟩ = some old) ∧
      (IntsAt w.heap.size (w.setCell ⟨g, i, none⟩ r) r nl z → RowsAt w.heap.size (w.setCell ⟨g, i, none⟩ r) v n (fun j => if j = i then nl else L j) (fun j k => if j = i then z k else x j k)) := by
  obtain ⟨rows, M, ho, hb, hlen, h0, hM, hm', hr⟩ := h
  have hMm := mono_M hm'
  obtain ⟨h1, ⟨rfl, h2⟩ | ⟨g, cap, cur, rfl, h3, h4, h5, h6, h7, h8⟩⟩ := id ho
  · omega
  · obtain ⟨r0, hr0, _⟩ := hr i hi'
    have hci := own_cell ho i hr0
    have hsz : i < cur.size := by omega
    refine ⟨g, cap, cur, rfl, h3, hb g rfl, h4, ⟨_, hci⟩, fun hz => ?_⟩
    have hset : (w.setCell ⟨g, i, none⟩ r).heap[g]? = some (Obj.cells (cur.setIfInBounds i r) 22 (0, 0)) := by
      simp [World.setCell, Array.getElem?_modify, h4]
    have hoth : ∀ k, k ≠ g → (w.setCell ⟨g, i, none⟩ r).heap[k]? = w.heap[k]? := fun k hk => Below.heap_setCell _ _ _ _ (by exact hk)
    refine ⟨_, cap, rfl, by omega, fun _ => ⟨g, 0, rfl, by have := hb g rfl; omega, fun j hj => ?_⟩⟩
    rw [Nat.zero_add]
    by_cases hji : j = i
    · subst hji
      refine ⟨r, cell_blk hset j (by simp [hsz]), ?_⟩
      simp only [if_true]
      exact hz
    · obtain ⟨q, hq, hq2⟩ := hr j hj
      have hcj : cur[j]? = some q := by
        have e : (cur.toList.take (n * 1))[j]? = some q := by rw [h8]; exact hq
        rw [List.getElem?_take, if_pos (by omega)] at e
        simpa using e
      refine ⟨q, cell_blk hset j (by rw [Array.getElem?_setIfInBounds_ne (by omega)]; exact hcj), ?_⟩
      simp only [hji, if_false]
      have hrow : RowIn (w.setCell ⟨g, i, none⟩ r) (M j) (M (j + 1)) q (L j) (x j) := hq2.keep fun k c2 _ _ hk => hoth k (by
        rintro rfl
        rw [h4] at hk
        injection hk with hk
        injection hk with _ ht
        exact absurd ht (by decide))
      have e2 := hMm (j + 1) n (by omega) (Nat.le_refl _)
      exact (hrow.wider (Nat.le_refl _) (by omega : M (j + 1) ≤ w.heap.size)).ints (by have := hL j hj; omega)

/-- lists of rows of the call's own, with another row stored in one -/
theorem SortsIn.store {w : World} {lo hi : Nat} {v r : Value} {nl : Nat} {B : Bk} {z : Nat → Int} (h : SortsIn w lo hi v B.ns B) (hh : hi ≤ w.heap.size) (hn : B.ns ≤ 1000000) (hl : ∀ s, s < B.ns → B.nc s ≤ 1000 ∧ ∀ i, i < B.nc s → B.ncc s i ≤ 1000) {s i : Nat} (hs : s < B.ns) (hi' : i < B.nc s) :
    ∃ g0 cap0 g cap cur, v = .slice (some ⟨g0, 0, none⟩) B.ns cap0 ∧ w.cell? ⟨g0, s, none⟩ = some (.slice (some ⟨g, 0, none⟩) (B.nc s) cap) ∧ lo ≤ g0 ∧ lo ≤ g ∧ g < hi ∧ w.heap[g]? = some (Obj.cells cur 22 (0, 0)) ∧ (∃ old, w.cell? ⟨g, i, none⟩ = some old) ∧
      (IntsAt w.heap.size (w.setCell ⟨g, i, none⟩ r) r nl z → SortsAt w.heap.size (w.setCell ⟨g, i, none⟩ r) v B.ns B.nc (fun t j => if t = s ∧ j = i then nl else B.ncc t j) (fun t j k => if t = s ∧ j = i then z k else B.can t j k)) := by
  obtain ⟨rows, M, ho, hb, hlen, h0, hM, hm', hr⟩ := h
  have hMm := mono_M hm'
  obtain ⟨h1, ⟨rfl, h2⟩ | ⟨g0, cap0, cur0, rfl, h3, h4, h5, h6, h7, h8⟩⟩ := id ho
  · omega
  · obtain ⟨rs, hrs, hrs2⟩ := hr s hs
    have e1 := hMm 0 s (Nat.zero_le _) (by omega)
    have e2 := hMm (s + 1) B.ns (by omega) (Nat.le_refl _)
    have hls := hl s hs
    obtain ⟨g, cap, cur, rfl, k1, k2, k3, k4, k5⟩ := RowsIn.store (r := r) (nl := nl) (z := z) hrs2 (by omega) (by omega) (fun j hj => by have := hls.2 j hj; omega) hi'
    refine ⟨g0, cap0, g, cap, cur, rfl, own_cell ho s hrs, h3, by omega, by omega, k3, k4, fun hz => ?_⟩
    have hne : g0 ≠ g := by
      rintro rfl
      rw [h4] at k3
      injection k3 with k3
      injection k3 with _ ht
      exact absurd ht (by decide)
    have hoth : ∀ k, k ≠ g → (w.setCell ⟨g, i, none⟩ r).heap[k]? = w.heap[k]? := fun k hk => Below.heap_setCell _ _ _ _ (by exact hk)
    have h4' := (hoth g0 hne).trans h4
    refine ⟨_, cap0, rfl, by omega, fun _ => ⟨g0, 0, rfl, by have := hb g0 rfl; omega, fun j hj => ?_⟩⟩
    rw [Nat.zero_add]
    obtain ⟨q, hq, hq2⟩ := hr j hj
    have hcj : cur0[j]? = some q := by
      have e : (cur0.toList.take (B.ns * 1))[j]? = some q := by rw [h8]; exact hq
      rw [List.getElem?_take, if_pos (by omega)] at e
      simpa using e
    refine ⟨q, cell_blk h4' j hcj, ?_⟩
    by_cases hjs : j = s
    · subst hjs
      rw [hrs] at hq
      injection hq with hq
      subst hq
      simpa using k5 hz
    · have e3 := hMm (j + 1) B.ns (by omega) (Nat.le_refl _)
      have hdis : ∀ k, M j ≤ k → k < M (j + 1) → k ≠ g := fun k ha hb' => by
        rintro rfl
        rcases Nat.lt_or_gt_of_ne hjs with hlt | hlt
        · have := hMm (j + 1) s (by omega) (by omega); omega
        · have := hMm (s + 1) j (by omega) (by omega); omega
      have hrow : RowsIn (w.setCell ⟨g, i, none⟩ r) (M j) (M (j + 1)) q (B.nc j) (B.ncc j) (B.can j) := hq2.keep fun k cs t ha hb' _ _ => hoth k (hdis k ha hb')
      have hlj := hl j hj
      have hsz : (w.setCell ⟨g, i, none⟩ r).heap.size = w.heap.size := by simp [World.setCell]
      have := hrow.rows (by rw [hsz]; omega) (by omega) (fun i hi => by have := hlj.2 i hi; omega)
      rw [hsz] at this
      simpa [hjs] using this

end Go.Proofs.Ytopajgnemeodeaa
