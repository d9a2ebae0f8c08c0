/-
  Lists of rows of the call's own, whose rows are replaced one by one.
-/
import Derived.Test.YtopajgnemeodeaaOrder3
import Derived.Deep.Slices
namespace Go.Proofs.Ytopajgnemeodeaa
open Go.RowKit

/-- sort by sort a block of rows of its own; the rows lie from lo on -/
def MidAt (w : World) (lo g0 : Nat) (G : Nat → Nat) (B : Bk) (K : Nat → Nat → Nat) (X : Nat → Nat → Nat → Int) : Prop :=
  ∀ s, s < B.ns → ∃ cap cur, w.cell? ⟨g0, s, none⟩ = some (.slice (some ⟨G s, 0, none⟩) (B.nc s) cap) ∧ lo ≤ G s ∧ G s ≠ g0 ∧ w.heap[G s]? = some (Obj.cells cur 22 (0, 0)) ∧ B.nc s ≤ cur.size ∧ (∀ t, t < B.ns → t ≠ s → G t ≠ G s) ∧
    ∀ i, i < B.nc s → ∃ r, cur[i]? = some r ∧ RowIn w lo w.heap.size r (K s i) (X s i)

theorem MidAt.grow {w w' : World} {lo g0 : Nat} {G : Nat → Nat} {B : Bk} {K : Nat → Nat → Nat} {X : Nat → Nat → Nat → Int} (h : MidAt w lo g0 G B K X) (hb : Below w.heap.size w w') : MidAt w' lo g0 G B K X := fun s hs => by
  obtain ⟨cap, cur, h1, h2, h3, h4, h5, h6, h7⟩ := h s hs
  refine ⟨cap, cur, (hb.cell (p := ⟨g0, s, none⟩) (World.block_lt_of_cell? w _ h1)).trans h1, h2, h3, keep_blk hb h4, h5, h6, fun i hi => ?_⟩
  obtain ⟨r, k1, k2⟩ := h7 i hi
  exact ⟨r, k1, (k2.grow hb).wider (Nat.le_refl _) hb.size⟩

theorem MidAt.put {w : World} {lo g0 : Nat} {G : Nat → Nat} {B : Bk} {K : Nat → Nat → Nat} {X : Nat → Nat → Nat → Int} (h : MidAt w lo g0 G B K X) {s i n : Nat} {r : Value} {x : Nat → Int} (hs : s < B.ns) (hi : i < B.nc s) (hr : RowIn w lo w.heap.size r n x) :
    MidAt (w.setCell ⟨G s, i, none⟩ r) lo g0 G B (fun t j => if t = s ∧ j = i then n else K t j) (fun t j => if t = s ∧ j = i then x else X t j) := fun t ht => by
  obtain ⟨cap, cur, h1, h2, h3, h4, h5, h6, h7⟩ := h s hs
  obtain ⟨capt, curt, t1, t2, t3, t4, t5, t6, t7⟩ := h t ht
  have hoth : ∀ k, k ≠ G s → (w.setCell ⟨G s, i, none⟩ r).heap[k]? = w.heap[k]? := fun k hk => Below.heap_setCell _ _ _ _ (by exact hk)
  have hsz : (w.setCell ⟨G s, i, none⟩ r).heap.size = w.heap.size := by simp [World.setCell]
  have hkeep : ∀ {q : Value} {m : Nat} {y : Nat → Int}, RowIn w lo w.heap.size q m y → RowIn (w.setCell ⟨G s, i, none⟩ r) lo (w.setCell ⟨G s, i, none⟩ r).heap.size q m y := fun hq => by
    rw [hsz]
    exact hq.keep fun k c2 _ _ hk => set_other h4 k c2 _ (by decide) hk
  have hc0 : (w.setCell ⟨G s, i, none⟩ r).cell? ⟨g0, t, none⟩ = some (.slice (some ⟨G t, 0, none⟩) (B.nc t) capt) := by
    have hb : Below (g0 + 1) w w := Below.refl _ _
    unfold World.cell? at t1 ⊢
    rw [hoth g0 (Ne.symm h3)]
    exact t1
  by_cases hts : t = s
  · subst hts
    have hset : (w.setCell ⟨G t, i, none⟩ r).heap[G t]? = some (Obj.cells (cur.setIfInBounds i r) 22 (0, 0)) := by
      simp [World.setCell, Array.getElem?_modify, h4]
    refine ⟨capt, _, hc0, h2, h3, hset, by simpa using h5, h6, fun j hj => ?_⟩
    by_cases hji : j = i
    · subst hji
      have hlt : j < cur.size := by omega
      refine ⟨r, by simp [hlt], ?_⟩
      show RowIn _ _ _ _ (if t = t ∧ j = j then n else K t j) (if t = t ∧ j = j then x else X t j)
      rw [if_pos ⟨rfl, rfl⟩, if_pos ⟨rfl, rfl⟩]
      exact hkeep hr
    · obtain ⟨q, k1, k2⟩ := h7 j hj
      refine ⟨q, by rw [Array.getElem?_setIfInBounds_ne (by omega)]; exact k1, ?_⟩
      show RowIn _ _ _ _ (if t = t ∧ j = i then n else K t j) (if t = t ∧ j = i then x else X t j)
      rw [if_neg fun e => hji e.2, if_neg fun e => hji e.2]
      exact hkeep k2
  · refine ⟨capt, curt, hc0, t2, t3, (hoth (G t) (h6 t ht hts)).trans t4, t5, t6, fun j hj => ?_⟩
    obtain ⟨q, k1, k2⟩ := t7 j hj
    refine ⟨q, k1, ?_⟩
    show RowIn _ _ _ _ (if t = s ∧ j = i then n else K t j) (if t = s ∧ j = i then x else X t j)
    rw [if_neg fun e => hts e.1, if_neg fun e => hts e.1]
    exact hkeep k2

theorem MidAt.sorts {w : World} {lo g0 cap0 : Nat} {G : Nat → Nat} {B : Bk} {K : Nat → Nat → Nat} {X : Nat → Nat → Nat → Int} (h : MidAt w lo g0 G B K X) (h0 : g0 < w.heap.size) (hn : B.ns ≤ 1000000) (hl : ∀ s, s < B.ns → B.nc s ≤ 1000 ∧ ∀ i, i < B.nc s → K s i ≤ 1000) :
    SortsAt w.heap.size w (.slice (some ⟨g0, 0, none⟩) B.ns cap0) B.ns B.nc K X := by
  refine ⟨_, cap0, rfl, by omega, fun _ => ⟨g0, 0, rfl, h0, fun s hs => ?_⟩⟩
  rw [Nat.zero_add]
  obtain ⟨cap, cur, h1, h2, h3, h4, h5, h6, h7⟩ := h s hs
  have hls := hl s hs
  refine ⟨_, h1, _, cap, rfl, by omega, fun _ => ⟨G s, 0, rfl, (Array.getElem?_eq_some_iff.1 h4).1, fun i hi => ?_⟩⟩
  rw [Nat.zero_add]
  obtain ⟨r, k1, k2⟩ := h7 i hi
  exact ⟨r, cell_blk h4 i k1, k2.ints (by have := hls.2 i hi; omega)⟩

theorem MidAt.alike {w : World} {lo g0 : Nat} {G : Nat → Nat} {B : Bk} {K K' : Nat → Nat → Nat} {X X' : Nat → Nat → Nat → Int} (h : MidAt w lo g0 G B K X) (e : ∀ s, s < B.ns → ∀ i, i < B.nc s → K s i = K' s i ∧ ∀ k, X s i k = X' s i k) : MidAt w lo g0 G B K' X' := fun s hs => by
  obtain ⟨cap, cur, h1, h2, h3, h4, h5, h6, h7⟩ := h s hs
  refine ⟨cap, cur, h1, h2, h3, h4, h5, h6, fun i hi => ?_⟩
  obtain ⟨r, k1, k2⟩ := h7 i hi
  obtain ⟨e1, e2⟩ := e s hs i hi
  refine ⟨r, k1, ?_⟩
  rw [← e1, show X' s i = X s i from funext fun k => (e2 k).symm]
  exact k2

theorem SortsIn.mid {w : World} {lo hi : Nat} {v : Value} {B : Bk} (h : SortsIn w lo hi v B.ns B) (hh : hi ≤ w.heap.size) (h0 : 0 < B.ns) (hc : ∀ s, s < B.ns → 0 < B.nc s) :
    ∃ g0 cap0 G, v = .slice (some ⟨g0, 0, none⟩) B.ns cap0 ∧ lo ≤ g0 ∧ g0 < w.heap.size ∧ (∃ cur, w.heap[g0]? = some (Obj.cells cur 73 (0, 0))) ∧ MidAt w lo g0 G B B.ncc B.can := by
  obtain ⟨rows, M, ho, hb, hlen, hl0, hM, hm', hr⟩ := h
  have hMm := mono_M hm'
  obtain ⟨h1, ⟨rfl, h2⟩ | ⟨g0, cap0, cur0, rfl, h3, h4, h5, h6, h7, h8⟩⟩ := id ho
  · omega
  · have each : ∀ s, s < B.ns → ∃ g : Nat, ∃ cap cur, w.cell? ⟨g0, s, none⟩ = some (.slice (some ⟨g, 0, none⟩) (B.nc s) cap) ∧ M s ≤ g ∧ g < M (s + 1) ∧ w.heap[g]? = some (Obj.cells cur 22 (0, 0)) ∧ B.nc s ≤ cur.size ∧
        ∀ i, i < B.nc s → ∃ r, cur[i]? = some r ∧ RowIn w lo w.heap.size r (B.ncc s i) (B.can s i) := fun s hs => by
      obtain ⟨rs, hrs, rows2, M2, ho2, hb2, hlen2, hl2, hM2, hm2, hr2⟩ := hr s hs
      have hM2m := mono_M hm2
      have hcs := hc s hs
      have e1 := hMm 0 s (Nat.zero_le _) (by omega)
      have e2 := hMm (s + 1) B.ns (by omega) (Nat.le_refl _)
      obtain ⟨k1, ⟨rfl, k2⟩ | ⟨g, cap, cur, rfl, k3, k4, k5, k6, k7, k8⟩⟩ := id ho2
      · omega
      · refine ⟨g, cap, cur, own_cell ho s hrs, k3, hb2 g rfl, k4, by omega, fun i hi => ?_⟩
        obtain ⟨q, hq, hq2⟩ := hr2 i hi
        have hci : cur[i]? = some q := by
          have e : (cur.toList.take (B.nc s * 1))[i]? = some q := by rw [k8]; exact hq
          rw [List.getElem?_take, if_pos (by omega)] at e
          simpa using e
        have e3 := hM2m 0 i (Nat.zero_le _) (by omega)
        have e4 := hM2m (i + 1) (B.nc s) (by omega) (Nat.le_refl _)
        exact ⟨q, hci, hq2.wider (by omega) (by omega)⟩
    obtain ⟨G, hG⟩ := Deep.choose_lt each
    refine ⟨g0, cap0, G, rfl, h3, (Array.getElem?_eq_some_iff.1 h4).1, ⟨cur0, h4⟩, fun s hs => ?_⟩
    obtain ⟨cap, cur, k1, k2, k3, k4, k5, k6⟩ := hG s hs
    have e1 := hMm 0 s (Nat.zero_le _) (by omega)
    refine ⟨cap, cur, k1, by omega, ?_, k4, k5, fun t ht hts => ?_, k6⟩
    · intro e
      rw [e, h4] at k4
      injection k4 with k4
      injection k4 with _ ht
      exact absurd ht (by decide)
    · obtain ⟨_, _, _, t2, t3, _⟩ := hG t ht
      rcases Nat.lt_or_gt_of_ne hts with hlt | hlt
      · have := hMm (t + 1) s (by omega) (by omega); omega
      · have := hMm (s + 1) t (by omega) (by omega); omega

end Go.Proofs.Ytopajgnemeodeaa
