/-
  LBox: the book with one sort less, as a law makes it.
-/
import Derived.Test.YtbieglmpkljjjaaLLess
import Derived.Test.YtbieglmpkljjjaaTwice2
import Derived.Deep.DeepCutAuto
namespace Go.Proofs.Ytbieglmpkljjjaa
open Go.RowKit

def newsF (R : Nat → Value) (k n : Nat) : List Value := (List.range n).map fun i => R (k + i)
theorem newsF_len (R : Nat → Value) (k n : Nat) : (newsF R k n).length = n := by simp [newsF]
theorem newsF_at {R : Nat → Value} {k n j : Nat} {u : Value} (h : (newsF R k n)[j]? = some u) : j < n ∧ u = R (k + j) := by
  unfold newsF at h
  rw [List.getElem?_map, Option.map_eq_some_iff] at h
  obtain ⟨a, h1, rfl⟩ := h
  obtain ⟨h2, h3⟩ := List.getElem?_eq_some_iff.1 h1
  rw [List.length_range] at h2
  rw [List.getElem_range] at h3
  exact ⟨h2, by rw [h3]⟩
theorem newsF_get {R : Nat → Value} {k n j : Nat} (h : j < n) : (newsF R k n)[j]? = some (R (k + j)) := by
  unfold newsF
  rw [List.getElem?_map, List.getElem?_range h]; rfl
theorem news_cells {w5 W : World} {b off n k m : Nat} {R : Nat → Value} {P : Nat → Prop} (hB : Below w5.heap.size w5 W) (hb : b < w5.heap.size) (HR : ∀ j, j < n → w5.cell? ⟨b, off + j, none⟩ = some (R j) ∧ (R j).oneCell' = true ∧ P j)
    {ad : Addr} (had : ∀ j, j < m → ad.add j = ⟨b, off + (k + j), none⟩) (hkm : k + m ≤ n) : ∀ j u, (newsF R k m)[j]? = some u → W.cell? (ad.add j) = some u := fun j u hu => by
  obtain ⟨h1, rfl⟩ := newsF_at hu
  rw [had j h1, hB.cell (p := ⟨b, off + (k + j), none⟩) hb]
  exact (HR _ (by omega)).1
theorem news_one {w5 : World} {b off n k m : Nat} {R : Nat → Value} {P : Nat → Prop} (HR : ∀ j, j < n → w5.cell? ⟨b, off + j, none⟩ = some (R j) ∧ (R j).oneCell' = true ∧ P j) (hkm : k + m ≤ n) : ∀ u ∈ newsF R k m, u.oneCell' = true := fun u hu => by
  obtain ⟨j, hj, e⟩ := List.getElem_of_mem hu
  obtain ⟨h1, rfl⟩ := newsF_at (List.getElem?_eq_some_iff.2 ⟨hj, e⟩)
  exact (HR _ (by omega)).2.1
theorem addrAdd (b off j : Nat) : (⟨b, off, none⟩ : Addr).add j = ⟨b, off + j, none⟩ := addr_add b off j
theorem rows_empty {W : World} {base g : Nat} (hg : base ≤ g) (h : W.heap[g]? = some (.cells #[] 22 (0, 0))) : W.ownsRow base 22 1 (.slice (some ⟨g, 0, none⟩) 0 0) 0 [] :=
  ⟨rfl, .inr ⟨g, 0, #[], rfl, hg, h, Nat.le_refl _, by unfold maxLen; omega, rfl, rfl⟩⟩
theorem rows_slice {W : World} {base n : Nat} {e : TypeId} {v : Value} {xs : List Value} (h : W.ownsRow base e 1 v n xs) : ∃ av cv, v = .slice av n cv := by
  obtain ⟨_, ⟨e, h0⟩ | ⟨g, c, _, e, _⟩⟩ := h
  · exact ⟨none, 0, by rw [e, h0]⟩
  · exact ⟨_, _, e⟩
theorem own_set1 {W : World} {base hi n : Nat} {e : TypeId} {v : Value} {xs : List Value} (h : W.ownsRow base e 1 v n xs) (hhl : hi < base) (x : Value) : Hid ((W.setCell ⟨hi, 1, none⟩ x).ownsRow base e 1 v n xs) := by
  obtain ⟨h1, h2 | ⟨g, cap, cur, e1, h3, h4, h5⟩⟩ := h
  · exact ⟨h1, .inl h2⟩
  · refine ⟨h1, .inr ⟨g, cap, cur, e1, h3, ?_, h5⟩⟩
    rw [Below.heap_setCell _ _ _ _ (by show g ≠ hi; omega)]
    exact h4

/-- the rows but one -/
theorem less_rows {w4 W : World} {base n s : Nat} {R : Nat → Value} {L : Nat → Nat} {X : Nat → Nat → Int} {v2 : Value} (hs : s < n)
    (HO : W.ownsRow base 22 1 v2 (s + (n - (s + 1))) (newsF R 0 s ++ newsF R (s + 1) (n - (s + 1)))) (HR : ∀ j, j < n → IntsAt w4.heap.size w4 (R j) (L j) (X j))
    (hB : Below w4.heap.size w4 W) (hn : n ≤ 140737488351232) : RowsAt W.heap.size W v2 (n - 1) (fun i => L (skipN s i)) (fun i => X (skipN s i)) := by
  have e : s + (n - (s + 1)) = n - 1 := by omega
  rw [e] at HO
  obtain ⟨h1, ⟨rfl, h2⟩ | ⟨g, cap, cur, rfl, h3, h4, h5, h6, h7, h8⟩⟩ := HO
  · exact ⟨none, 0, by rw [h2], by omega, fun h0 => by omega⟩
  · refine ⟨_, cap, rfl, by omega, fun _ => ⟨g, 0, rfl, (Array.getElem?_eq_some_iff.1 h4).1, fun i hi => ⟨R (skipN s i), ?_, (HR _ (skip_lt hs hi)).mono hB hB.size⟩⟩⟩
    have hh := World.ownsRow.cells (w := W) (base := base) (e := 22) (size := 1) (v := .slice (some ⟨g, 0, none⟩) (n - 1) cap) (n := n - 1) (xs := newsF R 0 s ++ newsF R (s + 1) (n - (s + 1))) ⟨h1, .inr ⟨g, cap, cur, rfl, h3, h4, h5, h6, h7, h8⟩⟩ rfl i (R (skipN s i)) (by
      unfold skipN
      by_cases hc : i < s
      · rw [List.getElem?_append_left (by rw [newsF_len]; exact hc), newsF_get hc, if_pos hc, Nat.zero_add]
      · rw [List.getElem?_append_right (by rw [newsF_len]; omega), newsF_len, newsF_get (by omega), if_neg hc]
        congr 2; omega)
    rw [addrAdd] at hh
    exact hh

/-- the node that stands alone -/
theorem lone_nodes {W : World} {g : Nat} (h : W.heap[g]? = some (.cells #[.int .i64 (-1), .int .i64 (-1), .slice none 0 0] 41 (0, 0))) : NodesAt W.heap.size W (.slice (some ⟨g, 0, none⟩) 1 1) loneN := by
  refine ⟨_, 1, rfl, by show 1 ≤ _; omega, fun _ => ⟨g, 0, rfl, (Array.getElem?_eq_some_iff.1 h).1, fun i hi => ?_⟩⟩
  have hi0 : i = 0 := by have h1 : i < 1 := hi; omega
  subst hi0
  exact ⟨cell_blk h 0 rfl, cell_blk h 1 rfl, .slice none 0 0, cell_blk h 2 rfl, none, 0, rfl, by show 0 ≤ _; omega, fun h0 => absurd h0 (Nat.lt_irrefl 0)⟩

theorem own_setI {W : World} {base hi n i : Nat} {e : TypeId} {v : Value} {xs : List Value} (h : W.ownsRow base e 1 v n xs) (hhl : hi < base) (x : Value) : (W.setCell ⟨hi, i, none⟩ x).ownsRow base e 1 v n xs := by
  obtain ⟨h1, h2 | ⟨g, cap, cur, e1, h3, h4, h5⟩⟩ := h
  · exact ⟨h1, .inl h2⟩
  · refine ⟨h1, .inr ⟨g, cap, cur, e1, h3, ?_, h5⟩⟩
    rw [Below.heap_setCell _ _ _ _ (by show g ≠ hi; omega)]
    exact h4
/-- the nodes' place in the box is written -/
theorem lone_store {wc w6 : World} {hi : Nat} {z0 z1 z2 v : Value} {t : TypeId} {o : Obj} (h : wc.heap[hi]? = some (Obj.cells #[z0, z1, z2] t (0, 0))) (e : (wc.setCell ⟨hi, 2, none⟩ v).alloc o = w6) :
    w6.heap[hi]? = some (Obj.cells #[z0, z1, v] t (0, 0)) ∧ w6.heap[wc.heap.size]? = some o ∧ (∀ N, N ≤ hi → Below N wc w6) ∧ wc.heap.size < w6.heap.size ∧
      ∀ {base n : Nat} {ty : TypeId} {u : Value} {xs : List Value}, hi < base → wc.ownsRow base ty 1 u n xs → w6.ownsRow base ty 1 u n xs := by
  have hlt := (Array.getElem?_eq_some_iff.1 h).1
  have hsz : (wc.setCell ⟨hi, 2, none⟩ v).heap.size = wc.heap.size := by simp [World.setCell]
  have hb := below_alloc (N := (wc.setCell ⟨hi, 2, none⟩ v).heap.size) (Nat.le_refl _) o
  have h' : (wc.setCell ⟨hi, 2, none⟩ v).heap[hi]? = some (Obj.cells #[z0, z1, v] t (0, 0)) := by simp [World.setCell, Array.getElem?_modify, h]
  subst e
  refine ⟨keep_blk hb h', ?_, fun N hN => ((Below.refl N wc).setCell (p := ⟨hi, 2, none⟩) hN _).trans (hb.mono (by omega)), by simp [hsz], fun hl ho => own_below (own_setI ho hl _) hb⟩
  have := World.alloc_heap_new (wc.setCell ⟨hi, 2, none⟩ v) o
  rw [hsz] at this
  exact this
theorem has_bits0 : ∀ s : Fin 256, ∀ i : Fin 8, (bits BinOp.and IntKind.i64 ((s.val : Int) / 2 ^ i.val) 1 == 0) = !s.val.testBit i.val := by decide +kernel

end Go.Proofs.Ytbieglmpkljjjaa
