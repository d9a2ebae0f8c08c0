/-
  ShortR: short of the reference.
-/
import Derived.Test.YtghimbggbgcgkaaShort0
import Derived.Test.YtghimbggbgcgkaaLBox
import Derived.Test.YtghimbggbgcgkaaFew2
import Derived.Test.YtghimbggbgcgkaaFew3
namespace Go.Proofs.Ytghimbggbgcgkaa
open Go.RowKit

theorem own_rows {w4 W : World} {base : Nat} {v : Value} {vals : List Value} {L : Nat → Nat} {X : Nat → Nat → Int} (HO : W.ownsRow base 22 1 v vals.length vals)
    (HR : ∀ j u, vals[j]? = some u → IntsAt w4.heap.size w4 u (L j) (X j)) (hB : Below w4.heap.size w4 W) (hn : vals.length ≤ 140737488351232) : RowsAt W.heap.size W v vals.length L X := by
  obtain ⟨h1, ⟨rfl, h2⟩ | ⟨g, cap, cur, rfl, h3, h4, h5, h6, h7, h8⟩⟩ := HO
  · exact ⟨none, 0, by rw [h2], hn, fun h0 => by omega⟩
  · refine ⟨_, cap, rfl, hn, fun _ => ⟨g, 0, rfl, (Array.getElem?_eq_some_iff.1 h4).1, fun i hi => ⟨vals[i], ?_, (HR _ _ (List.getElem?_eq_getElem hi)).mono hB hB.size⟩⟩⟩
    have hh := World.ownsRow.cells (w := W) (base := base) (e := 22) (size := 1) (v := .slice (some ⟨g, 0, none⟩) vals.length cap) (n := vals.length) (xs := vals) ⟨h1, .inr ⟨g, cap, cur, rfl, h3, h4, h5, h6, h7, h8⟩⟩ rfl i vals[i] (List.getElem?_eq_getElem hi)
    rw [addrAdd] at hh
    exact hh

/-- a list of fruits -/
def ZsAt (N : Nat) (w : World) (v : Value) (n : Nat) (zs : List (List Int)) : Prop := RowsAt N w v zs.length (fun _ => n) (fun i => atL (zs.getD i []))
theorem orI_bits : ∀ s : Fin 32, ∀ i : Fin 5, bits BinOp.or IntKind.i64 (s.val : Int) (IntKind.i64.wrap (2 ^ i.val)) = (put1 s.val i.val : Nat) := by decide +kernel
theorem put1_lt32 : ∀ s : Fin 32, ∀ i : Fin 5, put1 s.val i.val < 32 := by decide +kernel

theorem cubeF_ne {B : KB} (hG : GoodB B) {c : Nat → Int} (h : CubeOk B c) : cubeF B c ≠ [] := by
  intro e
  have hin := zeroC_in (c := c) (V := B.V) (k := B.nv) (fun i hi => by have := (hG.V i hi).1; omega) h.val
  have hat : ∀ i, i < B.nv → atL (fromF B.nv (zeroC c)) i = zeroC c i := fun i hi => by simp [atL, fromF, hi]
  have hm : fromF B.nv (zeroC c) ∈ cubeF B c := by
    refine cubeF_mem.2 ⟨(allF_mem B _).2 ⟨fromF_len _ _, fun i hi => ?_⟩, fun i hi => ?_⟩
    · rw [hat i hi]
      exact ⟨(hin i hi).1, (hin i hi).2.1, fun h' => absurd rfl h'⟩
    · rw [hat i hi]
      rcases h.val i hi with h1 | ⟨h1, h2⟩
      · exact .inl h1
      · right; unfold zeroC; omega
  rw [e] at hm
  cases hm
theorem cubeF_len {B : KB} (hG : GoodB B) (c : Nat → Int) : (cubeF B c).length ≤ 243 := by
  have h1 := frl_le B.V B.nv (fun i hi => (hG.V i hi).2) B.nv [] (by simp)
  have h2 : (allF B).length ≤ 243 := Nat.le_trans h1 (Nat.pow_le_pow_right (n := 3) (by omega) hG.nv)
  exact Nat.le_trans (List.length_filter_le _ _) h2
theorem cubeF_good {B : KB} {c : Nat → Int} {z : List Int} (h : z ∈ cubeF B c) : z.length = B.nv ∧ GoodX B.nv B.V B.nv (atL z) := by
  obtain ⟨h1, h2⟩ := (allF_mem B z).1 (cubeF_mem.1 h).1
  exact ⟨h1, inC_goodX h2⟩

/-- what short says -/
def SaysRS (B : KB) (f : Nat) : Prop := ∀ (c : Nat → Int) (N M a : Nat) (v u : Value) (w : World), CubeOk B c → freeC B c ≤ f → BookAt N w v B → M ≤ w.heap.size → ZsAt M w u B.nv (cubeF B c) → a < 32 → (∀ i, i < B.nv → a.testBit i = !decide (c i = -1)) →
    Calls Try.prog 95 #[v, u, .int .i64 a] w fun e w' => e = .returned (.int .i64 (costC B f c)) ∧ Below w.heap.size w w'

def firstS (B : KB) (zs : List (List Int)) (z0 : List Int) (k : Nat) : Bool := (zs.take k).all fun z => decide (endZ B z = endZ B z0)
theorem firstS_zero (B : KB) (zs : List (List Int)) (z0 : List Int) : firstS B zs z0 0 = true := by simp [firstS]
theorem firstS_succ {B : KB} {zs : List (List Int)} {z0 z : List Int} {k : Nat} (h : zs[k]? = some z) : firstS B zs z0 (k + 1) = (firstS B zs z0 k && decide (endZ B z = endZ B z0)) := by
  unfold firstS
  rw [List.take_add_one, h, List.all_append]
  simp
theorem firstS_all {B : KB} {zs : List (List Int)} {z0 : List Int} (h : zs[0]? = some z0) : firstS B zs z0 zs.length = sameZ B zs := by
  unfold firstS sameZ
  rw [List.take_length]
  cases zs with
  | nil => cases h
  | cons a l => injection h with h; subst h; rfl
/-- those of the first j fruits that have a value of a mark -/
def idxF (zs : List (List Int)) (m : Nat) (v : Int) (j : Nat) : List Nat := (List.range j).filter fun i => decide (atL (zs.getD i []) m = v)
theorem idxF_hit {zs : List (List Int)} {m : Nat} {v : Int} {j : Nat} (h : atL (zs.getD j []) m = v) : idxF zs m v (j + 1) = idxF zs m v j ++ [j] := by
  unfold idxF
  rw [List.range_succ, List.filter_append]
  simp only [List.getD] at h
  simp [h]
theorem idxF_miss {zs : List (List Int)} {m : Nat} {v : Int} {j : Nat} (h : ¬ atL (zs.getD j []) m = v) : idxF zs m v (j + 1) = idxF zs m v j := by
  unfold idxF
  rw [List.range_succ, List.filter_append]
  simp only [List.getD] at h
  simp [h]
theorem idxF_len (zs : List (List Int)) (m : Nat) (v : Int) (j : Nat) : (idxF zs m v j).length ≤ j := by
  unfold idxF
  have := List.length_filter_le (fun i => decide (atL (zs.getD i []) m = v)) (List.range j)
  rw [List.length_range] at this
  exact this
theorem idxF_lt {zs : List (List Int)} {m : Nat} {v : Int} {j i : Nat} (h : i ∈ idxF zs m v j) : i < j := by
  unfold idxF at h
  exact List.mem_range.1 (List.mem_filter.1 h).1
theorem range_getD {zs : List (List Int)} : (List.range zs.length).map (fun i => zs.getD i []) = zs := by
  refine List.ext_getElem (by simp) fun i h1 h2 => ?_
  simp [List.getD, h2]
theorem idxF_all (zs : List (List Int)) (m : Nat) (v : Int) : (idxF zs m v zs.length).map (fun i => zs.getD i []) = zs.filter fun z => decide (atL z m = v) := by
  unfold idxF
  have h := List.filter_map (p := fun z : List Int => decide (atL z m = v)) (f := fun i : Nat => zs.getD i []) (l := List.range zs.length)
  rw [range_getD] at h
  rw [h]
  rfl

end Go.Proofs.Ytghimbggbgcgkaa
