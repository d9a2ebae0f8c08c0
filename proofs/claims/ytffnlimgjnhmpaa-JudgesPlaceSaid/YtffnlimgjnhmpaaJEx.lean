/-
  JEx: the example's shows, in words.
-/
import Derived.Test.YtffnlimgjnhmpaaJKRo
import Derived.Test.YtffnlimgjnhmpaaJKO
namespace Go.Proofs.Ytffnlimgjnhmpaa
open Go.RowKit

def exJ : JB := ⟨3, 0, 1, 3, fun i => [(50 : Int), 60, 40].getD i 0, fun i => [[(10 : Int), 12, -1], [9, 11, 8], [15, -1, -1]].getD i []⟩
def exK : JB := ⟨3, 0, 1, 3, fun i => [(50 : Int), 60, 40].getD i 0, fun i => [[(10 : Int), 12, 6], [9, 11, 8], [15, 5, 7]].getD i []⟩
theorem exJ_ok : errA (okS exJ) (inN 0 exJ.np) = 0 := by decide +kernel
theorem exJ_ok2 : errA (okS exJ) (inN 2 exJ.np) = 0 := by decide +kernel
theorem exJ_pl : (plLo exJ 0, plHi exJ 0) = (1, 3) := by decide +kernel
theorem exJ_nd : (ndV exJ 2, ndB exJ 2) = (43, true) := by decide +kernel
theorem exK_ok : errC (okS exK) true (allIn exK) = 0 := by decide +kernel
theorem exK_okm : errC (okS exK) (isMk exK 2 0) (allIn exK) = 0 := by decide +kernel
theorem exK_rnk : rnk exK exK.np = [1, 0, 2] := by decide +kernel
theorem exK_dec : dec exK = [1, 2] := by decide +kernel
theorem exK_room : room exK 2 0 21 = (0, 16) := by decide +kernel

theorem allocs4 (w : World) (o1 o2 o3 o4 : Obj) : ∃ ws : World, (((w.alloc o1).alloc o2).alloc o3).alloc o4 = ws ∧ Hid (Below w.heap.size w ws) ∧ ws.heap.size = w.heap.size + 4 ∧
    ws.heap[w.heap.size]? = some o1 ∧ ws.heap[w.heap.size + 1]? = some o2 ∧ ws.heap[w.heap.size + 1 + 1]? = some o3 ∧ ws.heap[w.heap.size + 1 + 1 + 1]? = some o4 := by
  have s1 : (w.alloc o1).heap.size = w.heap.size + 1 := by simp
  have s2 : ((w.alloc o1).alloc o2).heap.size = w.heap.size + 1 + 1 := by simp
  have s3 : (((w.alloc o1).alloc o2).alloc o3).heap.size = w.heap.size + 1 + 1 + 1 := by simp
  have n1 := World.alloc_heap_new w o1
  have n2 := World.alloc_heap_new (w.alloc o1) o2
  have n3 := World.alloc_heap_new ((w.alloc o1).alloc o2) o3
  have n4 := World.alloc_heap_new (((w.alloc o1).alloc o2).alloc o3) o4
  rw [s1] at n2; rw [s2] at n3; rw [s3] at n4
  refine ⟨_, rfl, ((((Below.refl _ w).alloc (Nat.le_refl _) _).alloc (by omega) _).alloc (by omega) _).alloc (by omega) _, by simp, ?_, ?_, ?_, n4⟩
  · rw [Below.heap_alloc _ _ _ (by omega), Below.heap_alloc _ _ _ (by omega), Below.heap_alloc _ _ _ (by omega)]; exact n1
  · rw [Below.heap_alloc _ _ _ (by omega), Below.heap_alloc _ _ _ (by omega)]; exact n2
  · rw [Below.heap_alloc _ _ _ (by omega)]; exact n3

/-- three lists of three points, and a list of the plates -/
theorem ex_show {W : World} {b : Nat} {S : JB} {x0 x1 x2 : Int} {l0 l1 l2 : List Int}
    (hn : S.np = 3) (hs : S.sz = fun i => [x0, x1, x2].getD i 0) (hp : S.pts = fun i => [l0, l1, l2].getD i [])
    (h0 : l0.length = 3) (h1 : l1.length = 3) (h2 : l2.length = 3)
    (k0 : W.heap[b]? = some (.cells (l0.map (Value.int .i64)).toArray 3)) (k1 : W.heap[b + 1]? = some (.cells (l1.map (Value.int .i64)).toArray 3)) (k2 : W.heap[b + 1 + 1]? = some (.cells (l2.map (Value.int .i64)).toArray 3))
    (k3 : W.heap[b + 1 + 1 + 1]? = some (.cells #[.int .i64 x0, .slice (some ⟨b, 0, none⟩) 3 3, .int .i64 x1, .slice (some ⟨b + 1, 0, none⟩) 3 3, .int .i64 x2, .slice (some ⟨b + 1 + 1, 0, none⟩) 3 3] 40)) :
    ShowAt W.heap.size W (.agg #[.int .i64 S.J, .int .i64 S.D, .int .i64 S.Z, .slice (some ⟨b + 1 + 1 + 1, 0, none⟩) 3 3]) S := by
  obtain ⟨J, D, Z, np, sz, pts⟩ := S
  simp only at hn hs hp
  subst hn hs hp
  have hri : ∀ (g : Nat) (l : List Int), l.length = 3 → W.heap[g]? = some (.cells (l.map (Value.int .i64)).toArray 3) → LI W.heap.size W (.slice (some ⟨g, 0, none⟩) 3 3) l := fun g l hl hg => by
    have : RI 0 W (.slice (some ⟨g, 0, none⟩) 3 3) l := .inr ⟨by omega, g, 3, _, by rw [hl], Nat.zero_le _, by omega, hg, fun i hi => by
      rw [List.getElem?_toArray, List.getElem?_map, List.getElem?_eq_getElem hi, getD_at hi]; rfl⟩
    exact this.li (by omega)
  have hpk : PK 0 W (.slice (some ⟨b + 1 + 1 + 1, 0, none⟩) 3 3) 3 (fun i => [x0, x1, x2].getD i 0) (fun i => [Value.slice (some ⟨b, 0, none⟩) 3 3, .slice (some ⟨b + 1, 0, none⟩) 3 3, .slice (some ⟨b + 1 + 1, 0, none⟩) 3 3].getD i undef) :=
    .inr ⟨by omega, _, 3, _, rfl, Nat.zero_le _, Nat.le_refl _, k3, fun i hi => by
      rcases i with _ | _ | _ | i
      · exact ⟨rfl, rfl⟩
      · exact ⟨rfl, rfl⟩
      · exact ⟨rfl, rfl⟩
      · omega⟩
  refine hpk.show (pts := fun i => [l0, l1, l2].getD i []) (by omega) (fun i hi => ?_) J D Z
  rcases i with _ | _ | _ | i
  · exact ⟨some ⟨b, 0, none⟩, 3, by show _ = Value.slice _ l0.length 3; rw [h0]; rfl, by show l0.length ≤ 3; omega, hri _ _ h0 k0⟩
  · exact ⟨some ⟨b + 1, 0, none⟩, 3, by show _ = Value.slice _ l1.length 3; rw [h1]; rfl, by show l1.length ≤ 3; omega, hri _ _ h1 k1⟩
  · exact ⟨some ⟨b + 1 + 1, 0, none⟩, 3, by show _ = Value.slice _ l2.length 3; rw [h2]; rfl, by show l2.length ≤ 3; omega, hri _ _ h2 k2⟩
  · omega

end Go.Proofs.Ytffnlimgjnhmpaa
