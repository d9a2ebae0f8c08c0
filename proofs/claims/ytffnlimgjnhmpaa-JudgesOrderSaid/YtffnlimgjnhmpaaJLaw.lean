/-
  JEx: the example's shows, in words.
  JWk: the example of the laws.
  JWks: works.
  JLaw: Far, Same.
-/
import Derived.Test.YtffnlimgjnhmpaaJKRo
import Derived.Test.YtffnlimgjnhmpaaJKO
import Derived.Laws.StructEq
namespace Go.Proofs.Ytffnlimgjnhmpaa
open Go.RowKit

def exJ : JB := ⟨3, 0, 1, 3, fun i => [(50 : Int), 60, 40].getD i 0, fun i => [[(10 : Int), 12, -1], [9, 11, 8], [15, -1, -1]].getD i []⟩
def exK : JB := ⟨3, 0, 1, 3, fun i => [(50 : Int), 60, 40].getD i 0, fun i => [[(10 : Int), 12, 6], [9, 11, 8], [15, 5, 7]].getD i []⟩
theorem exJ_ok : errA (okS exJ) (inN 0 exJ.np) = 0 := by decide +kernel
theorem exJ_ok2 : errA (okS exJ) (inN 2 exJ.np) = 0 := by decide +kernel
theorem exJ_pl : (plLo exJ 0, plHi exJ 0) = (1, 3) := by decide +kernel
theorem exJ_nd : (ndV exJ 2, ndB exJ 2) = (43, true) := by decide +kernel
theorem exK_ok : errC (okS exK) true (allIn exK) = 0 := by decide +kernel
theorem exK_okm : errC (okS exK) (isMk exK 2 0) (allIn exK) = 0 := by decide +kernel
theorem exK_rnk : rnk exK exK.np = [1, 0, 2] := by decide +kernel
theorem exK_dec : dec exK = [1, 2] := by decide +kernel
theorem exK_room : room exK 2 0 21 = (0, 16) := by decide +kernel

theorem allocs4 (w : World) (o1 o2 o3 o4 : Obj) : ∃ ws : World, (((w.alloc o1).alloc o2).alloc o3).alloc o4 = ws ∧ Hid (Below w.heap.size w ws) ∧ ws.heap.size = w.heap.size + 4 ∧
    ws.heap[w.heap.size]? = some o1 ∧ ws.heap[w.heap.size + 1]? = some o2 ∧ ws.heap[w.heap.size + 1 + 1]? = some o3 ∧ ws.heap[w.heap.size + 1 + 1 + 1]? = some o4 := by
  have s1 : (w.alloc o1).heap.size = w.heap.size + 1 := by simp
  have s2 : ((w.alloc o1).alloc o2).heap.size = w.heap.size + 1 + 1 := by simp
  have s3 : (((w.alloc o1).alloc o2).alloc o3).heap.size = w.heap.size + 1 + 1 + 1 := by simp
  have n1 := World.alloc_heap_new w o1
  have n2 := World.alloc_heap_new (w.alloc o1) o2
  have n3 := World.alloc_heap_new ((w.alloc o1).alloc o2) o3
  have n4 := World.alloc_heap_new (((w.alloc o1).alloc o2).alloc o3) o4
  rw [s1] at n2; rw [s2] at n3; rw [s3] at n4
  refine ⟨_, rfl, ((((Below.refl _ w).alloc (Nat.le_refl _) _).alloc (by omega) _).alloc (by omega) _).alloc (by omega) _, by simp, ?_, ?_, ?_, n4⟩
  · rw [Below.heap_alloc _ _ _ (by omega), Below.heap_alloc _ _ _ (by omega), Below.heap_alloc _ _ _ (by omega)]; exact n1
  · rw [Below.heap_alloc _ _ _ (by omega), Below.heap_alloc _ _ _ (by omega)]; exact n2
  · rw [Below.heap_alloc _ _ _ (by omega)]; exact n3

/-- three lists of three points, and a list of the plates -/
theorem ex_show {W : World} {b : Nat} {S : JB} {x0 x1 x2 : Int} {l0 l1 l2 : List Int}
    (hn : S.np = 3) (hs : S.sz = fun i => [x0, x1, x2].getD i 0) (hp : S.pts = fun i => [l0, l1, l2].getD i [])
    (h0 : l0.length = 3) (h1 : l1.length = 3) (h2 : l2.length = 3)
    (k0 : W.heap[b]? = some (.cells (l0.map (Value.int .i64)).toArray 3)) (k1 : W.heap[b + 1]? = some (.cells (l1.map (Value.int .i64)).toArray 3)) (k2 : W.heap[b + 1 + 1]? = some (.cells (l2.map (Value.int .i64)).toArray 3))
    (k3 : W.heap[b + 1 + 1 + 1]? = some (.cells #[.int .i64 x0, .slice (some ⟨b, 0, none⟩) 3 3, .int .i64 x1, .slice (some ⟨b + 1, 0, none⟩) 3 3, .int .i64 x2, .slice (some ⟨b + 1 + 1, 0, none⟩) 3 3] 40)) :
    ShowAt W.heap.size W (.agg #[.int .i64 S.J, .int .i64 S.D, .int .i64 S.Z, .slice (some ⟨b + 1 + 1 + 1, 0, none⟩) 3 3]) S := by
  obtain ⟨J, D, Z, np, sz, pts⟩ := S
  simp only at hn hs hp
  subst hn hs hp
  have hri : ∀ (g : Nat) (l : List Int), l.length = 3 → W.heap[g]? = some (.cells (l.map (Value.int .i64)).toArray 3) → LI W.heap.size W (.slice (some ⟨g, 0, none⟩) 3 3) l := fun g l hl hg => by
    have : RI 0 W (.slice (some ⟨g, 0, none⟩) 3 3) l := .inr ⟨by omega, g, 3, _, by rw [hl], Nat.zero_le _, by omega, hg, fun i hi => by
      rw [List.getElem?_toArray, List.getElem?_map, List.getElem?_eq_getElem hi, getD_at hi]; rfl⟩
    exact this.li (by omega)
  have hpk : PK 0 W (.slice (some ⟨b + 1 + 1 + 1, 0, none⟩) 3 3) 3 (fun i => [x0, x1, x2].getD i 0) (fun i => [Value.slice (some ⟨b, 0, none⟩) 3 3, .slice (some ⟨b + 1, 0, none⟩) 3 3, .slice (some ⟨b + 1 + 1, 0, none⟩) 3 3].getD i undef) :=
    .inr ⟨by omega, _, 3, _, rfl, Nat.zero_le _, Nat.le_refl _, k3, fun i hi => by
      rcases i with _ | _ | _ | i
      · exact ⟨rfl, rfl⟩
      · exact ⟨rfl, rfl⟩
      · exact ⟨rfl, rfl⟩
      · omega⟩
  refine hpk.show (pts := fun i => [l0, l1, l2].getD i []) (by omega) (fun i hi => ?_) J D Z
  rcases i with _ | _ | _ | i
  · exact ⟨some ⟨b, 0, none⟩, 3, by show _ = Value.slice _ l0.length 3; rw [h0]; rfl, by show l0.length ≤ 3; omega, hri _ _ h0 k0⟩
  · exact ⟨some ⟨b + 1, 0, none⟩, 3, by show _ = Value.slice _ l1.length 3; rw [h1]; rfl, by show l1.length ≤ 3; omega, hri _ _ h1 k1⟩
  · exact ⟨some ⟨b + 1 + 1, 0, none⟩, 3, by show _ = Value.slice _ l2.length 3; rw [h2]; rfl, by show l2.length ≤ 3; omega, hri _ _ h2 k2⟩
  · omega

end Go.Proofs.Ytffnlimgjnhmpaa

namespace Go.Proofs.Ytffnlimgjnhmpaa
open Go.RowKit

set_option maxHeartbeats 4000000 in
set_option maxRecDepth 100000 in
theorem example_any (w : World) : Calls Try.prog 54 #[] w fun e w' => ∃ u v, e = .returned (.tuple #[u, v]) ∧ ShowAt w'.heap.size w' u exJ ∧ ShowAt w'.heap.size w' v exK ∧ Below w.heap.size w w' := by
  obtain ⟨wa, hwa, HBa, hsa, hsa1, hza, hza1⟩ := box2 w (.cells #[.int .i64 0, .int .i64 0, .int .i64 0, .slice none 0 0] 24) (.cells #[.int .i64 0, .int .i64 0, .int .i64 0, .slice none 0 0] 24)
  have HZ := Lib.hid (And.intro hza hza1)
  obtain ⟨wb, hwb, HBb, hsb, k0, k1, k2, k3⟩ := allocs4 wa (.cells #[.int .i64 10, .int .i64 12, .int .i64 (-1)] 3) (.cells #[.int .i64 9, .int .i64 11, .int .i64 8] 3) (.cells #[.int .i64 15, .int .i64 (-1), .int .i64 (-1)] 3) (.cells (#[.int .i64 50, .slice (some ⟨wa.heap.size, 0, none⟩) 3 3, .int .i64 60, .slice (some ⟨wa.heap.size + 1, 0, none⟩) 3 3, .int .i64 40, .slice (some ⟨wa.heap.size + 1 + 1, 0, none⟩) 3 3]) 40)
  have HK := Lib.hid (And.intro k0 (And.intro k1 (And.intro k2 k3)))
  have HSB := Lib.hid hsb
  clear k0 k1 k2 k3 hza hza1 hsb
  go_enter Try.func54, Try.ntmps54
  go_upto_region 1 with fail
  (try rw [hwa])
  clear hwa
  have hzb := (HBb.out.block _ hsa).trans HZ.out.1
  have z0 := cell_blk hzb 0 rfl
  have z1 := cell_blk hzb 1 rfl
  have z2 := cell_blk hzb 2 rfl
  have z3 := cell_blk hzb 3 rfl
  have f0 := free_blk hzb 0
  have f1 := free_blk hzb 1
  have f2 := free_blk hzb 2
  have f3 := free_blk hzb 3
  go_upto_region 2 with fail
  obtain ⟨w2, hw2, hz2, ho2, hb2⟩ := put4o hzb (.int .i64 3) (.int .i64 0) (.int .i64 1) (.slice (some ⟨wa.heap.size + 1 + 1 + 1, 0, none⟩) 3 3)
  rw [hw2]
  have HK2 : Hid (w2.heap[wa.heap.size]? = some (.cells #[.int .i64 10, .int .i64 12, .int .i64 (-1)] 3) ∧ w2.heap[wa.heap.size + 1]? = some (.cells #[.int .i64 9, .int .i64 11, .int .i64 8] 3) ∧ w2.heap[wa.heap.size + 1 + 1]? = some (.cells #[.int .i64 15, .int .i64 (-1), .int .i64 (-1)] 3) ∧ w2.heap[wa.heap.size + 1 + 1 + 1]? = some (.cells (#[.int .i64 50, .slice (some ⟨wa.heap.size, 0, none⟩) 3 3, .int .i64 60, .slice (some ⟨wa.heap.size + 1, 0, none⟩) 3 3, .int .i64 40, .slice (some ⟨wa.heap.size + 1 + 1, 0, none⟩) 3 3]) 40)) :=
    ⟨(ho2 _ (by omega)).trans HK.out.1, (ho2 _ (by omega)).trans HK.out.2.1, (ho2 _ (by omega)).trans HK.out.2.2.1, (ho2 _ (by omega)).trans HK.out.2.2.2⟩
  have HZ2 : Hid (w2.heap[w.heap.size]? = some (.cells #[.int .i64 3, .int .i64 0, .int .i64 1, .slice (some ⟨wa.heap.size + 1 + 1 + 1, 0, none⟩) 3 3] 24) ∧ w2.heap[w.heap.size + 1]? = some (.cells #[.int .i64 0, .int .i64 0, .int .i64 0, .slice none 0 0] 24)) :=
    ⟨hz2, (ho2 _ (by omega)).trans ((HBb.out.block _ hsa1).trans HZ.out.2)⟩
  have HB2 : Hid (Below w.heap.size w w2) := HBa.out.trans ((HBb.out.mono HBa.out.size).trans hb2)
  have hs2 : wa.heap.size + 4 ≤ w2.heap.size := by have := hb2.size; have := HSB.out; omega
  clear hwb hw2 hz2 ho2 hb2 hzb z0 z1 z2 z3 f0 f1 f2 f3 HK HZ
  obtain ⟨wc, hwc, HBc, hsc, k0, k1, k2, k3⟩ := allocs4 w2 (.cells #[.int .i64 10, .int .i64 12, .int .i64 6] 3) (.cells #[.int .i64 9, .int .i64 11, .int .i64 8] 3) (.cells #[.int .i64 15, .int .i64 5, .int .i64 7] 3) (.cells (#[.int .i64 50, .slice (some ⟨w2.heap.size, 0, none⟩) 3 3, .int .i64 60, .slice (some ⟨w2.heap.size + 1, 0, none⟩) 3 3, .int .i64 40, .slice (some ⟨w2.heap.size + 1 + 1, 0, none⟩) 3 3]) 40)
  have hzc := (HBc.out.block _ (show w.heap.size + 1 < w2.heap.size by omega)).trans HZ2.out.2
  have z0 := cell_blk hzc 0 rfl
  have z1 := cell_blk hzc 1 rfl
  have z2 := cell_blk hzc 2 rfl
  have z3 := cell_blk hzc 3 rfl
  have f0 := free_blk hzc 0
  have f1 := free_blk hzc 1
  have f2 := free_blk hzc 2
  have f3 := free_blk hzc 3
  go_upto_region 3 with fail
  obtain ⟨w3, hw3, hz3, ho3, hb3⟩ := put4o hzc (.int .i64 3) (.int .i64 0) (.int .i64 1) (.slice (some ⟨w2.heap.size + 1 + 1 + 1, 0, none⟩) 3 3)
  rw [hw3]
  have hsw : w.heap.size < w2.heap.size := by omega
  have hold : ∀ b, b < w2.heap.size → b ≠ w.heap.size + 1 → w3.heap[b]? = w2.heap[b]? := fun b h1 h2 => (ho3 b h2).trans (HBc.out.block b h1)
  have HK3 : Hid ((w3.heap[wa.heap.size]? = some (.cells #[.int .i64 10, .int .i64 12, .int .i64 (-1)] 3) ∧ w3.heap[wa.heap.size + 1]? = some (.cells #[.int .i64 9, .int .i64 11, .int .i64 8] 3) ∧ w3.heap[wa.heap.size + 1 + 1]? = some (.cells #[.int .i64 15, .int .i64 (-1), .int .i64 (-1)] 3) ∧ w3.heap[wa.heap.size + 1 + 1 + 1]? = some (.cells (#[.int .i64 50, .slice (some ⟨wa.heap.size, 0, none⟩) 3 3, .int .i64 60, .slice (some ⟨wa.heap.size + 1, 0, none⟩) 3 3, .int .i64 40, .slice (some ⟨wa.heap.size + 1 + 1, 0, none⟩) 3 3]) 40)) ∧
      w3.heap[w2.heap.size]? = some (.cells #[.int .i64 10, .int .i64 12, .int .i64 6] 3) ∧ w3.heap[w2.heap.size + 1]? = some (.cells #[.int .i64 9, .int .i64 11, .int .i64 8] 3) ∧ w3.heap[w2.heap.size + 1 + 1]? = some (.cells #[.int .i64 15, .int .i64 5, .int .i64 7] 3) ∧ w3.heap[w2.heap.size + 1 + 1 + 1]? = some (.cells (#[.int .i64 50, .slice (some ⟨w2.heap.size, 0, none⟩) 3 3, .int .i64 60, .slice (some ⟨w2.heap.size + 1, 0, none⟩) 3 3, .int .i64 40, .slice (some ⟨w2.heap.size + 1 + 1, 0, none⟩) 3 3]) 40)) :=
    ⟨⟨(hold _ (by omega) (by omega)).trans HK2.out.1, (hold _ (by omega) (by omega)).trans HK2.out.2.1, (hold _ (by omega) (by omega)).trans HK2.out.2.2.1, (hold _ (by omega) (by omega)).trans HK2.out.2.2.2⟩, (ho3 _ (by omega)).trans k0, (ho3 _ (by omega)).trans k1, (ho3 _ (by omega)).trans k2, (ho3 _ (by omega)).trans k3⟩
  have HZ3 : Hid (w3.heap[w.heap.size]? = some (.cells #[.int .i64 3, .int .i64 0, .int .i64 1, .slice (some ⟨wa.heap.size + 1 + 1 + 1, 0, none⟩) 3 3] 24) ∧ w3.heap[w.heap.size + 1]? = some (.cells #[.int .i64 3, .int .i64 0, .int .i64 1, .slice (some ⟨w2.heap.size + 1 + 1 + 1, 0, none⟩) 3 3] 24)) :=
    ⟨(hold _ (by omega) (by omega)).trans HZ2.out.1, hz3⟩
  have HB3 : Hid (Below w.heap.size w w3) := HB2.out.trans ((HBc.out.mono HB2.out.size).trans (hb3.mono (by omega)))
  have hs3 : w2.heap.size + 4 ≤ w3.heap.size := by have := hb3.size; omega
  obtain ⟨A, hA⟩ : ∃ A, wa.heap.size = A := ⟨_, rfl⟩
  obtain ⟨C, hC⟩ : ∃ C, w2.heap.size = C := ⟨_, rfl⟩
  rw [hA] at HK3 HZ3 hs2
  rw [hC] at HK3 HZ3 hs3 hs2 hsw
  rw [hA, hC]
  have hwA : w.heap.size + 2 ≤ A := by omega
  clear hwc hw3 hz3 ho3 hb3 hzc z0 z1 z2 z3 f0 f1 f2 f3 hold k0 k1 k2 k3 HK2 HZ2 hsc HBc HB2
  have HSQ : Hid (∀ W : World, ((W.heap[w.heap.size]? = some (.cells #[.int .i64 3, .int .i64 0, .int .i64 1, .slice (some ⟨A + 1 + 1 + 1, 0, none⟩) 3 3] 24) ∧ W.heap[w.heap.size + 1]? = some (.cells #[.int .i64 3, .int .i64 0, .int .i64 1, .slice (some ⟨C + 1 + 1 + 1, 0, none⟩) 3 3] 24))) → (((W.cell? ⟨w.heap.size, 0, none⟩ = some (.int .i64 3) ∧ W.cell? ⟨w.heap.size, 1, none⟩ = some (.int .i64 0) ∧ W.cell? ⟨w.heap.size, 2, none⟩ = some (.int .i64 1) ∧ W.cell? ⟨w.heap.size, 3, none⟩ = some (.slice (some ⟨A + 1 + 1 + 1, 0, none⟩) 3 3)) ∧ W.cell? ⟨w.heap.size + 1, 0, none⟩ = some (.int .i64 3) ∧ W.cell? ⟨w.heap.size + 1, 1, none⟩ = some (.int .i64 0) ∧ W.cell? ⟨w.heap.size + 1, 2, none⟩ = some (.int .i64 1) ∧ W.cell? ⟨w.heap.size + 1, 3, none⟩ = some (.slice (some ⟨C + 1 + 1 + 1, 0, none⟩) 3 3)))) := fun W h => ⟨⟨cell_blk h.1 0 rfl, cell_blk h.1 1 rfl, cell_blk h.1 2 rfl, cell_blk h.1 3 rfl⟩, cell_blk h.2 0 rfl, cell_blk h.2 1 rfl, cell_blk h.2 2 rfl, cell_blk h.2 3 rfl⟩
  obtain ⟨wd, hwd⟩ : ∃ wd, w3.drew = wd := ⟨_, rfl⟩
  have HZd : Hid ((wd.heap[w.heap.size]? = some (.cells #[.int .i64 3, .int .i64 0, .int .i64 1, .slice (some ⟨A + 1 + 1 + 1, 0, none⟩) 3 3] 24) ∧ wd.heap[w.heap.size + 1]? = some (.cells #[.int .i64 3, .int .i64 0, .int .i64 1, .slice (some ⟨C + 1 + 1 + 1, 0, none⟩) 3 3] 24))) := by rw [← hwd]; exact HZ3.out
  have HBd : Hid (Below w.heap.size w wd) := by rw [← hwd]; exact HB3.out.drew
  have HWD : Hid (wd.heap.size = w3.heap.size) := by rw [← hwd]; rfl
  have HOd : Hid (∀ b : Nat, wd.heap[b]? = w3.heap[b]?) := fun b => by rw [← hwd]; rfl
  have hS0 := HSQ.out wd HZd.out
  refine wp_region_held_drew (S := fun W => ((W.cell? ⟨w.heap.size, 0, none⟩ = some (.int .i64 3) ∧ W.cell? ⟨w.heap.size, 1, none⟩ = some (.int .i64 0) ∧ W.cell? ⟨w.heap.size, 2, none⟩ = some (.int .i64 1) ∧ W.cell? ⟨w.heap.size, 3, none⟩ = some (.slice (some ⟨A + 1 + 1 + 1, 0, none⟩) 3 3)) ∧ W.cell? ⟨w.heap.size + 1, 0, none⟩ = some (.int .i64 3) ∧ W.cell? ⟨w.heap.size + 1, 1, none⟩ = some (.int .i64 0) ∧ W.cell? ⟨w.heap.size + 1, 2, none⟩ = some (.int .i64 1) ∧ W.cell? ⟨w.heap.size + 1, 3, none⟩ = some (.slice (some ⟨C + 1 + 1 + 1, 0, none⟩) 3 3))) (by kernel_rfl) (by rw [hwd]; exact hS0) (fun hHeld => ?_)
  rw [hwd]
  clear hwd
  (refine wpAnyH_take (i := 0) (v := ?_) rfl (by kernel_rfl) (by kernel_rfl) (by kernel_rfl) (fun _ _ _ h => h) (Or.inl ⟨by rfl, ?_⟩) (by assumption) ?_; rotate_left; (focus (intro w hSw; (try dsimp only at hSw); go_simp; (try with_reducible rfl))); (try simp only [List.getElem_toArray, List.getElem_cons_zero, List.getElem_cons_succ, Act.put, List.setIfInBounds_toArray, List.set_cons_zero, List.set_cons_succ])); (refine wpAnyH_take (i := 1) (v := ?_) rfl (by kernel_rfl) (by kernel_rfl) (by kernel_rfl) (fun _ _ _ h => h) (Or.inl ⟨by rfl, ?_⟩) (by assumption) ?_; rotate_left; (focus (intro w hSw; (try dsimp only at hSw); go_simp; (try with_reducible rfl))); (try simp only [List.getElem_toArray, List.getElem_cons_zero, List.getElem_cons_succ, Act.put, List.setIfInBounds_toArray, List.set_cons_zero, List.set_cons_succ]))
  have f0 := free_blk HZd.out.1 0
  have f1 := free_blk HZd.out.1 1
  have f2 := free_blk HZd.out.1 2
  have f3 := free_blk HZd.out.1 3
  refine wpAnyH_ready (rs := [2]) (by kernel_rfl) (by simp) ?_; refine AllReadyH.cons rfl (fun K hK => ?_) AllReadyH.nil; go_simp
  obtain ⟨w5, hw5, hz5, ho5, hb5⟩ := put4o HZd.out.1 (.int .i64 3) (.int .i64 0) (.int .i64 1) (.slice (some ⟨A + 1 + 1 + 1, 0, none⟩) 3 3)
  rw [hw5]
  have hz5' : (w5.heap[w.heap.size]? = some (.cells #[.int .i64 3, .int .i64 0, .int .i64 1, .slice (some ⟨A + 1 + 1 + 1, 0, none⟩) 3 3] 24) ∧ w5.heap[w.heap.size + 1]? = some (.cells #[.int .i64 3, .int .i64 0, .int .i64 1, .slice (some ⟨C + 1 + 1 + 1, 0, none⟩) 3 3] 24)) := ⟨hz5, (ho5 _ (by omega)).trans HZd.out.2⟩
  have HZ5 := Lib.hid hz5'
  clear hw5 f0 f1 f2 f3
  refine hK.out _ _ (HSQ.out w5 hz5') (fun hHeld => ?_)
  clear hK K
  (try simp only [List.getElem_toArray, List.getElem_cons_zero, List.getElem_cons_succ, Act.put, List.setIfInBounds_toArray, List.set_cons_zero, List.set_cons_succ])
  have f0 := free_blk HZ5.out.2 0
  have f1 := free_blk HZ5.out.2 1
  have f2 := free_blk HZ5.out.2 2
  have f3 := free_blk HZ5.out.2 3
  refine wpAnyH_ready (rs := [3]) (by kernel_rfl) (by simp) ?_; refine AllReadyH.cons rfl (fun K hK => ?_) AllReadyH.nil; go_simp
  obtain ⟨w6, hw6, hz6, ho6, hb6⟩ := put4o HZ5.out.2 (.int .i64 3) (.int .i64 0) (.int .i64 1) (.slice (some ⟨C + 1 + 1 + 1, 0, none⟩) 3 3)
  rw [hw6]
  have hz6' : (w6.heap[w.heap.size]? = some (.cells #[.int .i64 3, .int .i64 0, .int .i64 1, .slice (some ⟨A + 1 + 1 + 1, 0, none⟩) 3 3] 24) ∧ w6.heap[w.heap.size + 1]? = some (.cells #[.int .i64 3, .int .i64 0, .int .i64 1, .slice (some ⟨C + 1 + 1 + 1, 0, none⟩) 3 3] 24)) := ⟨(ho6 _ (by omega)).trans HZ5.out.1, hz6⟩
  have hoX : ∀ b : Nat, b ≠ w.heap.size → b ≠ w.heap.size + 1 → w6.heap[b]? = wd.heap[b]? := fun b h1 h2 => (ho6 b h2).trans (ho5 b h1)
  clear hw6 f0 f1 f2 f3
  refine hK.out _ _ (HSQ.out w6 hz6') (fun hHeld => ?_)
  clear hK K
  (try simp only [List.getElem_toArray, List.getElem_cons_zero, List.getElem_cons_succ, Act.put, List.setIfInBounds_toArray, List.set_cons_zero, List.set_cons_succ])
  refine wpAnyH_done (by kernel_rfl) ?_ _; clear hHeld
  have HZf := Lib.hid hz6'
  have HOf : Hid (∀ b : Nat, b ≠ w.heap.size → b ≠ w.heap.size + 1 → w6.heap[b]? = w3.heap[b]?) := fun b h1 h2 => (hoX b h1 h2).trans (HOd.out b)
  have HBf : Hid (Below w.heap.size w w6) := HBd.out.trans ((hb5.mono (by omega)).trans (hb6.mono (by omega)))
  obtain ⟨⟨s0, s1, s2, s3⟩, t0, t1, t2, t3⟩ := HSQ.out w6 HZf.out
  have hs6 : w3.heap.size ≤ w6.heap.size := by have h1 := hb5.size; have h2 := hb6.size; have h3 := HWD.out; omega
  clear hz6' hoX hb5 hb6 hS0
  go_wp2_with fail
  refine bodyPost_ret (v := .tuple #[.agg #[.int .i64 3, .int .i64 0, .int .i64 1, .slice (some ⟨A + 1 + 1 + 1, 0, none⟩) 3 3], .agg #[.int .i64 3, .int .i64 0, .int .i64 1, .slice (some ⟨C + 1 + 1 + 1, 0, none⟩) 3 3]]) (by simp [results, Try.results54, go_sem, s0, s1, s2, s3, t0, t1, t2, t3]) rfl ?_
  have hk : ∀ b, A ≤ b → w6.heap[b]? = w3.heap[b]? := fun b hb => HOf.out b (by omega) (by omega)
  refine ⟨_, _, rfl, ?_, ?_, HBf.out⟩
  · exact ex_show (S := exJ) (b := A) (l0 := [10, 12, -1]) (l1 := [9, 11, 8]) (l2 := [15, -1, -1]) rfl rfl rfl rfl rfl rfl ((hk _ (by omega)).trans HK3.out.1.1) ((hk _ (by omega)).trans HK3.out.1.2.1) ((hk _ (by omega)).trans HK3.out.1.2.2.1) ((hk _ (by omega)).trans HK3.out.1.2.2.2)
  · exact ex_show (S := exK) (b := C) (l0 := [10, 12, 6]) (l1 := [9, 11, 8]) (l2 := [15, 5, 7]) rfl rfl rfl rfl rfl rfl ((hk _ (by omega)).trans HK3.out.2.1) ((hk _ (by omega)).trans HK3.out.2.2.1) ((hk _ (by omega)).trans HK3.out.2.2.2.1) ((hk _ (by omega)).trans HK3.out.2.2.2.2)

end Go.Proofs.Ytffnlimgjnhmpaa

namespace Go.Proofs.Ytffnlimgjnhmpaa
open Go.RowKit

theorem eqSpan (a b c d : Int) (w : World) : (Op.equalIn 10000 30 (.agg #[.int .i64 a, .int .i64 b]) (.agg #[.int .i64 c, .int .i64 d])).run Try.prog w = .ok (decide (a = c) && decide (b = d)) w := by
  rw [show (10000 : Nat) = 9999 + 1 from rfl, run_equalIn_struct w 9999 30 _ _ (by kernel_rfl) (by kernel_rfl)]
  have e : (Try.prog.fieldsOf 30).toList = [{ name := "Low", embedded := false, type := 3, tag := "", pkgPath := "", offset := 0, byteOffset := 0 }, { name := "High", embedded := false, type := 3, tag := "", pkgPath := "", offset := 1, byteOffset := 8 }] := by kernel_rfl
  rw [e]
  go_simp
  by_cases h0 : a = c <;> by_cases h1 : b = d <;> simp [h0, h1]
theorem sameI_self (n : Nat) (x : Nat → Int) : sameI n x n x = true := by
  unfold sameI
  rw [Bool.and_eq_true, decide_eq_true_eq, allB_true]
  exact ⟨rfl, fun i _ => decide_eq_true rfl⟩
theorem same_lit (l : List Int) (k : Nat) (cs : Array Value) (w : World) (v : Value) (h : LI w.heap.size w v l) (hk : l.length = k) (hk4 : k ≤ 100) (hcs : cs = (l.map (Value.int .i64)).toArray) :
    Calls Try.prog 40 #[v, .slice (some ⟨w.heap.size, 0, none⟩) k k] (w.alloc (.cells cs 3)) fun e w' => e = .returned (.bool true) ∧ Below w.heap.size w w' := by
  subst hk
  subst hcs
  have h1 : LI (w.heap.size + 1) (w.alloc (.cells (l.map (Value.int .i64)).toArray 3)) v l := h.mono (below_alloc (Nat.le_refl _) _) (Nat.le_succ _)
  have h2 : LI (w.heap.size + 1) (w.alloc (.cells (l.map (Value.int .i64)).toArray 3)) (.slice (some ⟨w.heap.size, 0, none⟩) l.length l.length) l := by
    have hnew := World.alloc_heap_new w (.cells (l.map (Value.int .i64)).toArray 3)
    rcases Nat.eq_zero_or_pos l.length with h0 | h0
    · rw [List.length_eq_zero_iff.1 h0]; exact ⟨_, _, rfl, by simp, fun h => absurd h (Nat.lt_irrefl 0)⟩
    · have : RI 0 (w.alloc (.cells (l.map (Value.int .i64)).toArray 3)) (.slice (some ⟨w.heap.size, 0, none⟩) l.length l.length) l := .inr ⟨h0, w.heap.size, l.length, _, rfl, Nat.zero_le _, Nat.le_refl _, hnew, fun i hi => by
        rw [List.getElem?_toArray, List.getElem?_map, List.getElem?_eq_getElem hi, getD_at hi]; rfl⟩
      have := this.li (by omega)
      rwa [World.size_alloc] at this
  refine (sameInts_any _ _ _ _ _ _ _ _ h1 h2).mono ?_
  rintro e w' ⟨rfl, q, rfl⟩
  exact ⟨ret_bool (sameI_self _ _), below_drewN (below_alloc (Nat.le_refl _) _) q⟩

theorem placeJ (N : Nat) (v : Value) (w : World) (h : ShowAt N w v exJ) : Calls Try.prog 16 #[v, .int .i64 0] w fun e w' => e = .returned (.tuple #[.agg #[.int .i64 1, .int .i64 3], .int .i64 0]) ∧ Below w.heap.size w w' := by
  have h1 : sp 0 ((plLo exJ (0 : Int).toNat : Nat) : Int) = 1 := by decide +kernel
  have h2 : sp 0 ((plHi exJ (0 : Int).toNat : Nat) : Int) = 3 := by decide +kernel
  have := kPlace_any N v exJ 0 0 w h exJ_ok
  rwa [h1, h2] at this
theorem needsJ (N : Nat) (v : Value) (w : World) (h : ShowAt N w v exJ) : Calls Try.prog 31 #[v, .int .i64 2] w fun e w' => e = .returned (.tuple #[.int .i64 43, .int .i64 0]) ∧ Below w.heap.size w w' := by
  have h1 : sp 0 (ndV exJ (2 : Int).toNat) = 43 := by decide +kernel
  have := kNeeds_any N v exJ 2 0 w h (by decide +kernel)
  rwa [h1] at this
theorem rankK (N : Nat) (v : Value) (w : World) (h : ShowAt N w v exK) : Calls Try.prog 39 #[v] w fun e w' => ∃ u, e = .returned (.tuple #[u, .int .i64 0]) ∧ LI w'.heap.size w' u [1, 0, 2] ∧ Below w.heap.size w w' := by
  have := kRank_any N v exK 0 w h exK_ok
  rwa [spL_ok, exK_rnk] at this
theorem decideK (N : Nat) (v : Value) (w : World) (h : ShowAt N w v exK) : Calls Try.prog 32 #[v] w fun e w' => ∃ u, e = .returned (.tuple #[u, .int .i64 0]) ∧ LI w'.heap.size w' u [1, 2] ∧ Below w.heap.size w w' := by
  have := kDecide_any N v exK 0 w h exK_ok
  rwa [spL_ok, exK_dec] at this
theorem roomK (N : Nat) (v : Value) (w : World) (h : ShowAt N w v exK) : Calls Try.prog 38 #[v, .agg #[.int .i64 2, .int .i64 0]] w fun e w' => e = .returned (.tuple #[.agg #[.int .i64 0, .int .i64 16], .int .i64 0]) ∧ Below w.heap.size w w' := by
  have h1 : sp 0 (room exK (2 : Int).toNat (0 : Int).toNat 21).1 = 0 := by decide +kernel
  have h2 : sp 0 (room exK (2 : Int).toNat (0 : Int).toNat 21).2 = 16 := by decide +kernel
  have := kRoom_any N v exK 2 0 0 w h exK_okm
  rwa [h1, h2] at this

set_option maxHeartbeats 6400000 in
set_option maxRecDepth 100000 in
theorem works_any (w : World) : Calls Try.prog 13 #[] w fun e w' => e = .returned (.bool true) ∧ Below w.heap.size w w' := by
  have heq1 : ∀ w, (Op.equalIn 10000 30 (.agg #[.int .i64 1, .int .i64 3]) (.agg #[.int .i64 1, .int .i64 3])).run Try.prog w = .ok true w := fun w => by rw [eqSpan]; rfl
  have heq2 : ∀ w, (Op.equalIn 10000 30 (.agg #[.int .i64 0, .int .i64 16]) (.agg #[.int .i64 0, .int .i64 16])).run Try.prog w = .ok true w := fun w => by rw [eqSpan]; rfl
  go_enter Try.func13, Try.ntmps13
  go_upto_region 2 with (go_at_call 54; refine (example_any _).mono ?_; rintro e w1 ⟨u, v, rfl, hj, hk, hb1⟩; obtain ⟨aj, cj, rfl⟩ := hj.form; obtain ⟨ak, ck, rfl⟩ := hk.form; have HJ1 := Lib.hid hj; have HK1 := Lib.hid hk; have HB1 := Lib.hid hb1; obtain ⟨wo, hwo, HBo, hszo, hszo1, hbj, hbk⟩ := box2 w1 (.cells #[.int .i64 0, .int .i64 0, .int .i64 0, .slice none 0 0] 24) (.cells #[.int .i64 0, .int .i64 0, .int .i64 0, .slice none 0 0] 24); have HZj := Lib.hid hbj; have HZk := Lib.hid hbk; have z0 := cell_blk hbj 0 rfl; have z1 := cell_blk hbj 1 rfl; have z2 := cell_blk hbj 2 rfl; have z3 := cell_blk hbj 3 rfl; have f0 := free_blk hbj 0; have f1 := free_blk hbj 1; have f2 := free_blk hbj 2; have f3 := free_blk hbj 3; have y0 := cell_blk hbk 0 rfl; have y1 := cell_blk hbk 1 rfl; have y2 := cell_blk hbk 2 rfl; have y3 := cell_blk hbk 3 rfl; have g0 := free_blk hbk 0; have g1 := free_blk hbk 1; have g2 := free_blk hbk 2; have g3 := free_blk hbk 3; clear hj hk hb1 hbj hbk)
  obtain ⟨wp, hwp, hzp, hop, hbp⟩ := put4o HZj.out (.int .i64 exJ.J) (.int .i64 exJ.D) (.int .i64 exJ.Z) (.slice aj exJ.np cj)
  rw [hwp]
  obtain ⟨w2, hw2, hz2, ho2, hb2⟩ := put4o ((hop _ (show w1.heap.size + 1 ≠ w1.heap.size by omega)).trans HZk.out) (.int .i64 exK.J) (.int .i64 exK.D) (.int .i64 exK.Z) (.slice ak exK.np ck)
  rw [hw2]
  have hb12 : Below w1.heap.size w1 w2 := HBo.out.trans (hbp.trans (hb2.mono (Nat.le_succ _)))
  have HJ2 := Lib.hid (HJ1.out.go hb12)
  have HK2 := Lib.hid (HK1.out.go hb12)
  have HB2 : Hid (Below w.heap.size w w2) := HB1.out.trans (hb12.mono HB1.out.size)
  have hzj := (ho2 w1.heap.size (by omega)).trans hzp
  have hl0 := heap_lt hzj
  have hl1 := heap_lt hz2
  obtain ⟨B, hB⟩ : ∃ B, w1.heap.size = B := ⟨_, rfl⟩
  rw [hB] at hzj hz2 hl0 hl1 HJ2 HK2 ⊢
  have HZJ := Lib.hid hzj
  have HZK := Lib.hid hz2
  have HQJ : Hid (∀ W, Below w2.heap.size w2 W → W.cell? ⟨B, 0, none⟩ = some (.int .i64 exJ.J) ∧ W.cell? ⟨B, 1, none⟩ = some (.int .i64 exJ.D) ∧ W.cell? ⟨B, 2, none⟩ = some (.int .i64 exJ.Z) ∧ W.cell? ⟨B, 3, none⟩ = some (.slice aj exJ.np cj)) := fun W hW => by
    have hz := (hW.block B hl0).trans HZJ.out
    exact ⟨cell_blk hz 0 rfl, cell_blk hz 1 rfl, cell_blk hz 2 rfl, cell_blk hz 3 rfl⟩
  have HQK : Hid (∀ W, Below w2.heap.size w2 W → W.cell? ⟨B + 1, 0, none⟩ = some (.int .i64 exK.J) ∧ W.cell? ⟨B + 1, 1, none⟩ = some (.int .i64 exK.D) ∧ W.cell? ⟨B + 1, 2, none⟩ = some (.int .i64 exK.Z) ∧ W.cell? ⟨B + 1, 3, none⟩ = some (.slice ak exK.np ck)) := fun W hW => by
    have hz := (hW.block (B + 1) hl1).trans HZK.out
    exact ⟨cell_blk hz 0 rfl, cell_blk hz 1 rfl, cell_blk hz 2 rfl, cell_blk hz 3 rfl⟩
  clear hwo hszo hszo1 z0 z1 z2 z3 f0 f1 f2 f3 y0 y1 y2 y3 g0 g1 g2 g3 hwp hzp hop hbp hw2 hz2 ho2 hb2 hb12 hzj hB HZj HZk HBo HJ1 HK1 HB1
  have HB0 : Hid (Below w2.heap.size w2 w2) := Below.refl _ _
  obtain ⟨r0, r1, r2, r3⟩ := HQJ.out w2 HB0.out
  go_upto_region 3 with (go_at_call 16; refine (placeJ B _ _ (HJ2.out)).mono ?_; rintro e w3 ⟨rfl, hb3⟩; have HB3 := Lib.hid hb3; clear hb3; (obtain ⟨wo, hwo, HBo, hszo, hblko⟩ := box1 w3 (.cells #[.int .i64 0, .int .i64 0] 30); have HZo := Lib.hid hblko; have z0 := cell_blk hblko 0 rfl; have z1 := cell_blk hblko 1 rfl; have f0 := free_blk hblko 0; have f1 := free_blk hblko 1; clear hblko))
  obtain ⟨w4, hw4, hz4, ho4, hb4⟩ := put2o HZo.out (.int .i64 1) (.int .i64 3)
  rw [hw4]
  have HB4 : Hid (Below w2.heap.size w2 w4) := HB3.out.trans ((HBo.out.trans hb4).mono HB3.out.size)
  obtain ⟨P, hP⟩ : ∃ P, w3.heap.size = P := ⟨_, rfl⟩
  rw [hP] at hz4 ⊢
  have HP4 := Lib.hid hz4
  clear hwo hszo z0 z1 f0 f1 hw4 hz4 ho4 hb4 HZo HBo HB3 hP r0 r1 r2 r3
  obtain ⟨r0, r1, r2, r3⟩ := HQJ.out w4 HB4.out
  go_upto_region 4 with (go_at_call 31; refine (needsJ B _ _ (HJ2.out.go HB4.out)).mono ?_; rintro e w5 ⟨rfl, hb5⟩; have HB5 : Hid (Below w2.heap.size w2 w5) := bel HB4.out hb5; have HP5 := Lib.hid ((hb5.block _ (heap_lt HP4.out)).trans HP4.out); clear hb5)
  clear r0 r1 r2 r3
  obtain ⟨s0, s1, s2, s3⟩ := HQK.out w5 HB5.out
  go_upto_region 5 with (go_at_call 39; refine (rankK B _ _ (HK2.out.go HB5.out)).mono ?_; rintro e w6 ⟨ur, rfl, hl6, hb6⟩; obtain ⟨ar, cr, rfl⟩ := hl6.form; have HB6 : Hid (Below w2.heap.size w2 w6) := bel HB5.out hb6; have HP6 := Lib.hid ((hb6.block _ (heap_lt HP5.out)).trans HP5.out); have HL6 := Lib.hid hl6; clear hb6 hl6)
  clear s0 s1 s2 s3
  obtain ⟨s0, s1, s2, s3⟩ := HQK.out w6 HB6.out
  go_upto_region 6 with (go_at_call 38; refine (roomK B _ _ (HK2.out.go HB6.out)).mono ?_; rintro e w7 ⟨rfl, hb7⟩; have HB7 : Hid (Below w2.heap.size w2 w7) := bel HB6.out hb7; have HP7 := Lib.hid ((hb7.block _ (heap_lt HP6.out)).trans HP6.out); have HL7 := Lib.hid (HL6.out.mono hb7 hb7.size); clear hb7; (obtain ⟨wo, hwo, HBo, hszo, hblko⟩ := box1 w7 (.cells #[.int .i64 0, .int .i64 0] 30); have HZo := Lib.hid hblko; have z0 := cell_blk hblko 0 rfl; have z1 := cell_blk hblko 1 rfl; have f0 := free_blk hblko 0; have f1 := free_blk hblko 1; clear hblko))
  obtain ⟨w8, hw8, hz8, ho8, hb8⟩ := put2o HZo.out (.int .i64 0) (.int .i64 16)
  rw [hw8]
  have hb78 : Below w7.heap.size w7 w8 := HBo.out.trans hb8
  have HB8 : Hid (Below w2.heap.size w2 w8) := bel HB7.out hb78
  have HP8 := Lib.hid ((hb78.block _ (heap_lt HP7.out)).trans HP7.out)
  have HL8 := Lib.hid (HL7.out.mono hb78 hb78.size)
  obtain ⟨R, hR⟩ : ∃ R, w7.heap.size = R := ⟨_, rfl⟩
  rw [hR] at hz8 ⊢
  have HR8 := Lib.hid hz8
  clear hwo hszo z0 z1 f0 f1 hw8 hz8 ho8 hb8 HZo HBo hb78 hR s0 s1 s2 s3
  obtain ⟨s0, s1, s2, s3⟩ := HQK.out w8 HB8.out
  go_upto_region 7 with (go_at_call 32; refine (decideK B _ _ (HK2.out.go HB8.out)).mono ?_; rintro e w9 ⟨ud, rfl, hl9, hb9⟩; obtain ⟨ad, cd, rfl⟩ := hl9.form; have HB9 : Hid (Below w2.heap.size w2 w9) := bel HB8.out hb9; have HP9 := Lib.hid ((hb9.block _ (heap_lt HP8.out)).trans HP8.out); have HR9 := Lib.hid ((hb9.block _ (heap_lt HR8.out)).trans HR8.out); have HLr := Lib.hid (HL8.out.mono hb9 hb9.size); have HLd := Lib.hid hl9; clear hb9 hl9)
  have p0 := cell_blk HP9.out 0 rfl
  have p1 := cell_blk HP9.out 1 rfl
  clear s0 s1 s2 s3
  have hRl := heap_lt HR9.out
  go_wp2_with (first
    | (go_at_call 40; have hx := HLr; clear HLr; refine (same_lit [1, 0, 2] 3 _ w9 _ hx.out rfl (by decide) rfl).mono ?_; rintro e wA ⟨rfl, hbA⟩; have HBA : Hid (Below w2.heap.size w2 wA) := bel HB9.out hbA; have HRA := (hbA.block _ hRl).trans HR9.out; have c0 := cell_blk HRA 0 rfl; have c1 := cell_blk HRA 1 rfl; have HLe := Lib.hid (HLd.out.mono hbA hbA.size); clear hbA)
    | (go_at_call 40; have hx := HLe; clear HLe; refine (same_lit [1, 2] 2 _ wA _ hx.out rfl (by decide) rfl).mono ?_; rintro e wB ⟨rfl, hbB⟩; have HBB : Hid (Below w2.heap.size w2 wB) := bel HBA.out hbB; clear hbB))
  go_ret
  exact ⟨rfl, fin HB2.out HBB.out⟩

end Go.Proofs.Ytffnlimgjnhmpaa

namespace Go.Proofs.Ytffnlimgjnhmpaa
open Go.RowKit

/-- far too much of something -/
def farS (S : JB) : Bool := decide (40 < S.np) || anyB S.np fun i => decide (40 < (S.pts i).length)
theorem farS_le {S : JB} (h : farS S = false) : S.np ≤ 40 ∧ ∀ i, i < S.np → (S.pts i).length ≤ 40 := by
  unfold farS at h
  rw [Bool.or_eq_false_iff, decide_eq_false_iff_not, anyB_false] at h
  exact ⟨by omega, fun i hi => by have := of_decide_eq_false (h.2 i hi); omega⟩

set_option maxRecDepth 100000 in
set_option maxHeartbeats 3200000 in
theorem Far_any (N : Nat) (v : Value) (S : JB) (w : World) (h : ShowAt N w v S) :
    Calls Try.prog 42 #[v] w fun e w' => e = .returned (.bool (farS S)) ∧ Below w.heap.size w w' := by
  obtain ⟨a1, c1, rfl⟩ := h.form
  obtain ⟨ws, hws, HB, hsz, hblk⟩ := box1 w (.cells #[.int .i64 S.J, .int .i64 S.D, .int .i64 S.Z, .slice a1 S.np c1] 24)
  have q0 := cell_blk hblk 0 rfl
  have q1 := cell_blk hblk 1 rfl
  have q2 := cell_blk hblk 2 rfl
  have q3 := cell_blk hblk 3 rfl
  have HNZ : Hid (N ≤ w.heap.size) := h.1
  have HBK := Lib.hid (h.go HB.out)
  have HB0 : Hid (Below ws.heap.size ws ws) := Below.refl _ _
  have HNS : Hid (N ≤ ws.heap.size) := HBK.out.1
  have hlen := h.len
  clear hblk h
  by_cases g1 : 40 < S.np
  · have g1i : (40 : Int) < (S.np : Int) := by omega
    have HF : Hid (farS S = true) := by unfold Hid farS; rw [decide_eq_true g1]; rfl
    clear g1
    go_enter Try.func42, Try.ntmps42
    go_wp2
    go_ret
    exact ⟨ret_bool HF.out.symm, HB.out⟩
  · have g1i : ¬ (40 : Int) < (S.np : Int) := by omega
    have hn40 : S.np ≤ 40 := by omega
    have HF : Hid (farS S = anyB S.np fun i => decide (40 < (S.pts i).length)) := by unfold Hid farS; rw [decide_eq_false g1]; rfl
    obtain ⟨A, C, hcap, _, hrows, hcells⟩ := HBK.out.plates.open
    have HCL := Lib.hid hcells
    have HSQ : Hid (∀ W, Below ws.heap.size ws W → (W.cell? ⟨w.heap.size, 0, none⟩ = some (.int .i64 S.J) ∧ W.cell? ⟨w.heap.size, 1, none⟩ = some (.int .i64 S.D) ∧ W.cell? ⟨w.heap.size, 2, none⟩ = some (.int .i64 S.Z) ∧ W.cell? ⟨w.heap.size, 3, none⟩ = some (.slice a1 S.np c1))) := fun W hW => ⟨(hW.cell (p := ⟨w.heap.size, 0, none⟩) hsz).trans q0, (hW.cell (p := ⟨w.heap.size, 1, none⟩) hsz).trans q1, (hW.cell (p := ⟨w.heap.size, 2, none⟩) hsz).trans q2, (hW.cell (p := ⟨w.heap.size, 3, none⟩) hsz).trans q3⟩
    clear g1 hcells hrows
    go_enter Try.func42, Try.ntmps42
    go_wp2_with fail
    clear hws
    go_loopw [3] (fun i wr => ∃ k : Nat, k ≤ S.np ∧ i = .int .i64 k ∧ Hid (∀ j, j < k → decide (40 < (S.pts j).length) = false) ∧ wr = ws) (fun i _ => S.np - (intOf i).toNat)
    case atStart => exact ⟨0, Nat.zero_le _, rfl, fun j h => absurd h (Nat.not_lt_zero _), rfl⟩
    case round =>
      obtain ⟨k, hk, rfl, HN, rfl⟩ := hrel
      by_cases hkn : k < S.np
      · have hki : (k : Int) < (S.np : Int) := by omega
        obtain ⟨b, off, rfl, hbN, hrr⟩ := HCL.out (by omega)
        have d1 := (hrr k hkn).2
        obtain ⟨n, hn⟩ : ∃ n, (S.pts k).length = n := ⟨_, rfl⟩
        rw [hn] at d1
        have HLN := Lib.hid hn
        clear hrr hn
        by_cases hn4 : 40 < n
        · have hni : (40 : Int) < (n : Int) := by omega
          have HE : Hid (farS S = true) := by unfold Hid; rw [HF.out, anyB_true]; exact ⟨k, hkn, decide_eq_true (by rw [HLN.out]; exact hn4)⟩
          go_wp2
          go_ret
          exact ⟨ret_bool HE.out.symm, HB.out⟩
        · have hni : ¬ (40 : Int) < (n : Int) := by omega
          have HE : Hid (∀ j, j < k + 1 → decide (40 < (S.pts j).length) = false) := fun j hj => by
            by_cases e : j = k
            · subst e; exact decide_eq_false (by rw [HLN.out]; exact hn4)
            · exact HN.out j (by omega)
          go_wp2
          go_roundw
          case rel => exact ⟨k + 1, by omega, by go_num, HE.out, by first | trivial | rfl⟩
          case measure => simp [intOf]; omega
      · have hki : ¬ (k : Int) < (S.np : Int) := by omega
        have HE : Hid (farS S = false) := by unfold Hid; rw [HF.out, anyB_false]; exact fun i hi => HN.out i (by omega)
        go_wp2
        go_ret
        exact ⟨ret_bool HE.out.symm, HB.out⟩

theorem same_q (N : Nat) (v u : Value) (l : List Int) (w : World) (h1 : LI N w v l) (h2 : LI N w u l) :
    Calls Try.prog 40 #[v, u] w fun e w' => e = .returned (.bool true) ∧ ∃ q, w' = w.drewN q := by
  refine (sameInts_any N _ _ _ _ _ _ w h1 h2).mono ?_
  rintro e w' ⟨rfl, hq⟩
  exact ⟨ret_bool (sameI_self _ _), hq⟩

set_option maxRecDepth 100000 in
set_option maxHeartbeats 6400000 in
theorem same_any (N M : Nat) (v u : Value) (S : JB) (w : World) (h : ShowAt N w v S) (h2 : ShowAt M w u S) (hn40 : S.np ≤ 40) :
    Calls Try.prog 47 #[v, u] w fun e w' => e = .returned (.bool true) ∧ Below w.heap.size w w' := by
  obtain ⟨a1, c1, rfl⟩ := h.form
  obtain ⟨a2, c2, rfl⟩ := h2.form
  obtain ⟨ws, hws, HB, hsz, hsz1, hblk, hblk1⟩ := box2 w (.cells #[.int .i64 S.J, .int .i64 S.D, .int .i64 S.Z, .slice a1 S.np c1] 24) (.cells #[.int .i64 S.J, .int .i64 S.D, .int .i64 S.Z, .slice a2 S.np c2] 24)
  have q0 := cell_blk hblk 0 rfl
  have q1 := cell_blk hblk 1 rfl
  have q2 := cell_blk hblk 2 rfl
  have q3 := cell_blk hblk 3 rfl
  have p0 := cell_blk hblk1 0 rfl
  have p1 := cell_blk hblk1 1 rfl
  have p2 := cell_blk hblk1 2 rfl
  have p3 := cell_blk hblk1 3 rfl
  have HBK := Lib.hid (h.go HB.out)
  have HBG := Lib.hid (h2.go HB.out)
  have hN : Hid (N ≤ ws.heap.size) := HBK.out.1
  have hM : Hid (M ≤ ws.heap.size) := HBG.out.1
  have HZ := Lib.hid (And.intro hblk hblk1)
  obtain ⟨A, C, _, _, hrows, hcells⟩ := HBK.out.plates.open
  obtain ⟨A2, C2, _, _, hrows2, hcells2⟩ := HBG.out.plates.open
  have HC1 := Lib.hid (And.intro hrows hcells)
  have HC2 := Lib.hid (And.intro hrows2 hcells2)
  have HB0 : Hid (Below ws.heap.size ws ws) := Below.refl _ _
  clear hblk hblk1 h h2 hrows hcells hrows2 hcells2
  go_enter Try.func47, Try.ntmps47
  go_wp2_with fail
  clear hws
  go_loopw [5] (fun i wr => ∃ k : Nat, k ≤ S.np ∧ i = .int .i64 k ∧ Hid (Below ws.heap.size ws wr)) (fun i _ => S.np - (intOf i).toNat)
  case atStart => exact ⟨0, Nat.zero_le _, rfl, HB0⟩
  case round =>
    obtain ⟨k, hk, rfl, HBr⟩ := hrel
    have r3 := (HBr.out.cell (p := ⟨w.heap.size, 3, none⟩) hsz).trans q3
    have s3 := (HBr.out.cell (p := ⟨w.heap.size + 1, 3, none⟩) hsz1).trans p3
    by_cases hkn : k < S.np
    · have hki : (k : Int) < (S.np : Int) := by omega
      obtain ⟨b5, o5, rfl, hb5, hr5⟩ := HC1.out.2 (by omega)
      obtain ⟨b6, o6, rfl, hb6, hr6⟩ := HC2.out.2 (by omega)
      have d0 := (HBr.out.cell (p := ⟨b5, o5 + k * 2, none⟩) (Nat.lt_of_lt_of_le hb5 hN.out)).trans (hr5 k hkn).1
      have d1 := (HBr.out.cell (p := ⟨b5, o5 + k * 2 + 1, none⟩) (Nat.lt_of_lt_of_le hb5 hN.out)).trans (hr5 k hkn).2
      have e0 := (HBr.out.cell (p := ⟨b6, o6 + k * 2, none⟩) (Nat.lt_of_lt_of_le hb6 hM.out)).trans (hr6 k hkn).1
      have e1 := (HBr.out.cell (p := ⟨b6, o6 + k * 2 + 1, none⟩) (Nat.lt_of_lt_of_le hb6 hM.out)).trans (hr6 k hkn).2
      have HL1 : Hid (LI ws.heap.size wr (.slice (A k) (S.pts k).length (C k)) (S.pts k)) := (HC1.out.1 k hkn).2.mono (HBr.out.mono hN.out) hN.out
      have HL2 : Hid (LI ws.heap.size wr (.slice (A2 k) (S.pts k).length (C2 k)) (S.pts k)) := (HC2.out.1 k hkn).2.mono (HBr.out.mono hM.out) hM.out
      have HSI : Hid (sameI (S.pts k).length (fun i => (S.pts k).getD i 0) (S.pts k).length (fun i => (S.pts k).getD i 0) = true) := sameI_self _ _
      clear hr5 hr6
      go_upto_region 6 with fail
      go_quiet ((go_at_call 40; exact Calls.quiet_of (same_q ws.heap.size _ _ (S.pts k) _ (HL1.out.mono (below_drewN (Below.refl _ _) _) (Nat.le_refl _)) (HL2.out.mono (below_drewN (Below.refl _ _) _) (Nat.le_refl _)))))
      go_wp2_with fail
      go_roundw
      case rel => exact ⟨k + 1, by omega, by go_num, HBr.out.trans (below_drewN (Below.refl _ _) _)⟩
      case measure => simp [intOf]; omega
    · have hki : ¬ (k : Int) < (S.np : Int) := by omega
      go_wp2
      go_ret
      exact ⟨rfl, fin HB.out HBr.out⟩

end Go.Proofs.Ytffnlimgjnhmpaa
