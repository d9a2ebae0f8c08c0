/-
  JIsO: isOpen of a jury.
-/
import Derived.Test.YtffnlimgjnhmpaaJKZ
namespace Go.Proofs.Ytffnlimgjnhmpaa
open Go.RowKit Go.Shelf

attribute [local go_sem] Oper.semAt_some

theorem noneO_iff {S : JB} (hG : GoodS S) : noneO S ↔ allIn S = true := by
  rw [allIn_iff]
  unfold noneO opn
  constructor
  · intro h i hi x hx e
    obtain ⟨k, hk, hkx⟩ := List.getElem_of_mem hx
    have := of_decide_eq_false (h i hi k (by have := hG.len i hi; omega))
    rw [getD_at hk, hkx] at this
    exact this e
  · intro h i hi k hk
    refine decide_eq_false fun e => ?_
    have hl : k < (S.pts i).length := by have := hG.len i hi; omega
    rw [getD_at hl] at e
    exact h i hi _ (List.getElem_mem hl) e

theorem below_putObj {n : Nat} {A : World} {l : Nat} {o : Obj} (o' : Obj) (hl : A.heap[l]? = some o) (hn : n ≤ l) : Below n A (A.putObj l o') :=
  (Below.refl n A).grown (grownBy_putObj' A l o') (by have := (Array.getElem?_eq_some_iff.1 hl).1; omega) (fun k e => by cases e; omega)

set_option maxRecDepth 100000 in
set_option maxHeartbeats 4000000 in
theorem isOpen_any (N : Nat) (v : Value) (S : JB) (w : World) (h : ShowAt N w v S) (hG : GoodS S) :
    Calls Try.prog 70 #[v] w fun e w' => e = .returned (.bool (!allIn S)) ∧ Below w.heap.size w w' := by
  obtain ⟨a1, c1, rfl⟩ := h.form
  obtain ⟨ws, hws, HB, hsz, hsz1, hblk, hblk1⟩ := box2 w (.cells #[.int .i64 S.J, .int .i64 S.D, .int .i64 S.Z, .slice a1 S.np c1] 74) (.cells #[.bool false] 4)
  have q0 := cell_blk hblk 0 rfl
  have q1 := cell_blk hblk 1 rfl
  have q2 := cell_blk hblk 2 rfl
  have q3 := cell_blk hblk 3 rfl
  have HSEQ := Lib.hid (open_seq 2 (by omega) N _ S ws (h.go HB.out) hG)
  have HZ := Lib.hid hblk1
  have HNO := Lib.hid (noneO_iff hG)
  have hwss : ws.heap.size = w.heap.size + 2 := by rw [← hws]; simp
  clear h hG hblk hblk1
  refine (callsIn_wide (n := 3)).1 ?_
  refine callsIn_of_wp_marks Try.func70 rfl trivial ?_ rfl
  simp only [Try.ntmps70, List.size_toArray, List.length_cons, List.length_nil, Nat.reduceAdd, Nat.reduceSub, Array.replicate_succ, Array.replicate_zero, List.push_toArray, List.append_toArray, List.nil_append, List.cons_append]
  gi_upto_region 1 with fail
  (try rw [hws])
  clear hws
  gi_wp2
  refine rangeS (w := ws) rfl (by omega) (gf := 91) (lb := #[.agg #[.int .i64 S.J, .int .i64 S.D, .int .i64 S.Z, .slice a1 S.np c1]]) rfl trivial (enters_of Try.func91 (by kernel_rfl) rfl) HSEQ.out
    (Kp := Below w.heap.size) (fun h k => Below.trans h k) (fun W l o o' hl hW _ => below_putObj o' hW (by omega)) (Below.refl _ _) (fun _ => rfl) (fun _ A B k o h hk ho _ => (h.block k (heap_lt ho)).trans ho)
    (fun pre W => pre = [] ∧ W.heap[w.heap.size + 1]? = some (.cells #[.bool false] 4) ∧ Below w.heap.size w W)
    (fun c pre W => c = .ret ∧ W.heap[w.heap.size + 1]? = some (.cells #[.bool true] 4) ∧ Below w.heap.size w W)
    (fun s A l o o' h hl hA ho => ⟨h.1, (World.putObj_heap_other (by omega)).trans h.2.1, h.2.2.trans (below_putObj o' hA (by omega))⟩)
    (fun c s A l o o' h hl hA ho => ⟨h.1, (World.putObj_heap_other (by omega)).trans h.2.1, h.2.2.trans (below_putObj o' hA (by omega))⟩)
    (fun _ _ _ _ _ h _ _ _ => h)
    (fun W s A C hW hs hk => ⟨hs.1, (hk.block _ (heap_lt hs.2.1)).trans hs.2.1, hs.2.2.trans (hk.mono hs.2.2.size)⟩)
    (fun W c s A C hW hs hk => ⟨hs.1, (hk.block _ (heap_lt hs.2.1)).trans hs.2.1, hs.2.2.trans (hk.mono hs.2.2.size)⟩)
    (fun s A o hs => ⟨hs.1, (Below.heap_alloc _ _ _ (heap_lt hs.2.1)).trans hs.2.1, hs.2.2.alloc hs.2.2.size _⟩)
    ⟨rfl, HZ.out, HB.out⟩ (fun s A h => h.1)
    (fun x a' _ => a' = { tmps := #[.agg #[.int .i64 S.J, .int .i64 S.D, .int .i64 S.Z, .slice a1 S.np c1], .pointer (some ⟨w.heap.size, 0, none⟩), .pointer (some ⟨w.heap.size + 1, 0, none⟩), .agg #[.int .i64 S.J, .int .i64 S.D, .int .i64 S.Z, .slice a1 S.np c1], .func (.func 91) #[.agg #[.int .i64 S.J, .int .i64 S.D, .int .i64 S.Z, .slice a1 S.np c1]] #[], .agg #[.int .i64 x.1, .int .i64 x.2]], defers := [] })
    (fun _ _ _ _ _ _ h _ _ _ => h) ?assign ?body ?done ?stop
  case assign =>
    intro l pre x W K hi hg hK
    gi_wp2
    exact hK _ _ (KeepsFrom.refl _ _) (Below.refl _ _) hi hg (by simp)
  case body =>
    rintro l pre x a' W hl hrec ⟨rfl, hz, hb⟩ hg rfl
    have c0 := cell_blk hz 0 rfl
    have f0 := free_blk hz 0
    have HZW := Lib.hid hz
    have HBW := Lib.hid hb
    clear hz hb
    gi_wp2
    exact ⟨(KeepsOthers.setCell _ _ _).from _, rfl, blk_set HZW.out 0 _, HBW.out.trans ((Below.refl _ _).setCell (p := ⟨w.heap.size + 1, 0, none⟩) (Nat.le_succ _) _)⟩
  case done =>
    rintro D W hD hno ⟨_, hz, hb⟩ hK
    have c0 := cell_blk hz 0 rfl
    have f0 := free_blk hz 0
    have HE : Hid (allIn S = true) := HNO.out.1 hno
    have HZW := Lib.hid hz
    clear hno
    gi_wp2
    obtain ⟨W2, hW2⟩ : ∃ W2, W.setCell ⟨w.heap.size + 1, 0, none⟩ (.bool false) = W2 := ⟨_, rfl⟩
    rw [hW2]
    have hz2 : W2.heap[w.heap.size + 1]? = some (.cells #[.bool false] 4) := by rw [← hW2]; exact blk_set HZW.out 0 _
    have hK2 : W2.heap[D]? = some (.deferred (some [])) := by rw [← hW2]; exact (Below.heap_setCell _ _ _ _ (show D ≠ w.heap.size + 1 by omega)).trans hK
    have hb2 : Below w.heap.size w W2 := by rw [← hW2]; exact hb.setCell (p := ⟨w.heap.size + 1, 0, none⟩) (Nat.le_succ _) _
    clear hW2
    refine ⟨by simp, .inl ⟨_, _, rfl, run_takeDeferred hK2, ?_⟩⟩
    have s0 : (W2.putObj D (.deferred none)).cell? ⟨w.heap.size + 1, 0, none⟩ = some (.bool false) := cell_blk ((World.putObj_heap_other (by omega)).trans hz2) 0 rfl
    refine ⟨.bool false, ?_, ?_⟩
    · simp [results, Try.results70, go_sem, s0]
    · exact ⟨by rw [HE.out]; rfl, hb2.trans (below_putObj _ hK2 (by omega))⟩
  case stop =>
    rintro D c x W hD hno ⟨rfl, hz, hb⟩ hK
    have HE : Hid (allIn S = false) := by
      unfold Hid
      cases e : allIn S with
      | false => rfl
      | true => exact absurd (HNO.out.2 e) hno
    clear hno
    gi_wp2
    refine ⟨by simp, .inl ⟨_, _, rfl, run_takeDeferred hK, ?_⟩⟩
    have s0 : (W.putObj D (.deferred none)).cell? ⟨w.heap.size + 1, 0, none⟩ = some (.bool true) := cell_blk ((World.putObj_heap_other (by omega)).trans hz) 0 rfl
    refine ⟨.bool true, ?_, ?_⟩
    · simp [results, Try.results70, go_sem, s0]
    · exact ⟨by rw [HE.out]; rfl, hb.trans (below_putObj _ hK (by omega))⟩

end Go.Proofs.Ytffnlimgjnhmpaa
