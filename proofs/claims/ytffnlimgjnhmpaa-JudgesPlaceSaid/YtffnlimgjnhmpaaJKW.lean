/-
  JKW: rank of a jury: what it compares by, and the sort.
-/
import Derived.Test.YtffnlimgjnhmpaaJRank
import Derived.Test.YtffnlimgjnhmpaaJKF
import Derived.Test.YtffnlimgjnhmpaaJKR
namespace Go.Proofs.Ytffnlimgjnhmpaa
open Go.RowKit

/-- block jb holds the show -/
def JBX (W : World) (jb : Nat) (a1 : Option Addr) (c1 : Nat) (S : JB) : Prop := W.heap[jb]? = some (.cells #[.int .i64 S.J, .int .i64 S.D, .int .i64 S.Z, .slice a1 S.np c1] 74)

set_option maxHeartbeats 3200000 in
set_option maxRecDepth 100000 in
theorem rank1_any (N jb : Nat) (a1 : Option Addr) (c1 : Nat) (S : JB) (i j : Nat) (w : World) (h : ShowAt N w (.agg #[.int .i64 S.J, .int .i64 S.D, .int .i64 S.Z, .slice a1 S.np c1]) S) (hR : RdJ S) (hX : JBX w jb a1 c1 S) (hi : i < S.np) (hj : j < S.np) :
    Calls Try.prog 93 #[.int .i64 i, .int .i64 j, .pointer (some ⟨jb, 0, none⟩)] w fun e w' => e = .returned (.int .i64 (scC (hiT S j) (S.sz j) (hiT S i) (S.sz i))) ∧ Below w.heap.size w w' := by
  have HR := Lib.hid hR
  have HBK := Lib.hid h
  have hjw : jb < w.heap.size := heap_lt hX
  have q0 := cell_blk hX 0 rfl
  have q1 := cell_blk hX 1 rfl
  have q2 := cell_blk hX 2 rfl
  have q3 := cell_blk hX 3 rfl
  have HSQ : Hid (∀ W, Below w.heap.size w W → (W.cell? ⟨jb, 0, none⟩ = some (.int .i64 S.J) ∧ W.cell? ⟨jb, 1, none⟩ = some (.int .i64 S.D) ∧ W.cell? ⟨jb, 2, none⟩ = some (.int .i64 S.Z) ∧ W.cell? ⟨jb, 3, none⟩ = some (.slice a1 S.np c1))) := fun W hW => ⟨(hW.cell (p := ⟨jb, 0, none⟩) hjw).trans q0, (hW.cell (p := ⟨jb, 1, none⟩) hjw).trans q1, (hW.cell (p := ⟨jb, 2, none⟩) hjw).trans q2, (hW.cell (p := ⟨jb, 3, none⟩) hjw).trans q3⟩
  obtain ⟨ti, hti⟩ : ∃ x, hiT S i = x := ⟨_, rfl⟩
  obtain ⟨tj, htj⟩ : ∃ x, hiT S j = x := ⟨_, rfl⟩
  obtain ⟨si, hsi⟩ : ∃ x, S.sz i = x := ⟨_, rfl⟩
  obtain ⟨sj, hsj⟩ : ∃ x, S.sz j = x := ⟨_, rfl⟩
  have HT := Lib.hid (And.intro hti (And.intro htj (And.intro hsi hsj)))
  rw [hti, htj, hsi, hsj]
  clear h hR hX q0 q1 q2 q3 hti htj hsi hsj
  go_enter Try.func93, Try.ntmps93
  go_upto_region 1 with fail
  have hS0 := HSQ.out w.drew (Below.refl _ _).drew
  refine wp_region_held_drew (S := fun W => (W.cell? ⟨jb, 0, none⟩ = some (.int .i64 S.J) ∧ W.cell? ⟨jb, 1, none⟩ = some (.int .i64 S.D) ∧ W.cell? ⟨jb, 2, none⟩ = some (.int .i64 S.Z) ∧ W.cell? ⟨jb, 3, none⟩ = some (.slice a1 S.np c1))) (by kernel_rfl) hS0 (fun hHeld => ?_)
  (refine wpAnyH_take (i := 0) (v := ?_) rfl (by kernel_rfl) (by kernel_rfl) (by kernel_rfl) (fun _ _ _ h => h) (Or.inl ⟨by rfl, ?_⟩) (by assumption) ?_; rotate_left; (focus (intro w hSw; (try dsimp only at hSw); go_simp; (try with_reducible rfl))); (try simp only [List.getElem_toArray, List.getElem_cons_zero, List.getElem_cons_succ, Act.put, List.setIfInBounds_toArray, List.set_cons_zero, List.set_cons_succ])); (refine wpAnyH_take (i := 1) (v := ?_) rfl (by kernel_rfl) (by kernel_rfl) (by kernel_rfl) (fun _ _ _ h => h) (Or.inl ⟨by rfl, ?_⟩) (by assumption) ?_; rotate_left; (focus (intro w hSw; (try dsimp only at hSw); go_simp; (try with_reducible rfl))); (try simp only [List.getElem_toArray, List.getElem_cons_zero, List.getElem_cons_succ, Act.put, List.setIfInBounds_toArray, List.set_cons_zero, List.set_cons_succ]))
  (refine wpAnyH_take (i := 3) (v := ?_) rfl (by kernel_rfl) (by kernel_rfl) (by kernel_rfl) (fun _ _ _ h => h) (Or.inl ⟨by rfl, ?_⟩) (by assumption) ?_; rotate_left; (focus (intro w hSw; (try dsimp only at hSw); go_simp; (try with_reducible rfl))); (try simp only [List.getElem_toArray, List.getElem_cons_zero, List.getElem_cons_succ, Act.put, List.setIfInBounds_toArray, List.set_cons_zero, List.set_cons_succ])); (refine wpAnyH_take (i := 4) (v := ?_) rfl (by kernel_rfl) (by kernel_rfl) (by kernel_rfl) (fun _ _ _ h => h) (Or.inl ⟨by rfl, ?_⟩) (by assumption) ?_; rotate_left; (focus (intro w hSw; (try dsimp only at hSw); go_simp; (try with_reducible rfl))); (try simp only [List.getElem_toArray, List.getElem_cons_zero, List.getElem_cons_succ, Act.put, List.setIfInBounds_toArray, List.set_cons_zero, List.set_cons_succ]))
  refine wpAnyH_ready (rs := [2]) (by kernel_rfl) (by simp) ?_; refine AllReadyH.cons rfl (fun K hK => ?_) AllReadyH.nil; go_simp
  go_at_call 82
  refine (kmost_any N _ S j _ (HBK.out.go (Below.refl _ _).drew) HR.out hj).mono ?_
  rw [HT.out.2.1, HT.out.2.2.2]
  rintro e w1 ⟨rfl, hb1⟩
  have HC1 : Hid (Below w.heap.size w w1) := (Below.refl _ _).drew.trans hb1
  have hS1 := HSQ.out w1 HC1.out
  clear hb1
  refine hK.out _ _ hS1 (fun hHeld => ?_); clear hK K; (try simp only [List.getElem_toArray, List.getElem_cons_zero, List.getElem_cons_succ, Act.put, List.setIfInBounds_toArray, List.set_cons_zero, List.set_cons_succ])
  refine wpAnyH_ready (rs := [5]) (by kernel_rfl) (by simp) ?_; refine AllReadyH.cons rfl (fun K hK => ?_) AllReadyH.nil; go_simp
  go_at_call 82
  refine (kmost_any N _ S i _ (HBK.out.go HC1.out) HR.out hi).mono ?_
  rw [HT.out.1, HT.out.2.2.1]
  rintro e w2 ⟨rfl, hb2⟩
  have HC2 : Hid (Below w.heap.size w w2) := bel HC1.out hb2
  have hS2 := HSQ.out w2 HC2.out
  clear hb2 hS1
  refine hK.out _ _ hS2 (fun hHeld => ?_); clear hK K; (try simp only [List.getElem_toArray, List.getElem_cons_zero, List.getElem_cons_succ, Act.put, List.setIfInBounds_toArray, List.set_cons_zero, List.set_cons_succ])
  refine wpAnyH_ready (rs := [6]) (by kernel_rfl) (by simp) ?_; refine AllReadyH.cons rfl (fun K hK => ?_) AllReadyH.nil; go_simp
  go_at_call 94
  refine (scompare_any _ _ _ _ _).mono ?_
  rintro e w3 ⟨rfl, hb3⟩
  have HC3 : Hid (Below w.heap.size w w3) := bel HC2.out hb3
  have hS3 := HSQ.out w3 HC3.out
  clear hb3 hS2
  refine hK.out _ _ hS3 (fun hHeld => ?_); clear hK K; (try simp only [List.getElem_toArray, List.getElem_cons_zero, List.getElem_cons_succ, Act.put, List.setIfInBounds_toArray, List.set_cons_zero, List.set_cons_succ])
  (refine wpAnyH_take (i := 7) (v := ?_) rfl (by kernel_rfl) (by kernel_rfl) (by kernel_rfl) (fun _ _ _ h => h) (Or.inl ⟨by rfl, ?_⟩) (by assumption) ?_; rotate_left; (focus (intro w hSw; (try dsimp only at hSw); go_simp; (try with_reducible rfl))); (try simp only [List.getElem_toArray, List.getElem_cons_zero, List.getElem_cons_succ, Act.put, List.setIfInBounds_toArray, List.set_cons_zero, List.set_cons_succ]))
  refine wpAnyH_done (by kernel_rfl) ?_ _; clear hHeld
  clear hS3
  go_wp2_with fail
  go_ret
  exact ⟨rfl, HC3.out⟩

end Go.Proofs.Ytffnlimgjnhmpaa
