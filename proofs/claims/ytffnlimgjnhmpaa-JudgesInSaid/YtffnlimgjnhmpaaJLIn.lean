/-
  JLIn: JudgesIn returns true.
-/
import Derived.Test.YtffnlimgjnhmpaaJLRank
import Derived.Test.YtffnlimgjnhmpaaJReady
import Derived.Test.YtffnlimgjnhmpaaJKaf
namespace Go.Proofs.Ytffnlimgjnhmpaa
open Go.RowKit

theorem inside_any (a b c d : Int) (w : World) (h1 : c ≤ a) (h2 : a ≤ b) (h3 : b ≤ d) :
    Calls Try.prog 28 #[.agg #[.int .i64 a, .int .i64 b], .agg #[.int .i64 c, .int .i64 d]] w fun e w' => e = .returned (.bool true) ∧ Below w.heap.size w w' := by
  obtain ⟨ws, hws, HB, hsz, hsz1, hblk, hblk1⟩ := box2 w (.cells #[.int .i64 a, .int .i64 b] 30) (.cells #[.int .i64 c, .int .i64 d] 30)
  have q0 := cell_blk hblk 0 rfl
  have q1 := cell_blk hblk 1 rfl
  have p0 := cell_blk hblk1 0 rfl
  have p1 := cell_blk hblk1 1 rfl
  clear hblk hblk1
  go_enter Try.func28, Try.ntmps28
  go_wp2_with fail
  go_ret
  exact ⟨rfl, HB.out⟩
theorem sharper_any (a b : Int) (w : World) (h1 : a = 1 ∨ a = 2 ∨ a = 3) (h2 : b = 3 ∨ a = b) :
    Calls Try.prog 29 #[.int .i64 a, .int .i64 b] w fun e w' => e = .returned (.bool true) ∧ w' = w := by
  have hw : (decide (1 ≤ a) && decide (a ≤ 3)) = true := by
    rcases h1 with rfl | rfl | rfl <;> rfl
  have HW := Lib.hid hw
  clear hw
  by_cases hb : b = 3
  · subst hb
    clear h1 h2
    go_enter Try.func29, Try.ntmps29
    go_wp2_with (go_at_call 61; refine (within_eq _ _ _ _ _ HW.out).mono ?_; rintro e w' ⟨rfl, hw'⟩; rw [hw']; clear hw')
    go_ret
    exact ⟨rfl, rfl⟩
  · have he : a = b := h2.resolve_left hb
    subst he
    clear h1 h2
    go_enter Try.func29, Try.ntmps29
    go_wp2_with (go_at_call 61; refine (within_eq _ _ _ _ _ HW.out).mono ?_; rintro e w' ⟨rfl, hw'⟩; rw [hw']; clear hw')
    go_ret
    exact ⟨rfl, rfl⟩
theorem kno_123 (S : JB) (i j : Nat) : kno S i j = 1 ∨ kno S i j = 2 ∨ kno S i j = 3 := by
  unfold kno; split
  · exact .inl rfl
  · split
    · exact .inr (.inr rfl)
    · exact .inr (.inl rfl)
theorem rem_next {m n : Nat} (hm : m < n) : ∃ o : Nat, o < n ∧ Int.tmod ((m : Int) + 1) (n : Int) = (o : Int) ∧ (o = m → n = 1) := by
  by_cases h : m + 1 = n
  · refine ⟨0, by omega, ?_, fun h0 => by omega⟩
    rw [← h]
    show Int.tmod ((m : Int) + 1) ((m + 1 : Nat) : Int) = 0
    rw [show ((m + 1 : Nat) : Int) = (m : Int) + 1 by omega]
    exact Int.tmod_self
  · refine ⟨m + 1, by omega, ?_, fun h0 => by omega⟩
    rw [Int.tmod_eq_of_lt (by omega) (by omega)]; omega

set_option maxHeartbeats 6400000 in
set_option maxRecDepth 100000 in
theorem cin_any (N : Nat) (v : Value) (S : JB) (p j pt : Int) (w : World) (h : ShowAt N w v S) :
    Calls Try.prog 4 #[v, .agg #[.int .i64 p, .int .i64 j], .int .i64 pt] w fun e w' => e = .returned (.bool true) ∧ Below w.heap.size w w' := by
  obtain ⟨a1, c1, rfl⟩ := h.form
  obtain ⟨ws, hws, HB, hsz, hsz1, hblk, hblk1⟩ := box2 w (.cells #[.int .i64 S.J, .int .i64 S.D, .int .i64 S.Z, .slice a1 S.np c1] 24) (.cells #[.int .i64 p, .int .i64 j] 46)
  have q0 := cell_blk hblk 0 rfl
  have q1 := cell_blk hblk 1 rfl
  have q2 := cell_blk hblk 2 rfl
  have q3 := cell_blk hblk 3 rfl
  have p0 := cell_blk hblk1 0 rfl
  have p1 := cell_blk hblk1 1 rfl
  have HBK := Lib.hid (h.go HB.out)
  have HNS : Hid (N ≤ ws.heap.size) := HBK.out.1
  have HSQ : Hid (∀ W, Below ws.heap.size ws W → ((W.cell? ⟨w.heap.size, 0, none⟩ = some (.int .i64 S.J) ∧ W.cell? ⟨w.heap.size, 1, none⟩ = some (.int .i64 S.D) ∧ W.cell? ⟨w.heap.size, 2, none⟩ = some (.int .i64 S.Z) ∧ W.cell? ⟨w.heap.size, 3, none⟩ = some (.slice a1 S.np c1)) ∧ (W.cell? ⟨w.heap.size + 1, 0, none⟩ = some (.int .i64 p) ∧ W.cell? ⟨w.heap.size + 1, 1, none⟩ = some (.int .i64 j)))) := fun W hW => ⟨⟨(hW.cell (p := ⟨w.heap.size, 0, none⟩) hsz).trans q0, (hW.cell (p := ⟨w.heap.size, 1, none⟩) hsz).trans q1, (hW.cell (p := ⟨w.heap.size, 2, none⟩) hsz).trans q2, (hW.cell (p := ⟨w.heap.size, 3, none⟩) hsz).trans q3⟩, (hW.cell (p := ⟨w.heap.size + 1, 0, none⟩) hsz1).trans p0, (hW.cell (p := ⟨w.heap.size + 1, 1, none⟩) hsz1).trans p1⟩
  clear hblk hblk1 h q0 q1 q2 q3 p0 p1
  cases hre : (!farS S && okS S) with
  | false =>
    have HRE := Lib.hid hre
    clear hre
    go_enter Try.func4, Try.ntmps4
    go_upto_region 1 with fail
    clear hws
    have hS0 := HSQ.out ws.drew (Below.refl _ _).drew
    refine wp_region_held_drew (S := fun W => (((W.cell? ⟨w.heap.size, 0, none⟩ = some (.int .i64 S.J) ∧ W.cell? ⟨w.heap.size, 1, none⟩ = some (.int .i64 S.D) ∧ W.cell? ⟨w.heap.size, 2, none⟩ = some (.int .i64 S.Z) ∧ W.cell? ⟨w.heap.size, 3, none⟩ = some (.slice a1 S.np c1)) ∧ (W.cell? ⟨w.heap.size + 1, 0, none⟩ = some (.int .i64 p) ∧ W.cell? ⟨w.heap.size + 1, 1, none⟩ = some (.int .i64 j))))) (by kernel_rfl) hS0 (fun hHeld => ?_)
    (refine wpAnyH_take (i := 0) (v := ?_) rfl (by kernel_rfl) (by kernel_rfl) (by kernel_rfl) (fun _ _ _ h => h) (Or.inl ⟨by rfl, ?_⟩) (by assumption) ?_; rotate_left; (focus (intro w hSw; (try dsimp only at hSw); go_simp; (try with_reducible rfl))); (try simp only [List.getElem_toArray, List.getElem_cons_zero, List.getElem_cons_succ, Act.put, List.setIfInBounds_toArray, List.set_cons_zero, List.set_cons_succ]))
    refine wpAnyH_ready (rs := [1]) (by kernel_rfl) (by simp) ?_; refine AllReadyH.cons rfl (fun K hK => ?_) AllReadyH.nil; go_simp
    go_at_call 12
    refine (ready_any N _ S _ (HBK.out.go (Below.refl _ _).drew)).mono ?_
    rw [HRE.out]
    rintro e w1 ⟨rfl, hb1⟩
    have HB1 : Hid (Below ws.heap.size ws w1) := (Below.refl _ _).drew.trans hb1
    have hS1 := HSQ.out w1 HB1.out
    clear hb1 hS0
    refine hK.out _ _ hS1 (fun hHeld => ?_); clear hK K; (try simp only [List.getElem_toArray, List.getElem_cons_zero, List.getElem_cons_succ, Act.put, List.setIfInBounds_toArray, List.set_cons_zero, List.set_cons_succ])
    (refine wpAnyH_take (i := 2) (v := ?_) rfl (by kernel_rfl) (by kernel_rfl) (by kernel_rfl) (fun _ _ _ h => h) (Or.inl ⟨by rfl, ?_⟩) (by assumption) ?_; rotate_left; (focus (intro w hSw; (try dsimp only at hSw); go_simp; (try with_reducible rfl))); (try simp only [List.getElem_toArray, List.getElem_cons_zero, List.getElem_cons_succ, Act.put, List.setIfInBounds_toArray, List.set_cons_zero, List.set_cons_succ])); (refine wpAnyH_take (i := 3) (v := ?_) rfl (by kernel_rfl) (by kernel_rfl) (by kernel_rfl) (fun _ _ _ h => h) (Or.inl ⟨by rfl, ?_⟩) (by assumption) ?_; rotate_left; (focus (intro w hSw; (try dsimp only at hSw); go_simp; (try with_reducible rfl))); (try simp only [List.getElem_toArray, List.getElem_cons_zero, List.getElem_cons_succ, Act.put, List.setIfInBounds_toArray, List.set_cons_zero, List.set_cons_succ]))
    (refine wpAnyH_take (i := 4) (v := undef) rfl (by kernel_rfl) (by kernel_rfl) (by kernel_rfl) (fun _ _ _ h => h) (Or.inr ⟨by rfl, rfl⟩) (by assumption) ?_; (try simp only [List.getElem_toArray, List.getElem_cons_zero, List.getElem_cons_succ, Act.put, List.setIfInBounds_toArray, List.set_cons_zero, List.set_cons_succ])); (refine wpAnyH_take (i := 5) (v := undef) rfl (by kernel_rfl) (by kernel_rfl) (by kernel_rfl) (fun _ _ _ h => h) (Or.inr ⟨by rfl, rfl⟩) (by assumption) ?_; (try simp only [List.getElem_toArray, List.getElem_cons_zero, List.getElem_cons_succ, Act.put, List.setIfInBounds_toArray, List.set_cons_zero, List.set_cons_succ])); (refine wpAnyH_take (i := 6) (v := undef) rfl (by kernel_rfl) (by kernel_rfl) (by kernel_rfl) (fun _ _ _ h => h) (Or.inr ⟨by rfl, rfl⟩) (by assumption) ?_; (try simp only [List.getElem_toArray, List.getElem_cons_zero, List.getElem_cons_succ, Act.put, List.setIfInBounds_toArray, List.set_cons_zero, List.set_cons_succ])); (refine wpAnyH_take (i := 7) (v := undef) rfl (by kernel_rfl) (by kernel_rfl) (by kernel_rfl) (fun _ _ _ h => h) (Or.inr ⟨by rfl, rfl⟩) (by assumption) ?_; (try simp only [List.getElem_toArray, List.getElem_cons_zero, List.getElem_cons_succ, Act.put, List.setIfInBounds_toArray, List.set_cons_zero, List.set_cons_succ]))
    (refine wpAnyH_take (i := 8) (v := ?_) rfl (by kernel_rfl) (by kernel_rfl) (by kernel_rfl) (fun _ _ _ h => h) (Or.inl ⟨by rfl, ?_⟩) (by assumption) ?_; rotate_left; (focus (intro w hSw; (try dsimp only at hSw); go_simp; (try with_reducible rfl))); (try simp only [List.getElem_toArray, List.getElem_cons_zero, List.getElem_cons_succ, Act.put, List.setIfInBounds_toArray, List.set_cons_zero, List.set_cons_succ])); (refine wpAnyH_take (i := 9) (v := ?_) rfl (by kernel_rfl) (by kernel_rfl) (by kernel_rfl) (fun _ _ _ h => h) (Or.inl ⟨by rfl, ?_⟩) (by assumption) ?_; rotate_left; (focus (intro w hSw; (try dsimp only at hSw); go_simp; (try with_reducible rfl))); (try simp only [List.getElem_toArray, List.getElem_cons_zero, List.getElem_cons_succ, Act.put, List.setIfInBounds_toArray, List.set_cons_zero, List.set_cons_succ]))
    (refine wpAnyH_take (i := 10) (v := undef) rfl (by kernel_rfl) (by kernel_rfl) (by kernel_rfl) (fun _ _ _ h => h) (Or.inr ⟨by rfl, rfl⟩) (by assumption) ?_; (try simp only [List.getElem_toArray, List.getElem_cons_zero, List.getElem_cons_succ, Act.put, List.setIfInBounds_toArray, List.set_cons_zero, List.set_cons_succ])); (refine wpAnyH_take (i := 11) (v := undef) rfl (by kernel_rfl) (by kernel_rfl) (by kernel_rfl) (fun _ _ _ h => h) (Or.inr ⟨by rfl, rfl⟩) (by assumption) ?_; (try simp only [List.getElem_toArray, List.getElem_cons_zero, List.getElem_cons_succ, Act.put, List.setIfInBounds_toArray, List.set_cons_zero, List.set_cons_succ])); (refine wpAnyH_take (i := 12) (v := undef) rfl (by kernel_rfl) (by kernel_rfl) (by kernel_rfl) (fun _ _ _ h => h) (Or.inr ⟨by rfl, rfl⟩) (by assumption) ?_; (try simp only [List.getElem_toArray, List.getElem_cons_zero, List.getElem_cons_succ, Act.put, List.setIfInBounds_toArray, List.set_cons_zero, List.set_cons_succ])); (refine wpAnyH_take (i := 13) (v := undef) rfl (by kernel_rfl) (by kernel_rfl) (by kernel_rfl) (fun _ _ _ h => h) (Or.inr ⟨by rfl, rfl⟩) (by assumption) ?_; (try simp only [List.getElem_toArray, List.getElem_cons_zero, List.getElem_cons_succ, Act.put, List.setIfInBounds_toArray, List.set_cons_zero, List.set_cons_succ])); (refine wpAnyH_take (i := 14) (v := undef) rfl (by kernel_rfl) (by kernel_rfl) (by kernel_rfl) (fun _ _ _ h => h) (Or.inr ⟨by rfl, rfl⟩) (by assumption) ?_; (try simp only [List.getElem_toArray, List.getElem_cons_zero, List.getElem_cons_succ, Act.put, List.setIfInBounds_toArray, List.set_cons_zero, List.set_cons_succ])); (refine wpAnyH_take (i := 15) (v := undef) rfl (by kernel_rfl) (by kernel_rfl) (by kernel_rfl) (fun _ _ _ h => h) (Or.inr ⟨by rfl, rfl⟩) (by assumption) ?_; (try simp only [List.getElem_toArray, List.getElem_cons_zero, List.getElem_cons_succ, Act.put, List.setIfInBounds_toArray, List.set_cons_zero, List.set_cons_succ])); (refine wpAnyH_take (i := 16) (v := undef) rfl (by kernel_rfl) (by kernel_rfl) (by kernel_rfl) (fun _ _ _ h => h) (Or.inr ⟨by rfl, rfl⟩) (by assumption) ?_; (try simp only [List.getElem_toArray, List.getElem_cons_zero, List.getElem_cons_succ, Act.put, List.setIfInBounds_toArray, List.set_cons_zero, List.set_cons_succ])); (refine wpAnyH_take (i := 17) (v := undef) rfl (by kernel_rfl) (by kernel_rfl) (by kernel_rfl) (fun _ _ _ h => h) (Or.inr ⟨by rfl, rfl⟩) (by assumption) ?_; (try simp only [List.getElem_toArray, List.getElem_cons_zero, List.getElem_cons_succ, Act.put, List.setIfInBounds_toArray, List.set_cons_zero, List.set_cons_succ])); (refine wpAnyH_take (i := 18) (v := undef) rfl (by kernel_rfl) (by kernel_rfl) (by kernel_rfl) (fun _ _ _ h => h) (Or.inr ⟨by rfl, rfl⟩) (by assumption) ?_; (try simp only [List.getElem_toArray, List.getElem_cons_zero, List.getElem_cons_succ, Act.put, List.setIfInBounds_toArray, List.set_cons_zero, List.set_cons_succ])); (refine wpAnyH_take (i := 19) (v := undef) rfl (by kernel_rfl) (by kernel_rfl) (by kernel_rfl) (fun _ _ _ h => h) (Or.inr ⟨by rfl, rfl⟩) (by assumption) ?_; (try simp only [List.getElem_toArray, List.getElem_cons_zero, List.getElem_cons_succ, Act.put, List.setIfInBounds_toArray, List.set_cons_zero, List.set_cons_succ])); (refine wpAnyH_take (i := 20) (v := undef) rfl (by kernel_rfl) (by kernel_rfl) (by kernel_rfl) (fun _ _ _ h => h) (Or.inr ⟨by rfl, rfl⟩) (by assumption) ?_; (try simp only [List.getElem_toArray, List.getElem_cons_zero, List.getElem_cons_succ, Act.put, List.setIfInBounds_toArray, List.set_cons_zero, List.set_cons_succ])); (refine wpAnyH_take (i := 21) (v := undef) rfl (by kernel_rfl) (by kernel_rfl) (by kernel_rfl) (fun _ _ _ h => h) (Or.inr ⟨by rfl, rfl⟩) (by assumption) ?_; (try simp only [List.getElem_toArray, List.getElem_cons_zero, List.getElem_cons_succ, Act.put, List.setIfInBounds_toArray, List.set_cons_zero, List.set_cons_succ]))
    (refine wpAnyH_take (i := 22) (v := ?_) rfl (by kernel_rfl) (by kernel_rfl) (by kernel_rfl) (fun _ _ _ h => h) (Or.inl ⟨by rfl, ?_⟩) (by assumption) ?_; rotate_left; (focus (intro w hSw; (try dsimp only at hSw); go_simp; (try with_reducible rfl))); (try simp only [List.getElem_toArray, List.getElem_cons_zero, List.getElem_cons_succ, Act.put, List.setIfInBounds_toArray, List.set_cons_zero, List.set_cons_succ])); (refine wpAnyH_take (i := 23) (v := ?_) rfl (by kernel_rfl) (by kernel_rfl) (by kernel_rfl) (fun _ _ _ h => h) (Or.inl ⟨by rfl, ?_⟩) (by assumption) ?_; rotate_left; (focus (intro w hSw; (try dsimp only at hSw); go_simp; (try with_reducible rfl))); (try simp only [List.getElem_toArray, List.getElem_cons_zero, List.getElem_cons_succ, Act.put, List.setIfInBounds_toArray, List.set_cons_zero, List.set_cons_succ]))
    (refine wpAnyH_take (i := 24) (v := undef) rfl (by kernel_rfl) (by kernel_rfl) (by kernel_rfl) (fun _ _ _ h => h) (Or.inr ⟨by rfl, rfl⟩) (by assumption) ?_; (try simp only [List.getElem_toArray, List.getElem_cons_zero, List.getElem_cons_succ, Act.put, List.setIfInBounds_toArray, List.set_cons_zero, List.set_cons_succ])); (refine wpAnyH_take (i := 25) (v := undef) rfl (by kernel_rfl) (by kernel_rfl) (by kernel_rfl) (fun _ _ _ h => h) (Or.inr ⟨by rfl, rfl⟩) (by assumption) ?_; (try simp only [List.getElem_toArray, List.getElem_cons_zero, List.getElem_cons_succ, Act.put, List.setIfInBounds_toArray, List.set_cons_zero, List.set_cons_succ])); (refine wpAnyH_take (i := 26) (v := undef) rfl (by kernel_rfl) (by kernel_rfl) (by kernel_rfl) (fun _ _ _ h => h) (Or.inr ⟨by rfl, rfl⟩) (by assumption) ?_; (try simp only [List.getElem_toArray, List.getElem_cons_zero, List.getElem_cons_succ, Act.put, List.setIfInBounds_toArray, List.set_cons_zero, List.set_cons_succ]))
    (refine wpAnyH_take (i := 27) (v := ?_) rfl (by kernel_rfl) (by kernel_rfl) (by kernel_rfl) (fun _ _ _ h => h) (Or.inl ⟨by rfl, ?_⟩) (by assumption) ?_; rotate_left; (focus (intro w hSw; (try dsimp only at hSw); go_simp; (try with_reducible rfl))); (try simp only [List.getElem_toArray, List.getElem_cons_zero, List.getElem_cons_succ, Act.put, List.setIfInBounds_toArray, List.set_cons_zero, List.set_cons_succ]))
    refine wpAnyH_done (by kernel_rfl) ?_ _; clear hHeld
    go_wp2_with (go_at_call 13; refine (works_any _).mono ?_; rintro e wz ⟨rfl, hbz⟩; have HBz : Hid (Below ws.heap.size ws wz) := bel HB1.out hbz; clear hbz)
    go_ret
    exact ⟨rfl, fin HB.out HBz.out⟩
  | true =>
  have HRE := Lib.hid hre
  obtain ⟨hfar, hok⟩ : farS S = false ∧ okS S = true := by simpa using hre
  have HG := Lib.hid (okS_good hok)
  have HJB : Hid (0 ≤ S.J ∧ S.J ≤ 1000) := ⟨by have := HG.out.J1; omega, by have := HG.out.J5; omega⟩
  have hnp6 := HG.out.np
  have HOK := Lib.hid hok
  clear hre hfar hok
  cases him : isMk S p j with
  | false =>
    have HIM := Lib.hid him
    clear him
    go_enter Try.func4, Try.ntmps4
    go_upto_region 1 with fail
    clear hws
    have hS0 := HSQ.out ws.drew (Below.refl _ _).drew
    refine wp_region_held_drew (S := fun W => (((W.cell? ⟨w.heap.size, 0, none⟩ = some (.int .i64 S.J) ∧ W.cell? ⟨w.heap.size, 1, none⟩ = some (.int .i64 S.D) ∧ W.cell? ⟨w.heap.size, 2, none⟩ = some (.int .i64 S.Z) ∧ W.cell? ⟨w.heap.size, 3, none⟩ = some (.slice a1 S.np c1)) ∧ (W.cell? ⟨w.heap.size + 1, 0, none⟩ = some (.int .i64 p) ∧ W.cell? ⟨w.heap.size + 1, 1, none⟩ = some (.int .i64 j))))) (by kernel_rfl) hS0 (fun hHeld => ?_)
    (refine wpAnyH_take (i := 0) (v := ?_) rfl (by kernel_rfl) (by kernel_rfl) (by kernel_rfl) (fun _ _ _ h => h) (Or.inl ⟨by rfl, ?_⟩) (by assumption) ?_; rotate_left; (focus (intro w hSw; (try dsimp only at hSw); go_simp; (try with_reducible rfl))); (try simp only [List.getElem_toArray, List.getElem_cons_zero, List.getElem_cons_succ, Act.put, List.setIfInBounds_toArray, List.set_cons_zero, List.set_cons_succ]))
    refine wpAnyH_ready (rs := [1]) (by kernel_rfl) (by simp) ?_; refine AllReadyH.cons rfl (fun K hK => ?_) AllReadyH.nil; go_simp
    go_at_call 12
    refine (ready_any N _ S _ (HBK.out.go (Below.refl _ _).drew)).mono ?_
    rw [HRE.out]
    rintro e w1 ⟨rfl, hb1⟩
    have HB1 : Hid (Below ws.heap.size ws w1) := (Below.refl _ _).drew.trans hb1
    have hS1 := HSQ.out w1 HB1.out
    clear hb1 hS0
    refine hK.out _ _ hS1 (fun hHeld => ?_); clear hK K; (try simp only [List.getElem_toArray, List.getElem_cons_zero, List.getElem_cons_succ, Act.put, List.setIfInBounds_toArray, List.set_cons_zero, List.set_cons_succ])
    (refine wpAnyH_take (i := 2) (v := ?_) rfl (by kernel_rfl) (by kernel_rfl) (by kernel_rfl) (fun _ _ _ h => h) (Or.inl ⟨by rfl, ?_⟩) (by assumption) ?_; rotate_left; (focus (intro w hSw; (try dsimp only at hSw); go_simp; (try with_reducible rfl))); (try simp only [List.getElem_toArray, List.getElem_cons_zero, List.getElem_cons_succ, Act.put, List.setIfInBounds_toArray, List.set_cons_zero, List.set_cons_succ])); (refine wpAnyH_take (i := 3) (v := ?_) rfl (by kernel_rfl) (by kernel_rfl) (by kernel_rfl) (fun _ _ _ h => h) (Or.inl ⟨by rfl, ?_⟩) (by assumption) ?_; rotate_left; (focus (intro w hSw; (try dsimp only at hSw); go_simp; (try with_reducible rfl))); (try simp only [List.getElem_toArray, List.getElem_cons_zero, List.getElem_cons_succ, Act.put, List.setIfInBounds_toArray, List.set_cons_zero, List.set_cons_succ])); (refine wpAnyH_take (i := 4) (v := ?_) rfl (by kernel_rfl) (by kernel_rfl) (by kernel_rfl) (fun _ _ _ h => h) (Or.inl ⟨by rfl, ?_⟩) (by assumption) ?_; rotate_left; (focus (intro w hSw; (try dsimp only at hSw); go_simp; (try with_reducible rfl))); (try simp only [List.getElem_toArray, List.getElem_cons_zero, List.getElem_cons_succ, Act.put, List.setIfInBounds_toArray, List.set_cons_zero, List.set_cons_succ])); (refine wpAnyH_take (i := 5) (v := ?_) rfl (by kernel_rfl) (by kernel_rfl) (by kernel_rfl) (fun _ _ _ h => h) (Or.inl ⟨by rfl, ?_⟩) (by assumption) ?_; rotate_left; (focus (intro w hSw; (try dsimp only at hSw); go_simp; (try with_reducible rfl))); (try simp only [List.getElem_toArray, List.getElem_cons_zero, List.getElem_cons_succ, Act.put, List.setIfInBounds_toArray, List.set_cons_zero, List.set_cons_succ]))
    refine wpAnyH_ready (rs := [6]) (by kernel_rfl) (by simp) ?_; refine AllReadyH.cons rfl (fun K hK => ?_) AllReadyH.nil; go_simp
    go_at_call 24
    refine (isMark_any N _ S p j _ (HBK.out.go HB1.out) HJB.out).mono ?_
    rw [HIM.out]
    rintro e w2 ⟨rfl, hb2⟩
    have HB2 : Hid (Below ws.heap.size ws w2) := bel HB1.out hb2
    have hS2 := HSQ.out w2 HB2.out
    clear hb2 hS1
    refine hK.out _ _ hS2 (fun hHeld => ?_); clear hK K; (try simp only [List.getElem_toArray, List.getElem_cons_zero, List.getElem_cons_succ, Act.put, List.setIfInBounds_toArray, List.set_cons_zero, List.set_cons_succ])
    (refine wpAnyH_take (i := 7) (v := ?_) rfl (by kernel_rfl) (by kernel_rfl) (by kernel_rfl) (fun _ _ _ h => h) (Or.inl ⟨by rfl, ?_⟩) (by assumption) ?_; rotate_left; (focus (intro w hSw; (try dsimp only at hSw); go_simp; (try with_reducible rfl))); (try simp only [List.getElem_toArray, List.getElem_cons_zero, List.getElem_cons_succ, Act.put, List.setIfInBounds_toArray, List.set_cons_zero, List.set_cons_succ])); (refine wpAnyH_take (i := 8) (v := ?_) rfl (by kernel_rfl) (by kernel_rfl) (by kernel_rfl) (fun _ _ _ h => h) (Or.inl ⟨by rfl, ?_⟩) (by assumption) ?_; rotate_left; (focus (intro w hSw; (try dsimp only at hSw); go_simp; (try with_reducible rfl))); (try simp only [List.getElem_toArray, List.getElem_cons_zero, List.getElem_cons_succ, Act.put, List.setIfInBounds_toArray, List.set_cons_zero, List.set_cons_succ])); (refine wpAnyH_take (i := 9) (v := ?_) rfl (by kernel_rfl) (by kernel_rfl) (by kernel_rfl) (fun _ _ _ h => h) (Or.inl ⟨by rfl, ?_⟩) (by assumption) ?_; rotate_left; (focus (intro w hSw; (try dsimp only at hSw); go_simp; (try with_reducible rfl))); (try simp only [List.getElem_toArray, List.getElem_cons_zero, List.getElem_cons_succ, Act.put, List.setIfInBounds_toArray, List.set_cons_zero, List.set_cons_succ]))
    (refine wpAnyH_take (i := 10) (v := undef) rfl (by kernel_rfl) (by kernel_rfl) (by kernel_rfl) (fun _ _ _ h => h) (Or.inr ⟨by rfl, rfl⟩) (by assumption) ?_; (try simp only [List.getElem_toArray, List.getElem_cons_zero, List.getElem_cons_succ, Act.put, List.setIfInBounds_toArray, List.set_cons_zero, List.set_cons_succ])); (refine wpAnyH_take (i := 11) (v := undef) rfl (by kernel_rfl) (by kernel_rfl) (by kernel_rfl) (fun _ _ _ h => h) (Or.inr ⟨by rfl, rfl⟩) (by assumption) ?_; (try simp only [List.getElem_toArray, List.getElem_cons_zero, List.getElem_cons_succ, Act.put, List.setIfInBounds_toArray, List.set_cons_zero, List.set_cons_succ])); (refine wpAnyH_take (i := 12) (v := undef) rfl (by kernel_rfl) (by kernel_rfl) (by kernel_rfl) (fun _ _ _ h => h) (Or.inr ⟨by rfl, rfl⟩) (by assumption) ?_; (try simp only [List.getElem_toArray, List.getElem_cons_zero, List.getElem_cons_succ, Act.put, List.setIfInBounds_toArray, List.set_cons_zero, List.set_cons_succ])); (refine wpAnyH_take (i := 13) (v := undef) rfl (by kernel_rfl) (by kernel_rfl) (by kernel_rfl) (fun _ _ _ h => h) (Or.inr ⟨by rfl, rfl⟩) (by assumption) ?_; (try simp only [List.getElem_toArray, List.getElem_cons_zero, List.getElem_cons_succ, Act.put, List.setIfInBounds_toArray, List.set_cons_zero, List.set_cons_succ])); (refine wpAnyH_take (i := 14) (v := undef) rfl (by kernel_rfl) (by kernel_rfl) (by kernel_rfl) (fun _ _ _ h => h) (Or.inr ⟨by rfl, rfl⟩) (by assumption) ?_; (try simp only [List.getElem_toArray, List.getElem_cons_zero, List.getElem_cons_succ, Act.put, List.setIfInBounds_toArray, List.set_cons_zero, List.set_cons_succ])); (refine wpAnyH_take (i := 15) (v := undef) rfl (by kernel_rfl) (by kernel_rfl) (by kernel_rfl) (fun _ _ _ h => h) (Or.inr ⟨by rfl, rfl⟩) (by assumption) ?_; (try simp only [List.getElem_toArray, List.getElem_cons_zero, List.getElem_cons_succ, Act.put, List.setIfInBounds_toArray, List.set_cons_zero, List.set_cons_succ])); (refine wpAnyH_take (i := 16) (v := undef) rfl (by kernel_rfl) (by kernel_rfl) (by kernel_rfl) (fun _ _ _ h => h) (Or.inr ⟨by rfl, rfl⟩) (by assumption) ?_; (try simp only [List.getElem_toArray, List.getElem_cons_zero, List.getElem_cons_succ, Act.put, List.setIfInBounds_toArray, List.set_cons_zero, List.set_cons_succ])); (refine wpAnyH_take (i := 17) (v := undef) rfl (by kernel_rfl) (by kernel_rfl) (by kernel_rfl) (fun _ _ _ h => h) (Or.inr ⟨by rfl, rfl⟩) (by assumption) ?_; (try simp only [List.getElem_toArray, List.getElem_cons_zero, List.getElem_cons_succ, Act.put, List.setIfInBounds_toArray, List.set_cons_zero, List.set_cons_succ])); (refine wpAnyH_take (i := 18) (v := undef) rfl (by kernel_rfl) (by kernel_rfl) (by kernel_rfl) (fun _ _ _ h => h) (Or.inr ⟨by rfl, rfl⟩) (by assumption) ?_; (try simp only [List.getElem_toArray, List.getElem_cons_zero, List.getElem_cons_succ, Act.put, List.setIfInBounds_toArray, List.set_cons_zero, List.set_cons_succ])); (refine wpAnyH_take (i := 19) (v := undef) rfl (by kernel_rfl) (by kernel_rfl) (by kernel_rfl) (fun _ _ _ h => h) (Or.inr ⟨by rfl, rfl⟩) (by assumption) ?_; (try simp only [List.getElem_toArray, List.getElem_cons_zero, List.getElem_cons_succ, Act.put, List.setIfInBounds_toArray, List.set_cons_zero, List.set_cons_succ])); (refine wpAnyH_take (i := 20) (v := undef) rfl (by kernel_rfl) (by kernel_rfl) (by kernel_rfl) (fun _ _ _ h => h) (Or.inr ⟨by rfl, rfl⟩) (by assumption) ?_; (try simp only [List.getElem_toArray, List.getElem_cons_zero, List.getElem_cons_succ, Act.put, List.setIfInBounds_toArray, List.set_cons_zero, List.set_cons_succ])); (refine wpAnyH_take (i := 21) (v := undef) rfl (by kernel_rfl) (by kernel_rfl) (by kernel_rfl) (fun _ _ _ h => h) (Or.inr ⟨by rfl, rfl⟩) (by assumption) ?_; (try simp only [List.getElem_toArray, List.getElem_cons_zero, List.getElem_cons_succ, Act.put, List.setIfInBounds_toArray, List.set_cons_zero, List.set_cons_succ]))
    (refine wpAnyH_take (i := 22) (v := ?_) rfl (by kernel_rfl) (by kernel_rfl) (by kernel_rfl) (fun _ _ _ h => h) (Or.inl ⟨by rfl, ?_⟩) (by assumption) ?_; rotate_left; (focus (intro w hSw; (try dsimp only at hSw); go_simp; (try with_reducible rfl))); (try simp only [List.getElem_toArray, List.getElem_cons_zero, List.getElem_cons_succ, Act.put, List.setIfInBounds_toArray, List.set_cons_zero, List.set_cons_succ])); (refine wpAnyH_take (i := 23) (v := ?_) rfl (by kernel_rfl) (by kernel_rfl) (by kernel_rfl) (fun _ _ _ h => h) (Or.inl ⟨by rfl, ?_⟩) (by assumption) ?_; rotate_left; (focus (intro w hSw; (try dsimp only at hSw); go_simp; (try with_reducible rfl))); (try simp only [List.getElem_toArray, List.getElem_cons_zero, List.getElem_cons_succ, Act.put, List.setIfInBounds_toArray, List.set_cons_zero, List.set_cons_succ]))
    (refine wpAnyH_take (i := 24) (v := undef) rfl (by kernel_rfl) (by kernel_rfl) (by kernel_rfl) (fun _ _ _ h => h) (Or.inr ⟨by rfl, rfl⟩) (by assumption) ?_; (try simp only [List.getElem_toArray, List.getElem_cons_zero, List.getElem_cons_succ, Act.put, List.setIfInBounds_toArray, List.set_cons_zero, List.set_cons_succ])); (refine wpAnyH_take (i := 25) (v := undef) rfl (by kernel_rfl) (by kernel_rfl) (by kernel_rfl) (fun _ _ _ h => h) (Or.inr ⟨by rfl, rfl⟩) (by assumption) ?_; (try simp only [List.getElem_toArray, List.getElem_cons_zero, List.getElem_cons_succ, Act.put, List.setIfInBounds_toArray, List.set_cons_zero, List.set_cons_succ])); (refine wpAnyH_take (i := 26) (v := undef) rfl (by kernel_rfl) (by kernel_rfl) (by kernel_rfl) (fun _ _ _ h => h) (Or.inr ⟨by rfl, rfl⟩) (by assumption) ?_; (try simp only [List.getElem_toArray, List.getElem_cons_zero, List.getElem_cons_succ, Act.put, List.setIfInBounds_toArray, List.set_cons_zero, List.set_cons_succ]))
    (refine wpAnyH_take (i := 27) (v := ?_) rfl (by kernel_rfl) (by kernel_rfl) (by kernel_rfl) (fun _ _ _ h => h) (Or.inl ⟨by rfl, ?_⟩) (by assumption) ?_; rotate_left; (focus (intro w hSw; (try dsimp only at hSw); go_simp; (try with_reducible rfl))); (try simp only [List.getElem_toArray, List.getElem_cons_zero, List.getElem_cons_succ, Act.put, List.setIfInBounds_toArray, List.set_cons_zero, List.set_cons_succ]))
    refine wpAnyH_done (by kernel_rfl) ?_ _; clear hHeld
    go_wp2_with (go_at_call 13; refine (works_any _).mono ?_; rintro e wz ⟨rfl, hbz⟩; have HBz : Hid (Below ws.heap.size ws wz) := bel HB2.out hbz; clear hbz)
    go_ret
    exact ⟨rfl, fin HB.out HBz.out⟩
  | true =>
  have HIM := Lib.hid him
  clear him
  obtain ⟨q, k, hpq, hjk, hq, hk⟩ := isMk_nat HG.out HIM.out
  subst hpq hjk
  have HL40 : Hid (∀ i, i < S.np → (S.pts i).length ≤ 40) := fun i hi => by have := HG.out.len i hi; have := HG.out.J5; omega
  obtain ⟨A, C, hcap, hnpe, hrows, hcells⟩ := HBK.out.plates.open
  obtain ⟨b, off, ha1, hbN, hrr⟩ := hcells (by omega)
  have e1 := (hrr q hq).2
  have hli := (hrows q hq).2
  obtain ⟨gr, or, hA, hgr, hrc⟩ := hli.cell (by omega)
  rw [hA] at e1
  obtain ⟨y, hy⟩ : ∃ y, (S.pts q).getD k 0 = y := ⟨_, rfl⟩
  have HY := Lib.hid hy
  have ck := hrc k hk
  rw [hy] at ck
  have HKL := Lib.hid hk
  have HQN := Lib.hid hq
  obtain ⟨n, hn⟩ : ∃ n, (S.pts q).length = n := ⟨_, rfl⟩
  have HLN := Lib.hid hn
  rw [hn] at e1 hk
  have hqi : (q : Int) < (S.np : Int) := by omega
  have hki : (k : Int) < (n : Int) := by omega
  have hbw : b < ws.heap.size := by have := HNS.out; omega
  have hgw : gr < ws.heap.size := by have := HNS.out; omega
  subst ha1
  have HSD : Hid (∀ W, Below ws.heap.size ws W → ((((W.cell? ⟨w.heap.size, 0, none⟩ = some (.int .i64 S.J) ∧ W.cell? ⟨w.heap.size, 1, none⟩ = some (.int .i64 S.D) ∧ W.cell? ⟨w.heap.size, 2, none⟩ = some (.int .i64 S.Z) ∧ W.cell? ⟨w.heap.size, 3, none⟩ = some (.slice (some ⟨b, off, none⟩) S.np c1)) ∧ (W.cell? ⟨w.heap.size + 1, 0, none⟩ = some (.int .i64 (q : Int)) ∧ W.cell? ⟨w.heap.size + 1, 1, none⟩ = some (.int .i64 (k : Int))))) ∧ (W.cell? ⟨b, off + q * 2 + 1, none⟩ = some (.slice (some ⟨gr, or, none⟩) n (C q)) ∧ W.cell? ⟨gr, or + k, none⟩ = some (.int .i64 y)))) := fun W hW => ⟨HSQ.out W hW, (hW.cell (p := ⟨b, off + q * 2 + 1, none⟩) hbw).trans e1, (hW.cell (p := ⟨gr, or + k, none⟩) hgw).trans ck⟩
  clear hrows hcells hrr e1 hli hA hrc hy ck hn hnpe
  by_cases f5 : y = -1
  case neg =>
    have d5 : decide (y = -1) = false := decide_eq_false f5
    have d5b : (y == -1) = false := by simp; exact f5
    have d5c : (y != -1) = true := by simp; exact f5
    go_enter Try.func4, Try.ntmps4
    go_upto_region 1 with fail
    clear hws
    have hS0 := HSD.out ws.drew (Below.refl _ _).drew
    refine wp_region_held_drew (S := fun W => (((((W.cell? ⟨w.heap.size, 0, none⟩ = some (.int .i64 S.J) ∧ W.cell? ⟨w.heap.size, 1, none⟩ = some (.int .i64 S.D) ∧ W.cell? ⟨w.heap.size, 2, none⟩ = some (.int .i64 S.Z) ∧ W.cell? ⟨w.heap.size, 3, none⟩ = some (.slice (some ⟨b, off, none⟩) S.np c1)) ∧ (W.cell? ⟨w.heap.size + 1, 0, none⟩ = some (.int .i64 (q : Int)) ∧ W.cell? ⟨w.heap.size + 1, 1, none⟩ = some (.int .i64 (k : Int))))) ∧ (W.cell? ⟨b, off + q * 2 + 1, none⟩ = some (.slice (some ⟨gr, or, none⟩) n (C q)) ∧ W.cell? ⟨gr, or + k, none⟩ = some (.int .i64 y))))) (by kernel_rfl) hS0 (fun hHeld => ?_)
    (refine wpAnyH_take (i := 0) (v := ?_) rfl (by kernel_rfl) (by kernel_rfl) (by kernel_rfl) (fun _ _ _ h => h) (Or.inl ⟨by rfl, ?_⟩) (by assumption) ?_; rotate_left; (focus (intro w hSw; (try dsimp only at hSw); go_simp; (try with_reducible rfl))); (try simp only [List.getElem_toArray, List.getElem_cons_zero, List.getElem_cons_succ, Act.put, List.setIfInBounds_toArray, List.set_cons_zero, List.set_cons_succ]))
    refine wpAnyH_ready (rs := [1]) (by kernel_rfl) (by simp) ?_; refine AllReadyH.cons rfl (fun K hK => ?_) AllReadyH.nil; go_simp
    go_at_call 12
    refine (ready_any N _ S _ (HBK.out.go (Below.refl _ _).drew)).mono ?_
    rw [HRE.out]
    rintro e w1 ⟨rfl, hb1⟩
    have HB1 : Hid (Below ws.heap.size ws w1) := (Below.refl _ _).drew.trans hb1
    have hS1 := HSD.out w1 HB1.out
    clear hb1 hS0
    refine hK.out _ _ hS1 (fun hHeld => ?_); clear hK K; (try simp only [List.getElem_toArray, List.getElem_cons_zero, List.getElem_cons_succ, Act.put, List.setIfInBounds_toArray, List.set_cons_zero, List.set_cons_succ])
    (refine wpAnyH_take (i := 2) (v := ?_) rfl (by kernel_rfl) (by kernel_rfl) (by kernel_rfl) (fun _ _ _ h => h) (Or.inl ⟨by rfl, ?_⟩) (by assumption) ?_; rotate_left; (focus (intro w hSw; (try dsimp only at hSw); go_simp; (try with_reducible rfl))); (try simp only [List.getElem_toArray, List.getElem_cons_zero, List.getElem_cons_succ, Act.put, List.setIfInBounds_toArray, List.set_cons_zero, List.set_cons_succ])); (refine wpAnyH_take (i := 3) (v := ?_) rfl (by kernel_rfl) (by kernel_rfl) (by kernel_rfl) (fun _ _ _ h => h) (Or.inl ⟨by rfl, ?_⟩) (by assumption) ?_; rotate_left; (focus (intro w hSw; (try dsimp only at hSw); go_simp; (try with_reducible rfl))); (try simp only [List.getElem_toArray, List.getElem_cons_zero, List.getElem_cons_succ, Act.put, List.setIfInBounds_toArray, List.set_cons_zero, List.set_cons_succ])); (refine wpAnyH_take (i := 4) (v := ?_) rfl (by kernel_rfl) (by kernel_rfl) (by kernel_rfl) (fun _ _ _ h => h) (Or.inl ⟨by rfl, ?_⟩) (by assumption) ?_; rotate_left; (focus (intro w hSw; (try dsimp only at hSw); go_simp; (try with_reducible rfl))); (try simp only [List.getElem_toArray, List.getElem_cons_zero, List.getElem_cons_succ, Act.put, List.setIfInBounds_toArray, List.set_cons_zero, List.set_cons_succ])); (refine wpAnyH_take (i := 5) (v := ?_) rfl (by kernel_rfl) (by kernel_rfl) (by kernel_rfl) (fun _ _ _ h => h) (Or.inl ⟨by rfl, ?_⟩) (by assumption) ?_; rotate_left; (focus (intro w hSw; (try dsimp only at hSw); go_simp; (try with_reducible rfl))); (try simp only [List.getElem_toArray, List.getElem_cons_zero, List.getElem_cons_succ, Act.put, List.setIfInBounds_toArray, List.set_cons_zero, List.set_cons_succ]))
    refine wpAnyH_ready (rs := [6]) (by kernel_rfl) (by simp) ?_; refine AllReadyH.cons rfl (fun K hK => ?_) AllReadyH.nil; go_simp
    go_at_call 24
    refine (isMark_any N _ S (q : Int) (k : Int) _ (HBK.out.go HB1.out) HJB.out).mono ?_
    rw [HIM.out]
    rintro e w2 ⟨rfl, hb2⟩
    have HB2 : Hid (Below ws.heap.size ws w2) := bel HB1.out hb2
    have hS2 := HSD.out w2 HB2.out
    clear hb2 hS1
    refine hK.out _ _ hS2 (fun hHeld => ?_); clear hK K; (try simp only [List.getElem_toArray, List.getElem_cons_zero, List.getElem_cons_succ, Act.put, List.setIfInBounds_toArray, List.set_cons_zero, List.set_cons_succ])
    (refine wpAnyH_take (i := 7) (v := ?_) rfl (by kernel_rfl) (by kernel_rfl) (by kernel_rfl) (fun _ _ _ h => h) (Or.inl ⟨by rfl, ?_⟩) (by assumption) ?_; rotate_left; (focus (intro w hSw; (try dsimp only at hSw); go_simp; (try with_reducible rfl))); (try simp only [List.getElem_toArray, List.getElem_cons_zero, List.getElem_cons_succ, Act.put, List.setIfInBounds_toArray, List.set_cons_zero, List.set_cons_succ])); (refine wpAnyH_take (i := 8) (v := ?_) rfl (by kernel_rfl) (by kernel_rfl) (by kernel_rfl) (fun _ _ _ h => h) (Or.inl ⟨by rfl, ?_⟩) (by assumption) ?_; rotate_left; (focus (intro w hSw; (try dsimp only at hSw); go_simp; (try with_reducible rfl))); (try simp only [List.getElem_toArray, List.getElem_cons_zero, List.getElem_cons_succ, Act.put, List.setIfInBounds_toArray, List.set_cons_zero, List.set_cons_succ])); (refine wpAnyH_take (i := 9) (v := ?_) rfl (by kernel_rfl) (by kernel_rfl) (by kernel_rfl) (fun _ _ _ h => h) (Or.inl ⟨by rfl, ?_⟩) (by assumption) ?_; rotate_left; (focus (intro w hSw; (try dsimp only at hSw); go_simp; (try with_reducible rfl))); (try simp only [List.getElem_toArray, List.getElem_cons_zero, List.getElem_cons_succ, Act.put, List.setIfInBounds_toArray, List.set_cons_zero, List.set_cons_succ])); (refine wpAnyH_take (i := 10) (v := ?_) rfl (by kernel_rfl) (by kernel_rfl) (by kernel_rfl) (fun _ _ _ h => h) (Or.inl ⟨by rfl, ?_⟩) (by assumption) ?_; rotate_left; (focus (intro w hSw; (try dsimp only at hSw); go_simp; (try with_reducible rfl))); (try simp only [List.getElem_toArray, List.getElem_cons_zero, List.getElem_cons_succ, Act.put, List.setIfInBounds_toArray, List.set_cons_zero, List.set_cons_succ])); (refine wpAnyH_take (i := 11) (v := ?_) rfl (by kernel_rfl) (by kernel_rfl) (by kernel_rfl) (fun _ _ _ h => h) (Or.inl ⟨by rfl, ?_⟩) (by assumption) ?_; rotate_left; (focus (intro w hSw; (try dsimp only at hSw); go_simp; (try with_reducible rfl))); (try simp only [List.getElem_toArray, List.getElem_cons_zero, List.getElem_cons_succ, Act.put, List.setIfInBounds_toArray, List.set_cons_zero, List.set_cons_succ])); (refine wpAnyH_take (i := 12) (v := ?_) rfl (by kernel_rfl) (by kernel_rfl) (by kernel_rfl) (fun _ _ _ h => h) (Or.inl ⟨by rfl, ?_⟩) (by assumption) ?_; rotate_left; (focus (intro w hSw; (try dsimp only at hSw); go_simp; (try with_reducible rfl))); (try simp only [List.getElem_toArray, List.getElem_cons_zero, List.getElem_cons_succ, Act.put, List.setIfInBounds_toArray, List.set_cons_zero, List.set_cons_succ])); (refine wpAnyH_take (i := 13) (v := ?_) rfl (by kernel_rfl) (by kernel_rfl) (by kernel_rfl) (fun _ _ _ h => h) (Or.inl ⟨by rfl, ?_⟩) (by assumption) ?_; rotate_left; (focus (intro w hSw; (try dsimp only at hSw); go_simp; (try with_reducible rfl))); (try simp only [List.getElem_toArray, List.getElem_cons_zero, List.getElem_cons_succ, Act.put, List.setIfInBounds_toArray, List.set_cons_zero, List.set_cons_succ])); (refine wpAnyH_take (i := 14) (v := ?_) rfl (by kernel_rfl) (by kernel_rfl) (by kernel_rfl) (fun _ _ _ h => h) (Or.inl ⟨by rfl, ?_⟩) (by assumption) ?_; rotate_left; (focus (intro w hSw; (try dsimp only at hSw); go_simp; (try with_reducible rfl))); (try simp only [List.getElem_toArray, List.getElem_cons_zero, List.getElem_cons_succ, Act.put, List.setIfInBounds_toArray, List.set_cons_zero, List.set_cons_succ])); (refine wpAnyH_take (i := 15) (v := ?_) rfl (by kernel_rfl) (by kernel_rfl) (by kernel_rfl) (fun _ _ _ h => h) (Or.inl ⟨by rfl, ?_⟩) (by assumption) ?_; rotate_left; (focus (intro w hSw; (try dsimp only at hSw); go_simp; (try with_reducible rfl))); (try simp only [List.getElem_toArray, List.getElem_cons_zero, List.getElem_cons_succ, Act.put, List.setIfInBounds_toArray, List.set_cons_zero, List.set_cons_succ])); (refine wpAnyH_take (i := 16) (v := ?_) rfl (by kernel_rfl) (by kernel_rfl) (by kernel_rfl) (fun _ _ _ h => h) (Or.inl ⟨by rfl, ?_⟩) (by assumption) ?_; rotate_left; (focus (intro w hSw; (try dsimp only at hSw); go_simp; (try with_reducible rfl))); (try simp only [List.getElem_toArray, List.getElem_cons_zero, List.getElem_cons_succ, Act.put, List.setIfInBounds_toArray, List.set_cons_zero, List.set_cons_succ])); (refine wpAnyH_take (i := 17) (v := ?_) rfl (by kernel_rfl) (by kernel_rfl) (by kernel_rfl) (fun _ _ _ h => h) (Or.inl ⟨by rfl, ?_⟩) (by assumption) ?_; rotate_left; (focus (intro w hSw; (try dsimp only at hSw); go_simp; (try with_reducible rfl))); (try simp only [List.getElem_toArray, List.getElem_cons_zero, List.getElem_cons_succ, Act.put, List.setIfInBounds_toArray, List.set_cons_zero, List.set_cons_succ])); (refine wpAnyH_take (i := 18) (v := ?_) rfl (by kernel_rfl) (by kernel_rfl) (by kernel_rfl) (fun _ _ _ h => h) (Or.inl ⟨by rfl, ?_⟩) (by assumption) ?_; rotate_left; (focus (intro w hSw; (try dsimp only at hSw); go_simp; (try with_reducible rfl))); (try simp only [List.getElem_toArray, List.getElem_cons_zero, List.getElem_cons_succ, Act.put, List.setIfInBounds_toArray, List.set_cons_zero, List.set_cons_succ])); (refine wpAnyH_take (i := 19) (v := ?_) rfl (by kernel_rfl) (by kernel_rfl) (by kernel_rfl) (fun _ _ _ h => h) (Or.inl ⟨by rfl, ?_⟩) (by assumption) ?_; rotate_left; (focus (intro w hSw; (try dsimp only at hSw); go_simp; (try with_reducible rfl))); (try simp only [List.getElem_toArray, List.getElem_cons_zero, List.getElem_cons_succ, Act.put, List.setIfInBounds_toArray, List.set_cons_zero, List.set_cons_succ])); (refine wpAnyH_take (i := 20) (v := ?_) rfl (by kernel_rfl) (by kernel_rfl) (by kernel_rfl) (fun _ _ _ h => h) (Or.inl ⟨by rfl, ?_⟩) (by assumption) ?_; rotate_left; (focus (intro w hSw; (try dsimp only at hSw); go_simp; (try with_reducible rfl))); (try simp only [List.getElem_toArray, List.getElem_cons_zero, List.getElem_cons_succ, Act.put, List.setIfInBounds_toArray, List.set_cons_zero, List.set_cons_succ])); (refine wpAnyH_take (i := 21) (v := ?_) rfl (by kernel_rfl) (by kernel_rfl) (by kernel_rfl) (fun _ _ _ h => h) (Or.inl ⟨by rfl, ?_⟩) (by assumption) ?_; rotate_left; (focus (intro w hSw; (try dsimp only at hSw); go_simp; (try with_reducible rfl))); (try simp only [List.getElem_toArray, List.getElem_cons_zero, List.getElem_cons_succ, Act.put, List.setIfInBounds_toArray, List.set_cons_zero, List.set_cons_succ])); (refine wpAnyH_take (i := 22) (v := ?_) rfl (by kernel_rfl) (by kernel_rfl) (by kernel_rfl) (fun _ _ _ h => h) (Or.inl ⟨by rfl, ?_⟩) (by assumption) ?_; rotate_left; (focus (intro w hSw; (try dsimp only at hSw); go_simp; (try with_reducible rfl))); (try simp only [List.getElem_toArray, List.getElem_cons_zero, List.getElem_cons_succ, Act.put, List.setIfInBounds_toArray, List.set_cons_zero, List.set_cons_succ])); (refine wpAnyH_take (i := 23) (v := ?_) rfl (by kernel_rfl) (by kernel_rfl) (by kernel_rfl) (fun _ _ _ h => h) (Or.inl ⟨by rfl, ?_⟩) (by assumption) ?_; rotate_left; (focus (intro w hSw; (try dsimp only at hSw); go_simp; (try with_reducible rfl))); (try simp only [List.getElem_toArray, List.getElem_cons_zero, List.getElem_cons_succ, Act.put, List.setIfInBounds_toArray, List.set_cons_zero, List.set_cons_succ]))
    (refine wpAnyH_take (i := 24) (v := undef) rfl (by kernel_rfl) (by kernel_rfl) (by kernel_rfl) (fun _ _ _ h => h) (Or.inr ⟨by rfl, rfl⟩) (by assumption) ?_; (try simp only [List.getElem_toArray, List.getElem_cons_zero, List.getElem_cons_succ, Act.put, List.setIfInBounds_toArray, List.set_cons_zero, List.set_cons_succ])); (refine wpAnyH_take (i := 25) (v := undef) rfl (by kernel_rfl) (by kernel_rfl) (by kernel_rfl) (fun _ _ _ h => h) (Or.inr ⟨by rfl, rfl⟩) (by assumption) ?_; (try simp only [List.getElem_toArray, List.getElem_cons_zero, List.getElem_cons_succ, Act.put, List.setIfInBounds_toArray, List.set_cons_zero, List.set_cons_succ])); (refine wpAnyH_take (i := 26) (v := undef) rfl (by kernel_rfl) (by kernel_rfl) (by kernel_rfl) (fun _ _ _ h => h) (Or.inr ⟨by rfl, rfl⟩) (by assumption) ?_; (try simp only [List.getElem_toArray, List.getElem_cons_zero, List.getElem_cons_succ, Act.put, List.setIfInBounds_toArray, List.set_cons_zero, List.set_cons_succ]))
    (refine wpAnyH_take (i := 27) (v := ?_) rfl (by kernel_rfl) (by kernel_rfl) (by kernel_rfl) (fun _ _ _ h => h) (Or.inl ⟨by rfl, ?_⟩) (by assumption) ?_; rotate_left; (focus (intro w hSw; (try dsimp only at hSw); go_simp; (try with_reducible rfl))); (try simp only [List.getElem_toArray, List.getElem_cons_zero, List.getElem_cons_succ, Act.put, List.setIfInBounds_toArray, List.set_cons_zero, List.set_cons_succ]))
    refine wpAnyH_done (by kernel_rfl) ?_ _; clear hHeld
    go_wp2_with (go_at_call 13; refine (works_any _).mono ?_; rintro e wz ⟨rfl, hbz⟩; have HBz : Hid (Below ws.heap.size ws wz) := bel HB2.out hbz; clear hbz)
    go_ret
    exact ⟨rfl, fin HB.out HBz.out⟩
  case pos =>
  subst f5
  cases hpt : (decide (0 ≤ pt) && decide (pt ≤ 20)) with
  | false =>
    have HPB := Lib.hid hpt
    clear hpt
    go_enter Try.func4, Try.ntmps4
    go_upto_region 1 with fail
    clear hws
    have hS0 := HSD.out ws.drew (Below.refl _ _).drew
    refine wp_region_held_drew (S := fun W => (((((W.cell? ⟨w.heap.size, 0, none⟩ = some (.int .i64 S.J) ∧ W.cell? ⟨w.heap.size, 1, none⟩ = some (.int .i64 S.D) ∧ W.cell? ⟨w.heap.size, 2, none⟩ = some (.int .i64 S.Z) ∧ W.cell? ⟨w.heap.size, 3, none⟩ = some (.slice (some ⟨b, off, none⟩) S.np c1)) ∧ (W.cell? ⟨w.heap.size + 1, 0, none⟩ = some (.int .i64 (q : Int)) ∧ W.cell? ⟨w.heap.size + 1, 1, none⟩ = some (.int .i64 (k : Int))))) ∧ (W.cell? ⟨b, off + q * 2 + 1, none⟩ = some (.slice (some ⟨gr, or, none⟩) n (C q)) ∧ W.cell? ⟨gr, or + k, none⟩ = some (.int .i64 (-1)))))) (by kernel_rfl) hS0 (fun hHeld => ?_)
    (refine wpAnyH_take (i := 0) (v := ?_) rfl (by kernel_rfl) (by kernel_rfl) (by kernel_rfl) (fun _ _ _ h => h) (Or.inl ⟨by rfl, ?_⟩) (by assumption) ?_; rotate_left; (focus (intro w hSw; (try dsimp only at hSw); go_simp; (try with_reducible rfl))); (try simp only [List.getElem_toArray, List.getElem_cons_zero, List.getElem_cons_succ, Act.put, List.setIfInBounds_toArray, List.set_cons_zero, List.set_cons_succ]))
    refine wpAnyH_ready (rs := [1]) (by kernel_rfl) (by simp) ?_; refine AllReadyH.cons rfl (fun K hK => ?_) AllReadyH.nil; go_simp
    go_at_call 12
    refine (ready_any N _ S _ (HBK.out.go (Below.refl _ _).drew)).mono ?_
    rw [HRE.out]
    rintro e w1 ⟨rfl, hb1⟩
    have HB1 : Hid (Below ws.heap.size ws w1) := (Below.refl _ _).drew.trans hb1
    have hS1 := HSD.out w1 HB1.out
    clear hb1 hS0
    refine hK.out _ _ hS1 (fun hHeld => ?_); clear hK K; (try simp only [List.getElem_toArray, List.getElem_cons_zero, List.getElem_cons_succ, Act.put, List.setIfInBounds_toArray, List.set_cons_zero, List.set_cons_succ])
    (refine wpAnyH_take (i := 2) (v := ?_) rfl (by kernel_rfl) (by kernel_rfl) (by kernel_rfl) (fun _ _ _ h => h) (Or.inl ⟨by rfl, ?_⟩) (by assumption) ?_; rotate_left; (focus (intro w hSw; (try dsimp only at hSw); go_simp; (try with_reducible rfl))); (try simp only [List.getElem_toArray, List.getElem_cons_zero, List.getElem_cons_succ, Act.put, List.setIfInBounds_toArray, List.set_cons_zero, List.set_cons_succ])); (refine wpAnyH_take (i := 3) (v := ?_) rfl (by kernel_rfl) (by kernel_rfl) (by kernel_rfl) (fun _ _ _ h => h) (Or.inl ⟨by rfl, ?_⟩) (by assumption) ?_; rotate_left; (focus (intro w hSw; (try dsimp only at hSw); go_simp; (try with_reducible rfl))); (try simp only [List.getElem_toArray, List.getElem_cons_zero, List.getElem_cons_succ, Act.put, List.setIfInBounds_toArray, List.set_cons_zero, List.set_cons_succ])); (refine wpAnyH_take (i := 4) (v := ?_) rfl (by kernel_rfl) (by kernel_rfl) (by kernel_rfl) (fun _ _ _ h => h) (Or.inl ⟨by rfl, ?_⟩) (by assumption) ?_; rotate_left; (focus (intro w hSw; (try dsimp only at hSw); go_simp; (try with_reducible rfl))); (try simp only [List.getElem_toArray, List.getElem_cons_zero, List.getElem_cons_succ, Act.put, List.setIfInBounds_toArray, List.set_cons_zero, List.set_cons_succ])); (refine wpAnyH_take (i := 5) (v := ?_) rfl (by kernel_rfl) (by kernel_rfl) (by kernel_rfl) (fun _ _ _ h => h) (Or.inl ⟨by rfl, ?_⟩) (by assumption) ?_; rotate_left; (focus (intro w hSw; (try dsimp only at hSw); go_simp; (try with_reducible rfl))); (try simp only [List.getElem_toArray, List.getElem_cons_zero, List.getElem_cons_succ, Act.put, List.setIfInBounds_toArray, List.set_cons_zero, List.set_cons_succ]))
    refine wpAnyH_ready (rs := [6]) (by kernel_rfl) (by simp) ?_; refine AllReadyH.cons rfl (fun K hK => ?_) AllReadyH.nil; go_simp
    go_at_call 24
    refine (isMark_any N _ S (q : Int) (k : Int) _ (HBK.out.go HB1.out) HJB.out).mono ?_
    rw [HIM.out]
    rintro e w2 ⟨rfl, hb2⟩
    have HB2 : Hid (Below ws.heap.size ws w2) := bel HB1.out hb2
    have hS2 := HSD.out w2 HB2.out
    clear hb2 hS1
    refine hK.out _ _ hS2 (fun hHeld => ?_); clear hK K; (try simp only [List.getElem_toArray, List.getElem_cons_zero, List.getElem_cons_succ, Act.put, List.setIfInBounds_toArray, List.set_cons_zero, List.set_cons_succ])
    (refine wpAnyH_take (i := 7) (v := ?_) rfl (by kernel_rfl) (by kernel_rfl) (by kernel_rfl) (fun _ _ _ h => h) (Or.inl ⟨by rfl, ?_⟩) (by assumption) ?_; rotate_left; (focus (intro w hSw; (try dsimp only at hSw); go_simp; (try with_reducible rfl))); (try simp only [List.getElem_toArray, List.getElem_cons_zero, List.getElem_cons_succ, Act.put, List.setIfInBounds_toArray, List.set_cons_zero, List.set_cons_succ])); (refine wpAnyH_take (i := 8) (v := ?_) rfl (by kernel_rfl) (by kernel_rfl) (by kernel_rfl) (fun _ _ _ h => h) (Or.inl ⟨by rfl, ?_⟩) (by assumption) ?_; rotate_left; (focus (intro w hSw; (try dsimp only at hSw); go_simp; (try with_reducible rfl))); (try simp only [List.getElem_toArray, List.getElem_cons_zero, List.getElem_cons_succ, Act.put, List.setIfInBounds_toArray, List.set_cons_zero, List.set_cons_succ])); (refine wpAnyH_take (i := 9) (v := ?_) rfl (by kernel_rfl) (by kernel_rfl) (by kernel_rfl) (fun _ _ _ h => h) (Or.inl ⟨by rfl, ?_⟩) (by assumption) ?_; rotate_left; (focus (intro w hSw; (try dsimp only at hSw); go_simp; (try with_reducible rfl))); (try simp only [List.getElem_toArray, List.getElem_cons_zero, List.getElem_cons_succ, Act.put, List.setIfInBounds_toArray, List.set_cons_zero, List.set_cons_succ])); (refine wpAnyH_take (i := 10) (v := ?_) rfl (by kernel_rfl) (by kernel_rfl) (by kernel_rfl) (fun _ _ _ h => h) (Or.inl ⟨by rfl, ?_⟩) (by assumption) ?_; rotate_left; (focus (intro w hSw; (try dsimp only at hSw); go_simp; (try with_reducible rfl))); (try simp only [List.getElem_toArray, List.getElem_cons_zero, List.getElem_cons_succ, Act.put, List.setIfInBounds_toArray, List.set_cons_zero, List.set_cons_succ])); (refine wpAnyH_take (i := 11) (v := ?_) rfl (by kernel_rfl) (by kernel_rfl) (by kernel_rfl) (fun _ _ _ h => h) (Or.inl ⟨by rfl, ?_⟩) (by assumption) ?_; rotate_left; (focus (intro w hSw; (try dsimp only at hSw); go_simp; (try with_reducible rfl))); (try simp only [List.getElem_toArray, List.getElem_cons_zero, List.getElem_cons_succ, Act.put, List.setIfInBounds_toArray, List.set_cons_zero, List.set_cons_succ])); (refine wpAnyH_take (i := 12) (v := ?_) rfl (by kernel_rfl) (by kernel_rfl) (by kernel_rfl) (fun _ _ _ h => h) (Or.inl ⟨by rfl, ?_⟩) (by assumption) ?_; rotate_left; (focus (intro w hSw; (try dsimp only at hSw); go_simp; (try with_reducible rfl))); (try simp only [List.getElem_toArray, List.getElem_cons_zero, List.getElem_cons_succ, Act.put, List.setIfInBounds_toArray, List.set_cons_zero, List.set_cons_succ])); (refine wpAnyH_take (i := 13) (v := ?_) rfl (by kernel_rfl) (by kernel_rfl) (by kernel_rfl) (fun _ _ _ h => h) (Or.inl ⟨by rfl, ?_⟩) (by assumption) ?_; rotate_left; (focus (intro w hSw; (try dsimp only at hSw); go_simp; (try with_reducible rfl))); (try simp only [List.getElem_toArray, List.getElem_cons_zero, List.getElem_cons_succ, Act.put, List.setIfInBounds_toArray, List.set_cons_zero, List.set_cons_succ])); (refine wpAnyH_take (i := 14) (v := ?_) rfl (by kernel_rfl) (by kernel_rfl) (by kernel_rfl) (fun _ _ _ h => h) (Or.inl ⟨by rfl, ?_⟩) (by assumption) ?_; rotate_left; (focus (intro w hSw; (try dsimp only at hSw); go_simp; (try with_reducible rfl))); (try simp only [List.getElem_toArray, List.getElem_cons_zero, List.getElem_cons_succ, Act.put, List.setIfInBounds_toArray, List.set_cons_zero, List.set_cons_succ])); (refine wpAnyH_take (i := 15) (v := ?_) rfl (by kernel_rfl) (by kernel_rfl) (by kernel_rfl) (fun _ _ _ h => h) (Or.inl ⟨by rfl, ?_⟩) (by assumption) ?_; rotate_left; (focus (intro w hSw; (try dsimp only at hSw); go_simp; (try with_reducible rfl))); (try simp only [List.getElem_toArray, List.getElem_cons_zero, List.getElem_cons_succ, Act.put, List.setIfInBounds_toArray, List.set_cons_zero, List.set_cons_succ])); (refine wpAnyH_take (i := 16) (v := ?_) rfl (by kernel_rfl) (by kernel_rfl) (by kernel_rfl) (fun _ _ _ h => h) (Or.inl ⟨by rfl, ?_⟩) (by assumption) ?_; rotate_left; (focus (intro w hSw; (try dsimp only at hSw); go_simp; (try with_reducible rfl))); (try simp only [List.getElem_toArray, List.getElem_cons_zero, List.getElem_cons_succ, Act.put, List.setIfInBounds_toArray, List.set_cons_zero, List.set_cons_succ])); (refine wpAnyH_take (i := 17) (v := ?_) rfl (by kernel_rfl) (by kernel_rfl) (by kernel_rfl) (fun _ _ _ h => h) (Or.inl ⟨by rfl, ?_⟩) (by assumption) ?_; rotate_left; (focus (intro w hSw; (try dsimp only at hSw); go_simp; (try with_reducible rfl))); (try simp only [List.getElem_toArray, List.getElem_cons_zero, List.getElem_cons_succ, Act.put, List.setIfInBounds_toArray, List.set_cons_zero, List.set_cons_succ])); (refine wpAnyH_take (i := 18) (v := ?_) rfl (by kernel_rfl) (by kernel_rfl) (by kernel_rfl) (fun _ _ _ h => h) (Or.inl ⟨by rfl, ?_⟩) (by assumption) ?_; rotate_left; (focus (intro w hSw; (try dsimp only at hSw); go_simp; (try with_reducible rfl))); (try simp only [List.getElem_toArray, List.getElem_cons_zero, List.getElem_cons_succ, Act.put, List.setIfInBounds_toArray, List.set_cons_zero, List.set_cons_succ])); (refine wpAnyH_take (i := 19) (v := ?_) rfl (by kernel_rfl) (by kernel_rfl) (by kernel_rfl) (fun _ _ _ h => h) (Or.inl ⟨by rfl, ?_⟩) (by assumption) ?_; rotate_left; (focus (intro w hSw; (try dsimp only at hSw); go_simp; (try with_reducible rfl))); (try simp only [List.getElem_toArray, List.getElem_cons_zero, List.getElem_cons_succ, Act.put, List.setIfInBounds_toArray, List.set_cons_zero, List.set_cons_succ])); (refine wpAnyH_take (i := 20) (v := ?_) rfl (by kernel_rfl) (by kernel_rfl) (by kernel_rfl) (fun _ _ _ h => h) (Or.inl ⟨by rfl, ?_⟩) (by assumption) ?_; rotate_left; (focus (intro w hSw; (try dsimp only at hSw); go_simp; (try with_reducible rfl))); (try simp only [List.getElem_toArray, List.getElem_cons_zero, List.getElem_cons_succ, Act.put, List.setIfInBounds_toArray, List.set_cons_zero, List.set_cons_succ])); (refine wpAnyH_take (i := 21) (v := ?_) rfl (by kernel_rfl) (by kernel_rfl) (by kernel_rfl) (fun _ _ _ h => h) (Or.inl ⟨by rfl, ?_⟩) (by assumption) ?_; rotate_left; (focus (intro w hSw; (try dsimp only at hSw); go_simp; (try with_reducible rfl))); (try simp only [List.getElem_toArray, List.getElem_cons_zero, List.getElem_cons_succ, Act.put, List.setIfInBounds_toArray, List.set_cons_zero, List.set_cons_succ])); (refine wpAnyH_take (i := 22) (v := ?_) rfl (by kernel_rfl) (by kernel_rfl) (by kernel_rfl) (fun _ _ _ h => h) (Or.inl ⟨by rfl, ?_⟩) (by assumption) ?_; rotate_left; (focus (intro w hSw; (try dsimp only at hSw); go_simp; (try with_reducible rfl))); (try simp only [List.getElem_toArray, List.getElem_cons_zero, List.getElem_cons_succ, Act.put, List.setIfInBounds_toArray, List.set_cons_zero, List.set_cons_succ])); (refine wpAnyH_take (i := 23) (v := ?_) rfl (by kernel_rfl) (by kernel_rfl) (by kernel_rfl) (fun _ _ _ h => h) (Or.inl ⟨by rfl, ?_⟩) (by assumption) ?_; rotate_left; (focus (intro w hSw; (try dsimp only at hSw); go_simp; (try with_reducible rfl))); (try simp only [List.getElem_toArray, List.getElem_cons_zero, List.getElem_cons_succ, Act.put, List.setIfInBounds_toArray, List.set_cons_zero, List.set_cons_succ])); (refine wpAnyH_take (i := 24) (v := ?_) rfl (by kernel_rfl) (by kernel_rfl) (by kernel_rfl) (fun _ _ _ h => h) (Or.inl ⟨by rfl, ?_⟩) (by assumption) ?_; rotate_left; (focus (intro w hSw; (try dsimp only at hSw); go_simp; (try with_reducible rfl))); (try simp only [List.getElem_toArray, List.getElem_cons_zero, List.getElem_cons_succ, Act.put, List.setIfInBounds_toArray, List.set_cons_zero, List.set_cons_succ]))
    refine wpAnyH_ready (rs := [25]) (by kernel_rfl) (by simp) ?_; refine AllReadyH.cons rfl (fun K hK => ?_) AllReadyH.nil; go_simp
    go_at_call 25
    refine (isPoints_eq _ _ _ HPB.out).mono ?_
    rintro e w3 ⟨rfl, hw3⟩
    rw [hw3]
    clear hw3
    refine hK.out _ _ hS2 (fun hHeld => ?_); clear hK K; (try simp only [List.getElem_toArray, List.getElem_cons_zero, List.getElem_cons_succ, Act.put, List.setIfInBounds_toArray, List.set_cons_zero, List.set_cons_succ])
    (refine wpAnyH_take (i := 26) (v := ?_) rfl (by kernel_rfl) (by kernel_rfl) (by kernel_rfl) (fun _ _ _ h => h) (Or.inl ⟨by rfl, ?_⟩) (by assumption) ?_; rotate_left; (focus (intro w hSw; (try dsimp only at hSw); go_simp; (try with_reducible rfl))); (try simp only [List.getElem_toArray, List.getElem_cons_zero, List.getElem_cons_succ, Act.put, List.setIfInBounds_toArray, List.set_cons_zero, List.set_cons_succ])); (refine wpAnyH_take (i := 27) (v := ?_) rfl (by kernel_rfl) (by kernel_rfl) (by kernel_rfl) (fun _ _ _ h => h) (Or.inl ⟨by rfl, ?_⟩) (by assumption) ?_; rotate_left; (focus (intro w hSw; (try dsimp only at hSw); go_simp; (try with_reducible rfl))); (try simp only [List.getElem_toArray, List.getElem_cons_zero, List.getElem_cons_succ, Act.put, List.setIfInBounds_toArray, List.set_cons_zero, List.set_cons_succ]))
    refine wpAnyH_done (by kernel_rfl) ?_ _; clear hHeld
    go_wp2_with (go_at_call 13; refine (works_any _).mono ?_; rintro e wz ⟨rfl, hbz⟩; have HBz : Hid (Below ws.heap.size ws wz) := bel HB2.out hbz; clear hbz)
    go_ret
    exact ⟨rfl, fin HB.out HBz.out⟩
  | true =>
    have HPB := Lib.hid hpt
    have hpt2 : 0 ≤ pt ∧ pt ≤ 20 := by
      rw [Bool.and_eq_true, decide_eq_true_eq, decide_eq_true_eq] at hpt
      exact hpt
    clear hpt
    have HXK : Hid ((S.pts q)[k]'(HKL.out) = -1) := by
      have := HY.out
      rw [List.getD_eq_getElem?_getD, List.getElem?_eq_getElem HKL.out] at this
      exact this
    have HNR : Hid (Nar S (withP S q k pt)) := nar_with HQN.out HKL.out HXK.out hpt2
    have HGM : Hid (GoodS (withP S q k pt)) := withP_good HG.out q k (by omega)
    have HOKM : Hid (okS (withP S q k pt) = true) := good_okS HGM.out
    have HLM : Hid (∀ i, i < (withP S q k pt).np → ((withP S q k pt).pts i).length ≤ 1000) := fun i hi => by have := HGM.out.len i hi; have := HGM.out.J5; omega
    have HEA : Hid (errA (okS S) (isMk S (q : Int) (k : Int)) = 0) := by unfold Hid; rw [HOK.out, HIM.out]; rfl
    have HOPN : Hid (opn S q k = true) := by unfold Hid opn; rw [HY.out]; rfl
    obtain ⟨af, haf⟩ : ∃ a, aft S q k 21 = a := ⟨_, rfl⟩
    have HAF : Hid (opens (withP S q k pt) ≤ af) := by
      obtain ⟨x, rfl⟩ : ∃ x : Nat, pt = x := ⟨pt.toNat, by omega⟩
      rw [← haf]; exact aft_le (by omega)
    have hafn : af ≤ S.np := by rw [← haf]; exact aft_np S q k 21
    have HAE := Lib.hid haf
    clear haf
    go_enter Try.func4, Try.ntmps4
    go_upto_region 1 with fail
    clear hws
    have hS0 := HSD.out ws.drew (Below.refl _ _).drew
    refine wp_region_held_drew (S := fun W => (((((W.cell? ⟨w.heap.size, 0, none⟩ = some (.int .i64 S.J) ∧ W.cell? ⟨w.heap.size, 1, none⟩ = some (.int .i64 S.D) ∧ W.cell? ⟨w.heap.size, 2, none⟩ = some (.int .i64 S.Z) ∧ W.cell? ⟨w.heap.size, 3, none⟩ = some (.slice (some ⟨b, off, none⟩) S.np c1)) ∧ (W.cell? ⟨w.heap.size + 1, 0, none⟩ = some (.int .i64 (q : Int)) ∧ W.cell? ⟨w.heap.size + 1, 1, none⟩ = some (.int .i64 (k : Int))))) ∧ (W.cell? ⟨b, off + q * 2 + 1, none⟩ = some (.slice (some ⟨gr, or, none⟩) n (C q)) ∧ W.cell? ⟨gr, or + k, none⟩ = some (.int .i64 (-1)))))) (by kernel_rfl) hS0 (fun hHeld => ?_)
    (refine wpAnyH_take (i := 0) (v := ?_) rfl (by kernel_rfl) (by kernel_rfl) (by kernel_rfl) (fun _ _ _ h => h) (Or.inl ⟨by rfl, ?_⟩) (by assumption) ?_; rotate_left; (focus (intro w hSw; (try dsimp only at hSw); go_simp; (try with_reducible rfl))); (try simp only [List.getElem_toArray, List.getElem_cons_zero, List.getElem_cons_succ, Act.put, List.setIfInBounds_toArray, List.set_cons_zero, List.set_cons_succ]))
    refine wpAnyH_ready (rs := [1]) (by kernel_rfl) (by simp) ?_; refine AllReadyH.cons rfl (fun K hK => ?_) AllReadyH.nil; go_simp
    go_at_call 12
    refine (ready_any N _ S _ (HBK.out.go (Below.refl _ _).drew)).mono ?_
    rw [HRE.out]
    rintro e w1 ⟨rfl, hb1⟩
    have HB1 : Hid (Below ws.heap.size ws w1) := (Below.refl _ _).drew.trans hb1
    have hS1 := HSD.out w1 HB1.out
    clear hb1 hS0
    refine hK.out _ _ hS1 (fun hHeld => ?_); clear hK K; (try simp only [List.getElem_toArray, List.getElem_cons_zero, List.getElem_cons_succ, Act.put, List.setIfInBounds_toArray, List.set_cons_zero, List.set_cons_succ])
    (refine wpAnyH_take (i := 2) (v := ?_) rfl (by kernel_rfl) (by kernel_rfl) (by kernel_rfl) (fun _ _ _ h => h) (Or.inl ⟨by rfl, ?_⟩) (by assumption) ?_; rotate_left; (focus (intro w hSw; (try dsimp only at hSw); go_simp; (try with_reducible rfl))); (try simp only [List.getElem_toArray, List.getElem_cons_zero, List.getElem_cons_succ, Act.put, List.setIfInBounds_toArray, List.set_cons_zero, List.set_cons_succ])); (refine wpAnyH_take (i := 3) (v := ?_) rfl (by kernel_rfl) (by kernel_rfl) (by kernel_rfl) (fun _ _ _ h => h) (Or.inl ⟨by rfl, ?_⟩) (by assumption) ?_; rotate_left; (focus (intro w hSw; (try dsimp only at hSw); go_simp; (try with_reducible rfl))); (try simp only [List.getElem_toArray, List.getElem_cons_zero, List.getElem_cons_succ, Act.put, List.setIfInBounds_toArray, List.set_cons_zero, List.set_cons_succ])); (refine wpAnyH_take (i := 4) (v := ?_) rfl (by kernel_rfl) (by kernel_rfl) (by kernel_rfl) (fun _ _ _ h => h) (Or.inl ⟨by rfl, ?_⟩) (by assumption) ?_; rotate_left; (focus (intro w hSw; (try dsimp only at hSw); go_simp; (try with_reducible rfl))); (try simp only [List.getElem_toArray, List.getElem_cons_zero, List.getElem_cons_succ, Act.put, List.setIfInBounds_toArray, List.set_cons_zero, List.set_cons_succ])); (refine wpAnyH_take (i := 5) (v := ?_) rfl (by kernel_rfl) (by kernel_rfl) (by kernel_rfl) (fun _ _ _ h => h) (Or.inl ⟨by rfl, ?_⟩) (by assumption) ?_; rotate_left; (focus (intro w hSw; (try dsimp only at hSw); go_simp; (try with_reducible rfl))); (try simp only [List.getElem_toArray, List.getElem_cons_zero, List.getElem_cons_succ, Act.put, List.setIfInBounds_toArray, List.set_cons_zero, List.set_cons_succ]))
    refine wpAnyH_ready (rs := [6]) (by kernel_rfl) (by simp) ?_; refine AllReadyH.cons rfl (fun K hK => ?_) AllReadyH.nil; go_simp
    go_at_call 24
    refine (isMark_any N _ S (q : Int) (k : Int) _ (HBK.out.go HB1.out) HJB.out).mono ?_
    rw [HIM.out]
    rintro e w2 ⟨rfl, hb2⟩
    have HB2 : Hid (Below ws.heap.size ws w2) := bel HB1.out hb2
    have hS2 := HSD.out w2 HB2.out
    clear hb2 hS1
    refine hK.out _ _ hS2 (fun hHeld => ?_); clear hK K; (try simp only [List.getElem_toArray, List.getElem_cons_zero, List.getElem_cons_succ, Act.put, List.setIfInBounds_toArray, List.set_cons_zero, List.set_cons_succ])
    (refine wpAnyH_take (i := 7) (v := ?_) rfl (by kernel_rfl) (by kernel_rfl) (by kernel_rfl) (fun _ _ _ h => h) (Or.inl ⟨by rfl, ?_⟩) (by assumption) ?_; rotate_left; (focus (intro w hSw; (try dsimp only at hSw); go_simp; (try with_reducible rfl))); (try simp only [List.getElem_toArray, List.getElem_cons_zero, List.getElem_cons_succ, Act.put, List.setIfInBounds_toArray, List.set_cons_zero, List.set_cons_succ])); (refine wpAnyH_take (i := 8) (v := ?_) rfl (by kernel_rfl) (by kernel_rfl) (by kernel_rfl) (fun _ _ _ h => h) (Or.inl ⟨by rfl, ?_⟩) (by assumption) ?_; rotate_left; (focus (intro w hSw; (try dsimp only at hSw); go_simp; (try with_reducible rfl))); (try simp only [List.getElem_toArray, List.getElem_cons_zero, List.getElem_cons_succ, Act.put, List.setIfInBounds_toArray, List.set_cons_zero, List.set_cons_succ])); (refine wpAnyH_take (i := 9) (v := ?_) rfl (by kernel_rfl) (by kernel_rfl) (by kernel_rfl) (fun _ _ _ h => h) (Or.inl ⟨by rfl, ?_⟩) (by assumption) ?_; rotate_left; (focus (intro w hSw; (try dsimp only at hSw); go_simp; (try with_reducible rfl))); (try simp only [List.getElem_toArray, List.getElem_cons_zero, List.getElem_cons_succ, Act.put, List.setIfInBounds_toArray, List.set_cons_zero, List.set_cons_succ])); (refine wpAnyH_take (i := 10) (v := ?_) rfl (by kernel_rfl) (by kernel_rfl) (by kernel_rfl) (fun _ _ _ h => h) (Or.inl ⟨by rfl, ?_⟩) (by assumption) ?_; rotate_left; (focus (intro w hSw; (try dsimp only at hSw); go_simp; (try with_reducible rfl))); (try simp only [List.getElem_toArray, List.getElem_cons_zero, List.getElem_cons_succ, Act.put, List.setIfInBounds_toArray, List.set_cons_zero, List.set_cons_succ])); (refine wpAnyH_take (i := 11) (v := ?_) rfl (by kernel_rfl) (by kernel_rfl) (by kernel_rfl) (fun _ _ _ h => h) (Or.inl ⟨by rfl, ?_⟩) (by assumption) ?_; rotate_left; (focus (intro w hSw; (try dsimp only at hSw); go_simp; (try with_reducible rfl))); (try simp only [List.getElem_toArray, List.getElem_cons_zero, List.getElem_cons_succ, Act.put, List.setIfInBounds_toArray, List.set_cons_zero, List.set_cons_succ])); (refine wpAnyH_take (i := 12) (v := ?_) rfl (by kernel_rfl) (by kernel_rfl) (by kernel_rfl) (fun _ _ _ h => h) (Or.inl ⟨by rfl, ?_⟩) (by assumption) ?_; rotate_left; (focus (intro w hSw; (try dsimp only at hSw); go_simp; (try with_reducible rfl))); (try simp only [List.getElem_toArray, List.getElem_cons_zero, List.getElem_cons_succ, Act.put, List.setIfInBounds_toArray, List.set_cons_zero, List.set_cons_succ])); (refine wpAnyH_take (i := 13) (v := ?_) rfl (by kernel_rfl) (by kernel_rfl) (by kernel_rfl) (fun _ _ _ h => h) (Or.inl ⟨by rfl, ?_⟩) (by assumption) ?_; rotate_left; (focus (intro w hSw; (try dsimp only at hSw); go_simp; (try with_reducible rfl))); (try simp only [List.getElem_toArray, List.getElem_cons_zero, List.getElem_cons_succ, Act.put, List.setIfInBounds_toArray, List.set_cons_zero, List.set_cons_succ])); (refine wpAnyH_take (i := 14) (v := ?_) rfl (by kernel_rfl) (by kernel_rfl) (by kernel_rfl) (fun _ _ _ h => h) (Or.inl ⟨by rfl, ?_⟩) (by assumption) ?_; rotate_left; (focus (intro w hSw; (try dsimp only at hSw); go_simp; (try with_reducible rfl))); (try simp only [List.getElem_toArray, List.getElem_cons_zero, List.getElem_cons_succ, Act.put, List.setIfInBounds_toArray, List.set_cons_zero, List.set_cons_succ])); (refine wpAnyH_take (i := 15) (v := ?_) rfl (by kernel_rfl) (by kernel_rfl) (by kernel_rfl) (fun _ _ _ h => h) (Or.inl ⟨by rfl, ?_⟩) (by assumption) ?_; rotate_left; (focus (intro w hSw; (try dsimp only at hSw); go_simp; (try with_reducible rfl))); (try simp only [List.getElem_toArray, List.getElem_cons_zero, List.getElem_cons_succ, Act.put, List.setIfInBounds_toArray, List.set_cons_zero, List.set_cons_succ])); (refine wpAnyH_take (i := 16) (v := ?_) rfl (by kernel_rfl) (by kernel_rfl) (by kernel_rfl) (fun _ _ _ h => h) (Or.inl ⟨by rfl, ?_⟩) (by assumption) ?_; rotate_left; (focus (intro w hSw; (try dsimp only at hSw); go_simp; (try with_reducible rfl))); (try simp only [List.getElem_toArray, List.getElem_cons_zero, List.getElem_cons_succ, Act.put, List.setIfInBounds_toArray, List.set_cons_zero, List.set_cons_succ])); (refine wpAnyH_take (i := 17) (v := ?_) rfl (by kernel_rfl) (by kernel_rfl) (by kernel_rfl) (fun _ _ _ h => h) (Or.inl ⟨by rfl, ?_⟩) (by assumption) ?_; rotate_left; (focus (intro w hSw; (try dsimp only at hSw); go_simp; (try with_reducible rfl))); (try simp only [List.getElem_toArray, List.getElem_cons_zero, List.getElem_cons_succ, Act.put, List.setIfInBounds_toArray, List.set_cons_zero, List.set_cons_succ])); (refine wpAnyH_take (i := 18) (v := ?_) rfl (by kernel_rfl) (by kernel_rfl) (by kernel_rfl) (fun _ _ _ h => h) (Or.inl ⟨by rfl, ?_⟩) (by assumption) ?_; rotate_left; (focus (intro w hSw; (try dsimp only at hSw); go_simp; (try with_reducible rfl))); (try simp only [List.getElem_toArray, List.getElem_cons_zero, List.getElem_cons_succ, Act.put, List.setIfInBounds_toArray, List.set_cons_zero, List.set_cons_succ])); (refine wpAnyH_take (i := 19) (v := ?_) rfl (by kernel_rfl) (by kernel_rfl) (by kernel_rfl) (fun _ _ _ h => h) (Or.inl ⟨by rfl, ?_⟩) (by assumption) ?_; rotate_left; (focus (intro w hSw; (try dsimp only at hSw); go_simp; (try with_reducible rfl))); (try simp only [List.getElem_toArray, List.getElem_cons_zero, List.getElem_cons_succ, Act.put, List.setIfInBounds_toArray, List.set_cons_zero, List.set_cons_succ])); (refine wpAnyH_take (i := 20) (v := ?_) rfl (by kernel_rfl) (by kernel_rfl) (by kernel_rfl) (fun _ _ _ h => h) (Or.inl ⟨by rfl, ?_⟩) (by assumption) ?_; rotate_left; (focus (intro w hSw; (try dsimp only at hSw); go_simp; (try with_reducible rfl))); (try simp only [List.getElem_toArray, List.getElem_cons_zero, List.getElem_cons_succ, Act.put, List.setIfInBounds_toArray, List.set_cons_zero, List.set_cons_succ])); (refine wpAnyH_take (i := 21) (v := ?_) rfl (by kernel_rfl) (by kernel_rfl) (by kernel_rfl) (fun _ _ _ h => h) (Or.inl ⟨by rfl, ?_⟩) (by assumption) ?_; rotate_left; (focus (intro w hSw; (try dsimp only at hSw); go_simp; (try with_reducible rfl))); (try simp only [List.getElem_toArray, List.getElem_cons_zero, List.getElem_cons_succ, Act.put, List.setIfInBounds_toArray, List.set_cons_zero, List.set_cons_succ])); (refine wpAnyH_take (i := 22) (v := ?_) rfl (by kernel_rfl) (by kernel_rfl) (by kernel_rfl) (fun _ _ _ h => h) (Or.inl ⟨by rfl, ?_⟩) (by assumption) ?_; rotate_left; (focus (intro w hSw; (try dsimp only at hSw); go_simp; (try with_reducible rfl))); (try simp only [List.getElem_toArray, List.getElem_cons_zero, List.getElem_cons_succ, Act.put, List.setIfInBounds_toArray, List.set_cons_zero, List.set_cons_succ])); (refine wpAnyH_take (i := 23) (v := ?_) rfl (by kernel_rfl) (by kernel_rfl) (by kernel_rfl) (fun _ _ _ h => h) (Or.inl ⟨by rfl, ?_⟩) (by assumption) ?_; rotate_left; (focus (intro w hSw; (try dsimp only at hSw); go_simp; (try with_reducible rfl))); (try simp only [List.getElem_toArray, List.getElem_cons_zero, List.getElem_cons_succ, Act.put, List.setIfInBounds_toArray, List.set_cons_zero, List.set_cons_succ])); (refine wpAnyH_take (i := 24) (v := ?_) rfl (by kernel_rfl) (by kernel_rfl) (by kernel_rfl) (fun _ _ _ h => h) (Or.inl ⟨by rfl, ?_⟩) (by assumption) ?_; rotate_left; (focus (intro w hSw; (try dsimp only at hSw); go_simp; (try with_reducible rfl))); (try simp only [List.getElem_toArray, List.getElem_cons_zero, List.getElem_cons_succ, Act.put, List.setIfInBounds_toArray, List.set_cons_zero, List.set_cons_succ]))
    refine wpAnyH_ready (rs := [25]) (by kernel_rfl) (by simp) ?_; refine AllReadyH.cons rfl (fun K hK => ?_) AllReadyH.nil; go_simp
    go_at_call 25
    refine (isPoints_eq _ _ _ HPB.out).mono ?_
    rintro e w3 ⟨rfl, hw3⟩
    rw [hw3]
    clear hw3
    refine hK.out _ _ hS2 (fun hHeld => ?_); clear hK K; (try simp only [List.getElem_toArray, List.getElem_cons_zero, List.getElem_cons_succ, Act.put, List.setIfInBounds_toArray, List.set_cons_zero, List.set_cons_succ])
    (refine wpAnyH_take (i := 26) (v := ?_) rfl (by kernel_rfl) (by kernel_rfl) (by kernel_rfl) (fun _ _ _ h => h) (Or.inl ⟨by rfl, ?_⟩) (by assumption) ?_; rotate_left; (focus (intro w hSw; (try dsimp only at hSw); go_simp; (try with_reducible rfl))); (try simp only [List.getElem_toArray, List.getElem_cons_zero, List.getElem_cons_succ, Act.put, List.setIfInBounds_toArray, List.set_cons_zero, List.set_cons_succ])); (refine wpAnyH_take (i := 27) (v := ?_) rfl (by kernel_rfl) (by kernel_rfl) (by kernel_rfl) (fun _ _ _ h => h) (Or.inl ⟨by rfl, ?_⟩) (by assumption) ?_; rotate_left; (focus (intro w hSw; (try dsimp only at hSw); go_simp; (try with_reducible rfl))); (try simp only [List.getElem_toArray, List.getElem_cons_zero, List.getElem_cons_succ, Act.put, List.setIfInBounds_toArray, List.set_cons_zero, List.set_cons_succ]))
    refine wpAnyH_done (by kernel_rfl) ?_ _; clear hHeld
    clear hS2
    obtain ⟨⟨⟨r0, r1, r2, r3⟩, m0, m1⟩, _, _⟩ := HSD.out w2 HB2.out
    go_upto_region 4 with (go_at_call 26; refine (rWith_any N _ S q k pt _ (HBK.out.go HB2.out) (by omega) HL40.out HQN.out HKL.out).mono ?_; rintro e w3 ⟨v3, rfl, ho3, hb3⟩; have HB3 : Hid (Below ws.heap.size ws w3) := bel HB2.out hb3; have hs3 := ho3.show (show S.np ≤ 1000 by omega) HLM.out; obtain ⟨a8, c8, e8⟩ : ∃ a c, v3 = .agg #[.int .i64 S.J, .int .i64 S.D, .int .i64 S.Z, .slice a S.np c] := hs3.form; subst e8; have HS3 := Lib.hid hs3; clear hb3 ho3 hs3; obtain ⟨wo, hwo, HBo, hszo, hblko⟩ := box1 w3 (.cells #[.int .i64 0, .int .i64 0, .int .i64 0, .slice none 0 0] 24); have HZo := Lib.hid hblko; have z0 := cell_blk hblko 0 rfl; have z1 := cell_blk hblko 1 rfl; have z2 := cell_blk hblko 2 rfl; have z3 := cell_blk hblko 3 rfl; have f0 := free_blk hblko 0; have f1 := free_blk hblko 1; have f2 := free_blk hblko 2; have f3 := free_blk hblko 3; clear hblko)
    obtain ⟨w5, hw5, hz5, ho5, hb5⟩ := put4o HZo.out (.int .i64 S.J) (.int .i64 S.D) (.int .i64 S.Z) (.slice a8 S.np c8)
    rw [hw5]
    have hb35 : Below w3.heap.size w3 w5 := HBo.out.trans hb5
    have HB5 : Hid (Below ws.heap.size ws w5) := bel HB3.out hb35
    have hs5 := HS3.out.go hb35
    obtain ⟨O, hO⟩ : ∃ O, w3.heap.size = O := ⟨_, rfl⟩
    rw [hO] at hz5 hs5 ⊢
    have HZ5 := Lib.hid hz5
    have hO5 := heap_lt hz5
    have HS5 := Lib.hid hs5
    clear hwo hszo z0 z1 z2 z3 f0 f1 f2 f3 hw5 hz5 ho5 hb5 HZo HBo hb35 hO HS3 hs5 r0 r1 r2 r3 m0 m1
    have HSR : Hid (∀ W, Below w5.heap.size w5 W → (((W.cell? ⟨w.heap.size, 0, none⟩ = some (.int .i64 S.J) ∧ W.cell? ⟨w.heap.size, 1, none⟩ = some (.int .i64 S.D) ∧ W.cell? ⟨w.heap.size, 2, none⟩ = some (.int .i64 S.Z) ∧ W.cell? ⟨w.heap.size, 3, none⟩ = some (.slice (some ⟨b, off, none⟩) S.np c1)) ∧ (W.cell? ⟨w.heap.size + 1, 0, none⟩ = some (.int .i64 (q : Int)) ∧ W.cell? ⟨w.heap.size + 1, 1, none⟩ = some (.int .i64 (k : Int))))) ∧ W.cell? ⟨O, 0, none⟩ = some (.int .i64 S.J) ∧ W.cell? ⟨O, 1, none⟩ = some (.int .i64 S.D) ∧ W.cell? ⟨O, 2, none⟩ = some (.int .i64 S.Z) ∧ W.cell? ⟨O, 3, none⟩ = some (.slice a8 S.np c8)) := fun W hW => by
      have hz := (hW.block O hO5).trans HZ5.out
      exact ⟨(HSD.out W (bel HB5.out hW)).1, cell_blk hz 0 rfl, cell_blk hz 1 rfl, cell_blk hz 2 rfl, cell_blk hz 3 rfl⟩
    have HC0 : Hid (Below w5.heap.size w5 w5) := Below.refl _ _
    obtain ⟨⟨⟨r0, r1, r2, r3⟩, m0, m1⟩, o0, o1, o2, o3⟩ := HSR.out w5 HC0.out
    go_upto_region 5 with (go_at_call 27; refine (kAfter_ok N _ S q k _ (HBK.out.go HB5.out) HEA.out HG.out HQN.out HKL.out HOPN.out).mono ?_; rw [HAE.out]; rintro e w6 ⟨rfl, hb6⟩; have HC6 : Hid (Below w5.heap.size w5 w6) := hb6; clear hb6)
    clear r0 r1 r2 r3 m0 m1 o0 o1 o2 o3
    obtain ⟨⟨⟨r0, r1, r2, r3⟩, m0, m1⟩, o0, o1, o2, o3⟩ := HSR.out w6 HC6.out
    have hafi : ¬ (S.np : Int) < (af : Int) := by omega
    have haf0 : ¬ (af : Int) < 0 := by omega
    go_wp2_with fail
    clear r0 r1 r2 r3 m0 m1 o0 o1 o2 o3
    go_loopw [10, 11] (fun ov i wr => ∃ m : Nat, m ≤ S.np ∧ ov = .int .i64 (cnt m (fun i => decide (prz (withP S q k pt) i = 3)) : Nat) ∧ i = .int .i64 m ∧ Hid (Below w5.heap.size w5 wr)) (fun _ i _ => S.np - (intOf i).toNat)
    case atStart => exact ⟨0, Nat.zero_le _, rfl, rfl, HC6⟩
    case round =>
      obtain ⟨m, hm, rfl, rfl, HCr⟩ := hrel
      obtain ⟨cn, hcn⟩ : ∃ cn, cnt m (fun i => decide (prz (withP S q k pt) i = 3)) = cn := ⟨_, rfl⟩
      have HCN := Lib.hid hcn
      have hcnk : cn ≤ m := by rw [← hcn]; exact cnt_le _ _
      rw [hcn]
      clear hcn
      by_cases hmn : m < S.np
      · have hmi : (m : Int) < (S.np : Int) := by omega
        obtain ⟨al, hal⟩ : ∃ x, loT S m = x := ⟨_, rfl⟩
        obtain ⟨ah, hah⟩ : ∃ x, hiT S m = x := ⟨_, rfl⟩
        obtain ⟨bl, hbl⟩ : ∃ x, loT (withP S q k pt) m = x := ⟨_, rfl⟩
        obtain ⟨bh, hbh⟩ : ∃ x, hiT (withP S q k pt) m = x := ⟨_, rfl⟩
        obtain ⟨pl, hpl⟩ : ∃ x : Int, ((plLo S m : Nat) : Int) = x := ⟨_, rfl⟩
        obtain ⟨ph, hph⟩ : ∃ x : Int, ((plHi S m : Nat) : Int) = x := ⟨_, rfl⟩
        obtain ⟨ql, hql⟩ : ∃ x : Int, ((plLo (withP S q k pt) m : Nat) : Int) = x := ⟨_, rfl⟩
        obtain ⟨qh, hqh⟩ : ∃ x : Int, ((plHi (withP S q k pt) m : Nat) : Int) = x := ⟨_, rfl⟩
        obtain ⟨z1, hz1⟩ : ∃ x, prz S m = x := ⟨_, rfl⟩
        obtain ⟨z2, hz2⟩ : ∃ x, prz (withP S q k pt) m = x := ⟨_, rfl⟩
        have HVS : Hid (sp 0 (loT S (m : Int).toNat) = al ∧ sp 0 (hiT S (m : Int).toNat) = ah ∧ sp 0 ((plLo S (m : Int).toNat : Nat) : Int) = pl ∧ sp 0 ((plHi S (m : Int).toNat : Nat) : Int) = ph ∧ sp 0 (prz S (m : Int).toNat) = z1) := by
          unfold Hid; rw [Int.toNat_natCast, sp_ok, sp_ok, sp_ok, sp_ok, sp_ok]; exact ⟨hal, hah, hpl, hph, hz1⟩
        have HVT : Hid (sp 0 (loT (withP S q k pt) (m : Int).toNat) = bl ∧ sp 0 (hiT (withP S q k pt) (m : Int).toNat) = bh ∧ sp 0 ((plLo (withP S q k pt) (m : Int).toNat : Nat) : Int) = ql ∧ sp 0 ((plHi (withP S q k pt) (m : Int).toNat : Nat) : Int) = qh ∧ sp 0 (prz (withP S q k pt) (m : Int).toNat) = z2) := by
          unfold Hid; rw [Int.toNat_natCast, sp_ok, sp_ok, sp_ok, sp_ok, sp_ok]; exact ⟨hbl, hbh, hql, hqh, hz2⟩
        have HI1 : Hid (al ≤ bl ∧ bl ≤ bh ∧ bh ≤ ah) := by
          have h1 := HNR.out.lo m hmn
          have h2 := HNR.out.hi m hmn
          have h3 := lo_hi (withP S q k pt) m
          unfold Hid; omega
        have HI2 : Hid (pl ≤ ql ∧ ql ≤ qh ∧ qh ≤ ph) := by
          have h1 := HNR.out.place hmn
          have h2 := pl_le (withP S q k pt) m
          unfold Hid; omega
        have HI3 : Hid ((z2 = 1 ∨ z2 = 2 ∨ z2 = 3) ∧ (z1 = 3 ∨ z2 = z1)) := by
          rw [← hz1, ← hz2]
          exact ⟨prz_123 _ _, HNR.out.prize hmn⟩
        have HCG3 : Hid (z2 = 3 → cnt (m + 1) (fun i => decide (prz (withP S q k pt) i = 3)) = cn + 1) := fun e => by
          rw [cnt_hit (p := fun i => decide (prz (withP S q k pt) i = 3)) (decide_eq_true (by rw [hz2]; exact e)), HCN.out]
        have HCG0 : Hid (z2 ≠ 3 → cnt (m + 1) (fun i => decide (prz (withP S q k pt) i = 3)) = cn) := fun e => by
          rw [cnt_miss (p := fun i => decide (prz (withP S q k pt) i = 3)) (decide_eq_false (by rw [hz2]; exact e)), HCN.out]
        have hinm : inN (m : Int) S.np = true := by unfold inN; simp; exact hmn
        have HE1 : Hid (errA (okS S) (inN (m : Int) S.np) = 0) := by unfold Hid; rw [HOK.out, hinm]; rfl
        have HE2 : Hid (errA (okS (withP S q k pt)) (inN (m : Int) (withP S q k pt).np) = 0) := by unfold Hid; rw [HOKM.out, show (withP S q k pt).np = S.np from rfl, hinm]; rfl
        obtain ⟨o, hon, hrm, _⟩ := rem_next hmn
        have hnz : ¬ (S.np : Int) = 0 := by omega
        have hBr : Hid (Below ws.heap.size ws wr) := bel HB5.out HCr.out
        clear hal hah hbl hbh hpl hph hql hqh hz1 hz2 hinm
        obtain ⟨⟨⟨r0, r1, r2, r3⟩, m0, m1⟩, o0, o1, o2, o3⟩ := HSR.out wr HCr.out
        go_upto_region 12 with (go_at_call 15; refine (kTotal_any N _ S _ 0 _ (HBK.out.go hBr.out) HE1.out).mono ?_; rw [HVS.out.1, HVS.out.2.1]; rintro e wt ⟨rfl, hbt⟩; have HCt : Hid (Below w5.heap.size w5 wt) := bel HCr.out hbt; have HKt : Hid (Below wr.heap.size wr wt) := hbt; clear hbt; (obtain ⟨wo, hwo, HBo, hszo, hblko⟩ := box1 wt (.cells #[.int .i64 0, .int .i64 0] 30); have HZo := Lib.hid hblko; have z0 := cell_blk hblko 0 rfl; have z1 := cell_blk hblko 1 rfl; have f0 := free_blk hblko 0; have f1 := free_blk hblko 1; clear hblko))
        obtain ⟨wa, hwq, hzq, hoq, hbq⟩ := put2o HZo.out (.int .i64 al) (.int .i64 ah)
        rw [hwq]
        have hbtq : Below wt.heap.size wt wa := HBo.out.trans hbq
        have HCa : Hid (Below w5.heap.size w5 wa) := bel HCt.out hbtq
        have HKwa : Hid (Below wr.heap.size wr wa) := bel HKt.out hbtq
        obtain ⟨P1, hP⟩ : ∃ P, wt.heap.size = P := ⟨_, rfl⟩
        rw [hP] at hzq ⊢
        have HZP1 := Lib.hid hzq
        clear hwo hszo z0 z1 f0 f1 hwq hzq hoq hbq HZo HBo hbtq hP HCt HKt r0 r1 r2 r3 m0 m1 o0 o1 o2 o3
        obtain ⟨⟨⟨r0, r1, r2, r3⟩, m0, m1⟩, o0, o1, o2, o3⟩ := HSR.out wa HCa.out
        go_upto_region 13 with (go_at_call 15; refine (kTotal_any _ _ (withP S q k pt) _ 0 _ (HS5.out.go HCa.out) HE2.out).mono ?_; rw [HVT.out.1, HVT.out.2.1]; rintro e wt ⟨rfl, hbt⟩; have HCt : Hid (Below w5.heap.size w5 wt) := bel HCa.out hbt; have HKt : Hid (Below wa.heap.size wa wt) := hbt; clear hbt; (obtain ⟨wo, hwo, HBo, hszo, hblko⟩ := box1 wt (.cells #[.int .i64 0, .int .i64 0] 30); have HZo := Lib.hid hblko; have z0 := cell_blk hblko 0 rfl; have z1 := cell_blk hblko 1 rfl; have f0 := free_blk hblko 0; have f1 := free_blk hblko 1; clear hblko))
        obtain ⟨wb, hwq, hzq, hoq, hbq⟩ := put2o HZo.out (.int .i64 bl) (.int .i64 bh)
        rw [hwq]
        have hbtq : Below wt.heap.size wt wb := HBo.out.trans hbq
        have HCb : Hid (Below w5.heap.size w5 wb) := bel HCt.out hbtq
        have HKwb : Hid (Below wa.heap.size wa wb) := bel HKt.out hbtq
        obtain ⟨P2, hP⟩ : ∃ P, wt.heap.size = P := ⟨_, rfl⟩
        rw [hP] at hzq ⊢
        have HZP2 := Lib.hid hzq
        clear hwo hszo z0 z1 f0 f1 hwq hzq hoq hbq HZo HBo hbtq hP HCt HKt r0 r1 r2 r3 m0 m1 o0 o1 o2 o3
        obtain ⟨⟨⟨r0, r1, r2, r3⟩, m0, m1⟩, o0, o1, o2, o3⟩ := HSR.out wb HCb.out
        have hBb : Hid (Below ws.heap.size ws wb) := bel HB5.out HCb.out
        go_upto_region 14 with (go_at_call 16; refine (kPlace_any N _ S _ 0 _ (HBK.out.go hBb.out) HE1.out).mono ?_; rw [HVS.out.2.2.1, HVS.out.2.2.2.1]; rintro e wt ⟨rfl, hbt⟩; have HCt : Hid (Below w5.heap.size w5 wt) := bel HCb.out hbt; have HKt : Hid (Below wb.heap.size wb wt) := hbt; clear hbt; (obtain ⟨wo, hwo, HBo, hszo, hblko⟩ := box1 wt (.cells #[.int .i64 0, .int .i64 0] 30); have HZo := Lib.hid hblko; have z0 := cell_blk hblko 0 rfl; have z1 := cell_blk hblko 1 rfl; have f0 := free_blk hblko 0; have f1 := free_blk hblko 1; clear hblko))
        obtain ⟨wc, hwq, hzq, hoq, hbq⟩ := put2o HZo.out (.int .i64 pl) (.int .i64 ph)
        rw [hwq]
        have hbtq : Below wt.heap.size wt wc := HBo.out.trans hbq
        have HCc : Hid (Below w5.heap.size w5 wc) := bel HCt.out hbtq
        have HKwc : Hid (Below wb.heap.size wb wc) := bel HKt.out hbtq
        obtain ⟨P3, hP⟩ : ∃ P, wt.heap.size = P := ⟨_, rfl⟩
        rw [hP] at hzq ⊢
        have HZP3 := Lib.hid hzq
        clear hwo hszo z0 z1 f0 f1 hwq hzq hoq hbq HZo HBo hbtq hP HCt HKt r0 r1 r2 r3 m0 m1 o0 o1 o2 o3
        obtain ⟨⟨⟨r0, r1, r2, r3⟩, m0, m1⟩, o0, o1, o2, o3⟩ := HSR.out wc HCc.out
        go_upto_region 15 with (go_at_call 16; refine (kPlace_any _ _ (withP S q k pt) _ 0 _ (HS5.out.go HCc.out) HE2.out).mono ?_; rw [HVT.out.2.2.1, HVT.out.2.2.2.1]; rintro e wt ⟨rfl, hbt⟩; have HCt : Hid (Below w5.heap.size w5 wt) := bel HCc.out hbt; have HKt : Hid (Below wc.heap.size wc wt) := hbt; clear hbt; (obtain ⟨wo, hwo, HBo, hszo, hblko⟩ := box1 wt (.cells #[.int .i64 0, .int .i64 0] 30); have HZo := Lib.hid hblko; have z0 := cell_blk hblko 0 rfl; have z1 := cell_blk hblko 1 rfl; have f0 := free_blk hblko 0; have f1 := free_blk hblko 1; clear hblko))
        obtain ⟨wd, hwq, hzq, hoq, hbq⟩ := put2o HZo.out (.int .i64 ql) (.int .i64 qh)
        rw [hwq]
        have hbtq : Below wt.heap.size wt wd := HBo.out.trans hbq
        have HCd : Hid (Below w5.heap.size w5 wd) := bel HCt.out hbtq
        have HKwd : Hid (Below wc.heap.size wc wd) := bel HKt.out hbtq
        obtain ⟨P4, hP⟩ : ∃ P, wt.heap.size = P := ⟨_, rfl⟩
        rw [hP] at hzq ⊢
        have HZP4 := Lib.hid hzq
        clear hwo hszo z0 z1 f0 f1 hwq hzq hoq hbq HZo HBo hbtq hP HCt HKt r0 r1 r2 r3 m0 m1 o0 o1 o2 o3
        obtain ⟨⟨⟨r0, r1, r2, r3⟩, m0, m1⟩, o0, o1, o2, o3⟩ := HSR.out wd HCd.out
        have HSP : Hid (∀ W, Below wd.heap.size wd W → (W.cell? ⟨P1, 0, none⟩ = some (.int .i64 al) ∧ W.cell? ⟨P1, 1, none⟩ = some (.int .i64 ah)) ∧ (W.cell? ⟨P2, 0, none⟩ = some (.int .i64 bl) ∧ W.cell? ⟨P2, 1, none⟩ = some (.int .i64 bh)) ∧ (W.cell? ⟨P3, 0, none⟩ = some (.int .i64 pl) ∧ W.cell? ⟨P3, 1, none⟩ = some (.int .i64 ph)) ∧ W.cell? ⟨P4, 0, none⟩ = some (.int .i64 ql) ∧ W.cell? ⟨P4, 1, none⟩ = some (.int .i64 qh)) := fun W hW => by
          have a1 := (HKwb.out.block _ (heap_lt HZP1.out)).trans HZP1.out
          have a2 := (HKwc.out.block _ (heap_lt a1)).trans a1
          have a3 := (HKwd.out.block _ (heap_lt a2)).trans a2
          have a4 := (hW.block _ (heap_lt a3)).trans a3
          have b2 := (HKwc.out.block _ (heap_lt HZP2.out)).trans HZP2.out
          have b3 := (HKwd.out.block _ (heap_lt b2)).trans b2
          have b4 := (hW.block _ (heap_lt b3)).trans b3
          have c3 := (HKwd.out.block _ (heap_lt HZP3.out)).trans HZP3.out
          have c4 := (hW.block _ (heap_lt c3)).trans c3
          have d4 := (hW.block _ (heap_lt HZP4.out)).trans HZP4.out
          exact ⟨⟨cell_blk a4 0 rfl, cell_blk a4 1 rfl⟩, ⟨cell_blk b4 0 rfl, cell_blk b4 1 rfl⟩, ⟨cell_blk c4 0 rfl, cell_blk c4 1 rfl⟩, cell_blk d4 0 rfl, cell_blk d4 1 rfl⟩
        have hBd : Hid (Below ws.heap.size ws wd) := bel HB5.out HCd.out
        go_upto_region 16 with (go_at_call 17; refine (kPrize_any N _ S _ 0 _ (HBK.out.go hBd.out) HE1.out).mono ?_; rw [HVS.out.2.2.2.2]; rintro e we ⟨rfl, hbe⟩; have HDe : Hid (Below wd.heap.size wd we) := hbe; clear hbe)
        have HCe : Hid (Below w5.heap.size w5 we) := bel HCd.out HDe.out
        clear r0 r1 r2 r3 m0 m1 o0 o1 o2 o3
        obtain ⟨⟨⟨r0, r1, r2, r3⟩, m0, m1⟩, o0, o1, o2, o3⟩ := HSR.out we HCe.out
        go_upto_region 17 with (go_at_call 17; refine (kPrize_any _ _ (withP S q k pt) _ 0 _ (HS5.out.go HCe.out) HE2.out).mono ?_; rw [HVT.out.2.2.2.2]; rintro e wf ⟨rfl, hbf⟩; have HDf : Hid (Below wd.heap.size wd wf) := bel HDe.out hbf; clear hbf)
        (try clear x0 x1 x2 x3 x4 x5 x6 x7)
        obtain ⟨⟨x0, x1⟩, ⟨x2, x3⟩, ⟨x4, x5⟩, x6, x7⟩ := HSP.out wf HDf.out
        clear r0 r1 r2 r3 m0 m1 o0 o1 o2 o3
        go_upto_region 19 with (first
          | (go_at_call 28; have hx := HI1; clear HI1; refine (inside_any bl bh al ah _ hx.out.1 hx.out.2.1 hx.out.2.2).mono ?_; clear hx; rintro e wg ⟨rfl, hbg⟩; have HDg : Hid (Below wd.heap.size wd wg) := bel HDf.out hbg; clear hbg; ((try clear x0 x1 x2 x3 x4 x5 x6 x7); obtain ⟨⟨x0, x1⟩, ⟨x2, x3⟩, ⟨x4, x5⟩, x6, x7⟩ := HSP.out wg HDg.out))
          | (go_at_call 28; refine (inside_any ql qh pl ph _ HI2.out.1 HI2.out.2.1 HI2.out.2.2).mono ?_; rintro e wh ⟨rfl, hbh⟩; have HDh : Hid (Below wd.heap.size wd wh) := bel HDg.out hbh; clear hbh; ((try clear x0 x1 x2 x3 x4 x5 x6 x7); obtain ⟨⟨x0, x1⟩, ⟨x2, x3⟩, ⟨x4, x5⟩, x6, x7⟩ := HSP.out wh HDh.out))
          | (go_at_call 29; refine (sharper_any _ _ _ HI3.out.1 HI3.out.2).mono ?_; rintro e w' ⟨rfl, hw'⟩; rw [hw']; clear hw'))
        have HCh : Hid (Below w5.heap.size w5 wh) := bel HCd.out HDh.out
        obtain ⟨⟨⟨r0, r1, r2, r3⟩, m0, m1⟩, o0, o1, o2, o3⟩ := HSR.out wh HCh.out
        by_cases hz3 : z2 = 3
        · have HCG : Hid (cnt (m + 1) (fun i => decide (prz (withP S q k pt) i = 3)) = cn + 1) := HCG3.out hz3
          have hz3b : (z2 == 3) = true := by simp [hz3]
          subst hz3
          clear x0 x1 x2 x3 x4 x5 x6 x7
          go_upto_region 22 with fail
          by_cases hom : o = m
          · have home : (o : Int) = (m : Int) := by omega
            have homb : ((o : Int) == (m : Int)) = true := by rw [hom]; simp
            subst hom
            clear home
            go_wp2_with fail
            go_roundw
            case rel => exact ⟨o + 1, by omega, by (rw [HCG.out]) <;> (first | rfl | go_num), by go_num, HCh⟩
            case measure => simp [intOf]; omega
          · have home : ¬ (o : Int) = (m : Int) := by omega
            have homb : ((o : Int) == (m : Int)) = false := beq_eq_false_iff_ne.2 home
            have hmo : ¬ (m : Int) = (o : Int) := by omega
            have h2t : two S (m : Int) (o : Int) = true := by
              unfold two inN
              simp [hmn, hon]
              exact hmo
            have HB1 : Hid (errA (okS S) (two S (m : Int) (o : Int)) = 0) := by unfold Hid; rw [HOK.out, h2t]; rfl
            have HB2 : Hid (errA (okS (withP S q k pt)) (two (withP S q k pt) (m : Int) (o : Int)) = 0) := by unfold Hid; rw [HOKM.out, show two (withP S q k pt) (m : Int) (o : Int) = two S (m : Int) (o : Int) from rfl, h2t]; rfl
            obtain ⟨k1, hk1⟩ : ∃ x, kno S m o = x := ⟨_, rfl⟩
            obtain ⟨k2, hk2⟩ : ∃ x, kno (withP S q k pt) m o = x := ⟨_, rfl⟩
            have HKV : Hid (sp 0 (kno S (m : Int).toNat (o : Int).toNat) = k1 ∧ sp 0 (kno (withP S q k pt) (m : Int).toNat (o : Int).toNat) = k2) := by
              unfold Hid; rw [Int.toNat_natCast, Int.toNat_natCast, sp_ok, sp_ok]; exact ⟨hk1, hk2⟩
            have HSHK : Hid ((k2 = 1 ∨ k2 = 2 ∨ k2 = 3) ∧ (k1 = 3 ∨ k2 = k1)) := by
              rw [← hk1, ← hk2]
              exact ⟨kno_123 _ _ _, HNR.out.better hmn hon⟩
            clear h2t hk1 hk2 hmo
            have HBx : Hid (Below ws.heap.size ws wh) := bel HB5.out HCh.out
            go_upto_region 24 with (go_at_call 22; refine (kBetter_any N _ S _ _ 0 _ (HBK.out.go HBx.out) HB1.out).mono ?_; rw [HKV.out.1]; rintro e wm ⟨rfl, hbm⟩; have HCm : Hid (Below w5.heap.size w5 wm) := bel HCh.out hbm; clear hbm)
            clear r0 r1 r2 r3 m0 m1 o0 o1 o2 o3
            obtain ⟨⟨⟨r0, r1, r2, r3⟩, m0, m1⟩, o0, o1, o2, o3⟩ := HSR.out wm HCm.out
            go_upto_region 25 with (go_at_call 22; refine (kBetter_any _ _ (withP S q k pt) _ _ 0 _ (HS5.out.go HCm.out) HB2.out).mono ?_; rw [HKV.out.2]; rintro e wn ⟨rfl, hbn⟩; have HCn : Hid (Below w5.heap.size w5 wn) := bel HCm.out hbn; clear hbn)
            go_wp2_with (go_at_call 29; refine (sharper_any _ _ _ HSHK.out.1 HSHK.out.2).mono ?_; rintro e w' ⟨rfl, hw'⟩; rw [hw']; clear hw')
            go_roundw
            case rel => exact ⟨m + 1, by omega, by (rw [HCG.out]) <;> (first | rfl | go_num), by go_num, HCn⟩
            case measure => simp [intOf]; omega
        · have HCG : Hid (cnt (m + 1) (fun i => decide (prz (withP S q k pt) i = 3)) = cn) := HCG0.out hz3
          have hz3b : (z2 == 3) = false := by simp; exact hz3
          clear x0 x1 x2 x3 x4 x5 x6 x7
          go_upto_region 22 with fail
          by_cases hom : o = m
          · have home : (o : Int) = (m : Int) := by omega
            have homb : ((o : Int) == (m : Int)) = true := by rw [hom]; simp
            subst hom
            clear home
            go_wp2_with fail
            go_roundw
            case rel => exact ⟨o + 1, by omega, by (rw [HCG.out]) <;> (first | rfl | go_num), by go_num, HCh⟩
            case measure => simp [intOf]; omega
          · have home : ¬ (o : Int) = (m : Int) := by omega
            have homb : ((o : Int) == (m : Int)) = false := beq_eq_false_iff_ne.2 home
            have hmo : ¬ (m : Int) = (o : Int) := by omega
            have h2t : two S (m : Int) (o : Int) = true := by
              unfold two inN
              simp [hmn, hon]
              exact hmo
            have HB1 : Hid (errA (okS S) (two S (m : Int) (o : Int)) = 0) := by unfold Hid; rw [HOK.out, h2t]; rfl
            have HB2 : Hid (errA (okS (withP S q k pt)) (two (withP S q k pt) (m : Int) (o : Int)) = 0) := by unfold Hid; rw [HOKM.out, show two (withP S q k pt) (m : Int) (o : Int) = two S (m : Int) (o : Int) from rfl, h2t]; rfl
            obtain ⟨k1, hk1⟩ : ∃ x, kno S m o = x := ⟨_, rfl⟩
            obtain ⟨k2, hk2⟩ : ∃ x, kno (withP S q k pt) m o = x := ⟨_, rfl⟩
            have HKV : Hid (sp 0 (kno S (m : Int).toNat (o : Int).toNat) = k1 ∧ sp 0 (kno (withP S q k pt) (m : Int).toNat (o : Int).toNat) = k2) := by
              unfold Hid; rw [Int.toNat_natCast, Int.toNat_natCast, sp_ok, sp_ok]; exact ⟨hk1, hk2⟩
            have HSHK : Hid ((k2 = 1 ∨ k2 = 2 ∨ k2 = 3) ∧ (k1 = 3 ∨ k2 = k1)) := by
              rw [← hk1, ← hk2]
              exact ⟨kno_123 _ _ _, HNR.out.better hmn hon⟩
            clear h2t hk1 hk2 hmo
            have HBx : Hid (Below ws.heap.size ws wh) := bel HB5.out HCh.out
            go_upto_region 24 with (go_at_call 22; refine (kBetter_any N _ S _ _ 0 _ (HBK.out.go HBx.out) HB1.out).mono ?_; rw [HKV.out.1]; rintro e wm ⟨rfl, hbm⟩; have HCm : Hid (Below w5.heap.size w5 wm) := bel HCh.out hbm; clear hbm)
            clear r0 r1 r2 r3 m0 m1 o0 o1 o2 o3
            obtain ⟨⟨⟨r0, r1, r2, r3⟩, m0, m1⟩, o0, o1, o2, o3⟩ := HSR.out wm HCm.out
            go_upto_region 25 with (go_at_call 22; refine (kBetter_any _ _ (withP S q k pt) _ _ 0 _ (HS5.out.go HCm.out) HB2.out).mono ?_; rw [HKV.out.2]; rintro e wn ⟨rfl, hbn⟩; have HCn : Hid (Below w5.heap.size w5 wn) := bel HCm.out hbn; clear hbn)
            go_wp2_with (go_at_call 29; refine (sharper_any _ _ _ HSHK.out.1 HSHK.out.2).mono ?_; rintro e w' ⟨rfl, hw'⟩; rw [hw']; clear hw')
            go_roundw
            case rel => exact ⟨m + 1, by omega, by (rw [HCG.out]) <;> (first | rfl | go_num), by go_num, HCn⟩
            case measure => simp [intOf]; omega
      · have hmi : ¬ (m : Int) < (S.np : Int) := by omega
        have hle : (cn : Int) ≤ (af : Int) := by
          have h1 := HAF.out
          unfold opens at h1
          rw [show (withP S q k pt).np = m by show S.np = m; omega, HCN.out] at h1
          omega
        have HBr : Hid (Below ws.heap.size ws wr) := bel HB5.out HCr.out
        obtain ⟨⟨⟨r0, r1, r2, r3⟩, m0, m1⟩, o0, o1, o2, o3⟩ := HSR.out wr HCr.out
        go_wp2_with (go_at_call 13; refine (works_any _).mono ?_; rintro e wz ⟨rfl, hbz⟩; have HBz : Hid (Below ws.heap.size ws wz) := bel HBr.out hbz; clear hbz)
        go_ret
        exact ⟨rfl, fin HB.out HBz.out⟩

end Go.Proofs.Ytffnlimgjnhmpaa
