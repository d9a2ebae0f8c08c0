/-
  JKY: rank of a jury.
-/
import Derived.Test.YtffnlimgjnhmpaaJKX
namespace Go.Proofs.Ytffnlimgjnhmpaa
open Go.RowKit

set_option maxHeartbeats 3200000 in
set_option maxRecDepth 100000 in
theorem stable_any (N jb lo : Nat) (a1 : Option Addr) (c1 : Nat) (S : JB) (v : Value) (n : Nat) (w : World) (hsh : ShowAt N w (.agg #[.int .i64 S.J, .int .i64 S.D, .int .i64 S.Z, .slice a1 S.np c1]) S) (hRJ : RdJ S) (hX : JBX w jb a1 c1 S) (hNl : N ≤ lo) (hjl : jb < lo) (hlo : lo ≤ w.heap.size) (h : RI lo w v (upTo n)) (hn : S.np = n) (hl : n ≤ 6) :
    Calls Try.prog 105 #[v, .int .i64 n, .func (.func 93) #[] #[.pointer (some ⟨jb, 0, none⟩)]] w fun e w' => (∃ r, e = .returned r) ∧ (∃ L, L.Perm (upTo n) ∧ RO (ltS S) n n L ∧ RI lo w' v L) ∧ Below lo w w' := by
  have HI := Lib.hid (insCmp_any N jb lo a1 c1 S v n w hsh hRJ hX hNl hjl hlo h hn hl)
  have h20 : ¬ (20 : Int) ≤ (n : Int) := by omega
  have h21 : ¬ (20 : Int) < (n : Int) := by omega
  clear hsh hRJ hX h hn
  go_enter Try.func105, Try.ntmps105
  go_wp2_with fail
  refine wp_loop_rounds 1 ?_
  rw [rounds_succ]
  go_wp2_with (go_at_call 113; refine HI.out.mono ?_; rintro e w1 ⟨⟨r, rfl⟩, hr1, hb1⟩; have HR1 := Lib.hid hr1; have HB1 := Lib.hid hb1; clear hr1 hb1)
  refine wp_loop_rounds 1 ?_
  rw [rounds_succ]
  go_wp2_with fail
  exact bodyPost_end (v := .tuple #[]) (by simp [results, Try.results105, go_sem]) rfl ⟨⟨_, rfl⟩, HR1.out, HB1.out⟩

set_option maxHeartbeats 3200000 in
set_option maxRecDepth 100000 in
theorem sortStable_any (N jb lo : Nat) (a1 : Option Addr) (c1 : Nat) (S : JB) (v : Value) (n : Nat) (w : World) (hsh : ShowAt N w (.agg #[.int .i64 S.J, .int .i64 S.D, .int .i64 S.Z, .slice a1 S.np c1]) S) (hRJ : RdJ S) (hX : JBX w jb a1 c1 S) (hNl : N ≤ lo) (hjl : jb < lo) (hlo : lo ≤ w.heap.size) (h : RI lo w v (upTo n)) (hn : S.np = n) (hl : n ≤ 6) :
    Calls Try.prog 92 #[v, .func (.func 93) #[] #[.pointer (some ⟨jb, 0, none⟩)]] w fun e w' => (∃ r, e = .returned r) ∧ (∃ L, L.Perm (upTo n) ∧ RO (ltS S) n n L ∧ RI lo w' v L) ∧ Below lo w w' := by
  have HI := Lib.hid (stable_any N jb lo a1 c1 S v n w hsh hRJ hX hNl hjl hlo h hn hl)
  obtain ⟨av, cv, rfl⟩ := h.form
  rw [upTo_len] at HI ⊢
  clear hsh hRJ hX h hn
  go_enter Try.func92, Try.ntmps92
  go_wp2_with (go_at_call 105; refine HI.out.mono ?_; rintro e w1 ⟨⟨r, rfl⟩, hr1, hb1⟩; have HR1 := Lib.hid hr1; have HB1 := Lib.hid hb1; clear hr1 hb1)
  exact bodyPost_end (v := .tuple #[]) (by simp [results, Try.results92, go_sem]) rfl ⟨⟨_, rfl⟩, HR1.out, HB1.out⟩

set_option maxHeartbeats 3200000 in
set_option maxRecDepth 100000 in
theorem krank_any (N : Nat) (v : Value) (S : JB) (w : World) (h : ShowAt N w v S) (hR : RdJ S) (hn6 : S.np ≤ 6) (hin : allIn S = true) :
    Calls Try.prog 72 #[v] w fun e w' => ∃ u, e = .returned u ∧ LI w'.heap.size w' u (rnk S S.np) ∧ Below w.heap.size w w' := by
  obtain ⟨a1, c1, rfl⟩ := h.form
  obtain ⟨ws, hws, HB, hsz, hblk⟩ := box1 w (.cells #[.int .i64 S.J, .int .i64 S.D, .int .i64 S.Z, .slice a1 S.np c1] 74)
  have q0 := cell_blk hblk 0 rfl
  have q1 := cell_blk hblk 1 rfl
  have q2 := cell_blk hblk 2 rfl
  have q3 := cell_blk hblk 3 rfl
  have HNZ : Hid (N ≤ w.heap.size) := h.1
  have HBK := Lib.hid (h.go HB.out)
  have HB0 : Hid (Below ws.heap.size ws ws) := Below.refl _ _
  have HNS : Hid (N ≤ ws.heap.size) := HBK.out.1
  have hlen := h.len
  clear hblk h
  have HR := Lib.hid hR
  have HIN := Lib.hid hin
  have HX : Hid (JBX ws w.heap.size a1 c1 S) := by unfold Hid JBX; rw [← hws]; exact World.alloc_heap_new w _
  have HSQ : Hid (∀ W, Below ws.heap.size ws W → (W.cell? ⟨w.heap.size, 0, none⟩ = some (.int .i64 S.J) ∧ W.cell? ⟨w.heap.size, 1, none⟩ = some (.int .i64 S.D) ∧ W.cell? ⟨w.heap.size, 2, none⟩ = some (.int .i64 S.Z) ∧ W.cell? ⟨w.heap.size, 3, none⟩ = some (.slice a1 S.np c1))) := fun W hW => ⟨(hW.cell (p := ⟨w.heap.size, 0, none⟩) hsz).trans q0, (hW.cell (p := ⟨w.heap.size, 1, none⟩) hsz).trans q1, (hW.cell (p := ⟨w.heap.size, 2, none⟩) hsz).trans q2, (hW.cell (p := ⟨w.heap.size, 3, none⟩) hsz).trans q3⟩
  clear hR hin
  go_enter Try.func72, Try.ntmps72
  go_wp2_with fail
  clear hws q0 q1 q2 q3
  go_loopw [3, 9] (fun u i wr => ∃ m : Nat, m ≤ S.np ∧ i = .int .i64 m ∧ Hid (OwnI ws.heap.size wr u (upTo m)) ∧ Hid (Below ws.heap.size ws wr)) (fun _ i _ => S.np - (intOf i).toNat)
  case atStart => exact ⟨0, Nat.zero_le _, rfl, OwnI.nil _ _, HB0⟩
  case round =>
    obtain ⟨m, hm, rfl, HO, HBr⟩ := hrel
    by_cases hmn : m < S.np
    · have hmi : (m : Int) < (S.np : Int) := by omega
      have HE : Hid (upTo (m + 1) = upTo m ++ [(m : Int)]) := sel_hit rfl
      have HUL := Lib.hid (upTo_len m)
      go_wp2_with (at_builtin; go_must (refine wpList_appI wr rfl _ _ rfl rfl ws.heap.size _ _ m HO.out HBr.out.size (by have := HUL.out; omega) rfl rfl ?_); intro v6 w6 ho6 hb6)
      go_roundw
      case rel => exact ⟨m + 1, by omega, by go_num, by rw [HE.out]; exact ho6, HBr.out.trans hb6⟩
      case measure => simp [intOf]; omega
    · have hmi : ¬ (m : Int) < (S.np : Int) := by omega
      have hme : S.np = m := by omega
      have HME := Lib.hid hme
      have HRI := Lib.hid (show RI ws.heap.size wr _ (upTo m) from RI.of_own (by have := HO.out; unfold OwnI at this; exact this))
      have HXr : Hid (JBX wr w.heap.size a1 c1 S) := HX.out.go HBr.out hsz
      clear hme
      go_wp2_with (go_at_call 92; refine (sortStable_any N w.heap.size ws.heap.size a1 c1 S _ m wr (HBK.out.go HBr.out) HR.out HXr.out HNS.out hsz HBr.out.size HRI.out HME.out (by have := HME.out; omega)).mono ?_; rintro e w7 ⟨⟨r, rfl⟩, ⟨L, hp, hro, hri⟩, hb7⟩; have HL := Lib.hid (And.intro hp (And.intro hro hri)); have HB7 := Lib.hid hb7; clear hp hro hri hb7)
      go_ret
      have hLe : L = rnk S S.np := ro_rnk HIN.out (by rw [HME.out]; exact HL.out.2.1) (by rw [HME.out]; exact HL.out.1)
      refine ⟨_, rfl, ?_, fin HB.out (HBr.out.trans HB7.out)⟩
      rw [← hLe]
      exact HL.out.2.2.li (by rw [HL.out.1.length_eq, upTo_len]; omega)

end Go.Proofs.Ytffnlimgjnhmpaa
