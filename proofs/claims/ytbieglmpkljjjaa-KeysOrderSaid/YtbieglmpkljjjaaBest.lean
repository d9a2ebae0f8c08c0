/-
  Pairs: each two sorts, yielded.
-/
import Derived.Test.YtbieglmpkljjjaaSearch
import Derived.Test.YtbieglmpkljjjaaIter
import Derived.Test.YtbieglmpkljjjaaLeast
namespace Go.Proofs.Ytbieglmpkljjjaa
open Go.RowKit Go.Shelf

attribute [local go_sem] Oper.semAt_some

/-- the pairs whose greater sort is below k -/
def pairsL (B : KB) (k : Nat) : List Nat := (List.range k).flatMap fun i => (List.range i).map fun j => apartS B i j
def pairsI (B : KB) (k l : Nat) : List Nat := pairsL B k ++ (List.range l).map fun j => apartS B k j
theorem pairsI_zero (B : KB) (k : Nat) : pairsI B k 0 = pairsL B k := by simp [pairsI]
theorem pairsI_snoc (B : KB) (k l : Nat) : pairsI B k (l + 1) = pairsI B k l ++ [apartS B k l] := by unfold pairsI; rw [List.range_succ, List.map_append, List.append_assoc]; rfl
theorem pairsI_full (B : KB) (k : Nat) : pairsI B k k = pairsL B (k + 1) := by unfold pairsI pairsL; rw [List.range_succ, List.flatMap_append]; simp
theorem pairsL_mem {B : KB} {k d : Nat} (h : d ∈ pairsL B k) : ∃ i j, j < i ∧ i < k ∧ d = apartS B i j := by
  unfold pairsL at h
  obtain ⟨i, hi, h⟩ := List.mem_flatMap.1 h
  obtain ⟨j, hj, rfl⟩ := List.mem_map.1 h
  exact ⟨i, j, List.mem_range.1 hj, List.mem_range.1 hi, rfl⟩

theorem diffB_iff {B : KB} (h : B.nv ≤ 5) : diffB B = true ↔ ∀ d, d ∈ pairsL B B.ns → many d ≠ 0 := by
  unfold diffB
  rw [allB_true]
  constructor
  · intro hd d hm
    obtain ⟨i, j, hj, hi, rfl⟩ := pairsL_mem hm
    rw [apartS_many B i j h]
    exact of_decide_eq_true (allB_true.1 (hd i hi) j hj)
  · intro hd i hi
    rw [allB_true]
    intro j hj
    have := hd (apartS B i j) (List.mem_flatMap.2 ⟨i, List.mem_range.2 hi, List.mem_map.2 ⟨j, List.mem_range.2 hj, rfl⟩⟩)
    rw [apartS_many B i j h] at this
    exact decide_eq_true this
theorem pairsL_lt {B : KB} {k d : Nat} (hn : B.nv ≤ 5) (h : d ∈ pairsL B k) : d < 256 := by
  obtain ⟨i, j, _, _, rfl⟩ := pairsL_mem h
  exact apartS_lt B i j hn

theorem new_of_below {A B : World} (h : Below A.heap.size A B) : A.grownBy B none := ⟨h.os, h.tape, h.output, h.size, fun k hk _ => h.block k hk⟩

set_option maxHeartbeats 800000 in
theorem pairs_any (v1 v2 v3 : Value) (w : World) :
    Calls Try.prog 118 #[.agg #[v1, v2, v3]] w fun e w' => e = .returned (.func (.func 143) #[] #[.pointer (some ⟨w.heap.size, 0, none⟩)]) ∧ w' = w.alloc (.cells #[v1, v2, v3] 26) := by
  go_enter Try.func118, Try.ntmps118
  go_wp2
  go_ret
  exact ⟨rfl, rfl⟩

theorem list_kept {N : Nat} {w w' : World} {E E' : Nat → Value → Prop} {v : Value} {n : Nat} (h : ListAt N w E v n) (hc : ∀ b o, b < N → w'.cell? ⟨b, o, none⟩ = w.cell? ⟨b, o, none⟩) (hE : ∀ i r, i < n → E i r → E' i r) : ListAt N w' E' v n := by
  obtain ⟨ao, cap, rfl, hn, hr⟩ := h
  refine ⟨ao, cap, rfl, hn, fun h0 => ?_⟩
  obtain ⟨b, off, rfl, hb, hr⟩ := hr h0
  refine ⟨b, off, rfl, hb, fun i hi => ?_⟩
  obtain ⟨r, h1, h2⟩ := hr i hi
  exact ⟨r, (hc b _ hb).trans h1, hE i r hi h2⟩
/-- a book lies in its blocks -/
theorem book_kept {N : Nat} {w wk : World} {v : Value} {B : KB} (h : BookAt N w v B) (hk : ∀ k, k < N → wk.heap[k]? = w.heap[k]?) : BookAt N wk v B := by
  have hN : N ≤ wk.heap.size := by
    rcases Nat.eq_zero_or_pos N with h0 | h0
    · omega
    · have h1 := h.1
      have h2 := hk (N - 1) (by omega)
      rw [Array.getElem?_eq_getElem (show N - 1 < w.heap.size by omega)] at h2
      have := heap_lt h2
      omega
  have hc : ∀ b o, b < N → wk.cell? ⟨b, o, none⟩ = w.cell? ⟨b, o, none⟩ := fun b o hb => World.cell?_of_block (a := ⟨b, o, none⟩) (hk b hb)
  obtain ⟨_, a1, z1, a2, z2, a3, z3, rfl, h1, h2, h3⟩ := h
  refine ⟨hN, a1, z1, a2, z2, a3, z3, rfl, list_kept h1 hc fun _ _ _ h => h, list_kept h2 hc fun _ _ _ h => list_kept h hc fun _ _ _ h => h, ?_⟩
  obtain ⟨ao, cap, e, hn, hr⟩ := h3
  refine ⟨ao, cap, e, hn, fun h0 => ?_⟩
  obtain ⟨b, off, e2, hb, hr⟩ := hr h0
  refine ⟨b, off, e2, hb, fun i hi => ?_⟩
  obtain ⟨r1, r2, r, r3, r4⟩ := hr i hi
  exact ⟨(hc b _ hb).trans r1, (hc b _ hb).trans r2, r, (hc b _ hb).trans r3, list_kept r4 hc fun _ _ _ h => h⟩

set_option maxRecDepth 100000 in
set_option maxHeartbeats 4000000 in
theorem pairs1_seq (n : Nat) (hn : 1 ≤ n) (Bb N : Nat) (B : KB) (P : Nat → Prop) (Kp : World → World → Prop) (hKp : ∀ A B, Kp A B → Kept P A B)
    (w : World) (a1 a2 a3 : Option Addr) (z1 z2 z3 : Nat) (hbox : w.heap[Bb]? = some (.cells #[.slice a1 B.nv z1, .slice a2 B.ns z2, .slice a3 B.D.n z3] 26)) (h : BookAt N w (.agg #[.slice a1 B.nv z1, .slice a2 B.ns z2, .slice a3 B.D.n z3]) B)
    (hPN : ∀ k, k < N → P k) (hPb : P Bb) (hPw : ∀ k, P k → k < w.heap.size) (hG : GoodB B) :
    SeqL Fence.wide n Try.prog 143 #[.pointer (some ⟨Bb, 0, none⟩)] (fun d : Nat => #[.int .u64 (d : Nat)]) Kp New (fun d _ => d ∈ pairsL B B.ns) (fun ys => ys = pairsL B B.ns) (fun _ => True) (fun _ => True) w := by
  intro l J Jx W hW hJa _ hY h0
  have HY := Lib.hid hY
  have HJ := Lib.hid hJa
  have HG := Lib.hid hG
  have HKp := Lib.hid hKp
  have HW := Lib.hid hW
  have HPw : Hid (∀ k, P k → k < W.heap.size) := fun k hk => Nat.lt_of_lt_of_le (hPw k hk) hW.size
  have HK0 : Hid (Kept P w W) := fun k hk => hW.block k (hPw k hk)
  have HPb := Lib.hid hPb
  have HPN := Lib.hid hPN
  have HBOX := Lib.hid hbox
  have HB := Lib.hid h
  have hns8 := hG.ns
  have hnv5 := hG.nv
  have HBB : Hid (∀ wk : World, Kept P w wk → BookAt N wk (.agg #[.slice a1 B.nv z1, .slice a2 B.ns z2, .slice a3 B.D.n z3]) B) := fun wk hk => book_kept h (fun k hk' => hk k (hPN k hk'))
  have b1 := (HK0.out.cell (a := ⟨Bb, 1, none⟩) hPb).trans (cell_blk hbox 1 rfl)
  clear hY hJa hG hKp hW hPb hPN hPw hbox h
  refine callsIn_of_wp Try.func143 rfl trivial ?_ rfl
  simp only [Try.ntmps143, List.size_toArray, List.length_cons, List.length_nil, Nat.reduceAdd, Nat.reduceSub, Array.replicate_succ, Array.replicate_zero, List.push_toArray, List.append_toArray, List.nil_append, List.cons_append]
  gi_wp2
  gi_loopw [8] (fun i wr => ∃ k : Nat, k ≤ B.ns ∧ i = .int .i64 k ∧ Hid (J (pairsL B k) wr) ∧ Hid (Kept P W wr)) (fun i _ => B.ns - (intOf i).toNat)
  case atStart => exact ⟨0, Nat.zero_le _, rfl, h0, Kept.refl _ _⟩
  case round =>
    obtain ⟨k, hk, rfl, hJk, hKk⟩ := hrel
    by_cases hkn : k < B.ns
    · have hki : (k : Int) < (B.ns : Int) := by omega
      gi_wp2
      gi_loopw [12] (fun i wr => ∃ l : Nat, l ≤ k ∧ i = .int .i64 l ∧ Hid (J (pairsI B k l) wr) ∧ Hid (Kept P W wr)) (fun i _ => k - (intOf i).toNat)
      case atStart => exact ⟨0, Nat.zero_le _, rfl, by rw [pairsI_zero]; exact hJk, hKk⟩
      case round =>
        obtain ⟨j, hj, rfl, hJj, hKj⟩ := hrel
        by_cases hjk : j < k
        · have hji : (j : Int) < (k : Int) := by omega
          have HKw : Hid (Kept P w wr) := HK0.out.trans hKj.out
          have hbx := (HKw.out Bb HPb.out).trans HBOX.out
          have c0 := cell_blk hbx 0 rfl
          have c1 := cell_blk hbx 1 rfl
          have c2 := cell_blk hbx 2 rfl
          have HAP := Lib.hid (apart_any N _ B k j wr (HBB.out wr HKw.out) HG.out hkn (by omega))
          have HLT : Hid (apartS B k j ∈ pairsL B B.ns) := List.mem_flatMap.2 ⟨k, List.mem_range.2 hkn, List.mem_map.2 ⟨j, List.mem_range.2 hjk, rfl⟩⟩
          have HSN := Lib.hid (pairsI_snoc B k j)
          have HP3 : Hid (∀ k, P k → k < wr.heap.size) := fun i hi => by
            have h1 := HPw.out i hi
            have h2 := hKj.out i hi
            rw [Array.getElem?_eq_getElem h1] at h2
            exact heap_lt h2
          clear hbx
          generalize apartS B k j = d at *
          gi_wp2_with (refine ⟨trivial, ?_⟩; gi_at_call 97; refine (callsIn_wide.2 HAP.out).mono ?_; rintro e w2 ⟨rfl, hb2⟩; have HB2 := Lib.hid hb2; clear hb2)
          have hJ2 := HJ.out _ _ _ hJj.out (new_of_below HB2.out)
          obtain ⟨fn, tmps, assign, body, hy, hR⟩ := HY.out (pairsI B k j) d w2 hJ2 HLT.out trivial
          rw [hy]
          gi_wp2
          refine hR.mono ?_
          rintro e W3 (⟨rfl, hJ3, hk3⟩ | ⟨rfl, hJx3⟩)
          · have HK3 : Hid (Kept P W W3) := (hKj.out.trans (fun i hi => HB2.out.block i (HP3.out i hi))).trans (HKp.out _ _ hk3)
            have HJ3 : Hid (J (pairsI B k (j + 1)) W3) := by unfold Hid; rw [HSN.out]; exact hJ3
            clear hR hy hJ3 hk3
            gi_wp2
            exact ⟨⟨j + 1, by omega, by go_num, HJ3, HK3⟩, by simp [intOf]; omega⟩
          · gi_wp2
            refine bodyPost_ret (results_none rfl _ _ _) rfl ?_
            exact ⟨⟨_, rfl⟩, .inr ⟨_, trivial, hJx3⟩⟩
        · have hjj : j = k := by omega
          subst hjj
          have HJ3 : Hid (J (pairsL B (j + 1)) wr) := by unfold Hid; rw [← pairsI_full]; exact hJj.out
          gi_wp2
          exact ⟨⟨j + 1, by omega, by go_num, HJ3, hKj⟩, by simp [intOf]; omega⟩
    · have HKK : Hid (k = B.ns) := by unfold Hid; omega
      gi_wp2
      go_end0
      exact ⟨⟨_, rfl⟩, .inl ⟨_, rfl, by rw [← HKK.out]; exact hJk.out⟩⟩

end Go.Proofs.Ytbieglmpkljjjaa

namespace Go.Proofs.Ytbieglmpkljjjaa
open Go.RowKit Go.Shelf

attribute [local go_sem] Oper.semAt_some

theorem cad_result (tmps : Array Value) (W : World) (rc : Nat) (x : Int) (ht : tmps[2]? = some (.pointer (some ⟨rc, 0, none⟩))) (hc : W.cell? ⟨rc, 0, none⟩ = some (.int .i64 x)) : (results Try.f80 tmps).run Try.prog W = .ok (.int .i64 x) W := by
  simp [results, Try.results80, go_sem, ht, hc]

set_option maxRecDepth 100000 in
set_option maxHeartbeats 4000000 in
theorem cad_any (N : Nat) (v : Value) (B : KB) (w : World) (h : BookAt N w v B) :
    Calls Try.prog 80 #[v] w fun e w' => e = .returned (.int .i64 (eDiff B)) ∧ Below w.heap.size w w' := by
  obtain ⟨hN, a1, z1, a2, z2, a3, z3, rfl, _⟩ := id h
  have HB := Lib.hid h
  clear h
  refine (callsIn_wide (n := 3)).1 ?_
  refine callsIn_of_wp_marks Try.func80 rfl trivial ?_ rfl
  simp only [Try.ntmps80, List.size_toArray, List.length_cons, List.length_nil, Nat.reduceAdd, Nat.reduceSub, Array.replicate_succ, Array.replicate_zero, List.push_toArray, List.append_toArray, List.nil_append, List.cons_append]
  obtain ⟨ws, hws, HBs, hsz, hsz1, k0, k1⟩ := box2 w (.cells #[.slice a1 B.nv z1, .slice a2 B.ns z2, .slice a3 B.D.n z3] 26) (.cells #[.int .i64 0] 30)
  have HBW := Lib.hid (HB.out.go HBs.out)
  have HB0 : Hid (Below ws.heap.size ws ws) := Below.refl _ _
  have q0 := cell_blk k0 0 rfl
  have q1 := cell_blk k0 1 rfl
  have q2 := cell_blk k0 2 rfl
  cases hv : okKB B with
  | false =>
    have HA : Hid (chk B = 20) := chk_no hv
    have HE : Hid (eDiff B = 20) := by unfold Hid eDiff; rw [hv]; rfl
    have HCK := Lib.hid (kCheck_any N _ B ws HBW.out)
    rw [HA.out] at HCK
    clear hv
    gi_wp2_with (refine ⟨trivial, ?_⟩; gi_at_call 46; refine (callsIn_wide.2 HCK.out).mono ?_; rintro e w1 ⟨rfl, hb1⟩; have r0 := cell_blk ((hb1.block (w.heap.size + 1) hsz1).trans k1) 0 rfl; have rf := free_blk ((hb1.block (w.heap.size + 1) hsz1).trans k1) 0)
    have hcc : (w1.setCell ⟨w.heap.size + 1, 0, none⟩ (.int .i64 20)).cell? ⟨w.heap.size + 1, 0, none⟩ = some (.int .i64 20) := World.cell?_setCell_same _ _ _ r0
    exact ⟨_, cad_result _ _ (w.heap.size + 1) 20 rfl hcc, by rw [HE.out], (fin HBs.out (Lib.hid (hb1)).out).trans ((Below.refl _ _).setCell (p := ⟨w.heap.size + 1, 0, none⟩) (Nat.le_succ _) _)⟩
  | true =>
    have HA : Hid (chk B = 0) := chk_yes hv
    have HE : Hid (eDiff B = if diffB B then 0 else 3) := by unfold Hid eDiff; rw [hv]; rfl
    have HG := Lib.hid (goodB hv)
    have HCK := Lib.hid (kCheck_any N _ B ws HBW.out)
    rw [HA.out] at HCK
    clear hv
    gi_wp2_with (first
      | (refine ⟨trivial, ?_⟩; gi_at_call 46; refine (callsIn_wide.2 HCK.out).mono ?_; rintro e w1 ⟨rfl, hb1⟩; have HB1 := Lib.hid hb1; have c1 := (old_of HB1.out).1; clear hb1)
      | (refine ⟨trivial, ?_⟩; gi_at_call 118; refine (callsIn_wide.2 (pairs_any _ _ _ _)).mono ?_; rintro e w' ⟨rfl, hw2⟩; rw [hw2]; clear hw2 w'; obtain ⟨w2, hw2, HB2, hsz2, hblk2⟩ := box1 w1 (.cells #[.slice a1 B.nv z1, .slice a2 B.ns z2, .slice a3 B.D.n z3] 26); rw [hw2]; clear hw2))
    clear c1
    have HB12 : Hid (Below ws.heap.size ws w2) := Lib.hid (bel HB1.out HB2.out)
    have HROW : Hid (w2.heap[w.heap.size + 1]? = some (.cells #[.int .i64 0] 30)) := (HB12.out.block _ hsz1).trans k1
    have hw1s : ws.heap.size ≤ w1.heap.size := HB1.out.size
    have HBK := Lib.hid (HB.out.go (fin HBs.out HB12.out))
    have hnv5 := HG.out.nv
    have hseq := pairs1_seq 2 (by omega) w1.heap.size N B (fun k => k < w2.heap.size ∧ k ≠ w.heap.size + 1) (Kept fun k => k < w2.heap.size ∧ k ≠ w.heap.size + 1) (fun _ _ h => h) w2 a1 a2 a3 z1 z2 z3 hblk2 HBK.out
      (fun k hk => ⟨by have := HBK.out.1; omega, by omega⟩) ⟨hsz2, by omega⟩ (fun k hk => hk.1) HG.out
    have HSEQ := Lib.hid hseq
    have K0 := Lib.hid k0
    clear hseq k0 k1 hblk2 q0 q1 q2 hws
    refine rangeL (w := w2) rfl (by omega) (gf := 143) (lb := #[.pointer (some ⟨w1.heap.size, 0, none⟩)]) rfl trivial (enters_of Try.func143 (by kernel_rfl) rfl) HSEQ.out
      (fun h k => Kept.trans h k) (fun W l o o' hl _ _ k hk => World.putObj_heap_other (by omega)) (Below.refl _ _) (fun _ => rfl) new_cells
      (fun pre W => BoxI w2 (w.heap.size + 1) (w.heap.size + 1) 30 (fun _ : List Nat => #[.int .i64 0]) pre W ∧ ∀ d, d ∈ pre → many d ≠ 0)
      (fun c pre W => c = .ret ∧ BoxI w2 (w.heap.size + 1) (w.heap.size + 1) 30 (fun _ : List Nat => #[.int .i64 3]) pre W ∧ diffB B = false)
      (fun s A l o o' h hl hA ho => ⟨BoxI.rec' (by omega) (by omega) s A l o o' h.1 hl hA ho, h.2⟩) (fun c s A l o o' h hl hA ho => ⟨h.1, BoxI.rec' (by omega) (by omega) s A l o o' h.2.1 hl hA ho, h.2.2⟩) (fun _ _ _ _ _ h _ _ _ => h)
      (fun W s A C hW hs hk => ⟨BoxI.new hs.1 (by have := hs.1.size; omega) hk, hs.2⟩) (fun W c s A C hW hs hk => ⟨hs.1, BoxI.new hs.2.1 (by have := hs.2.1.size; omega) hk, hs.2.2⟩) (fun s A o hs => ⟨BoxI.new hs.1 (by have := hs.1.size; omega) (World.grownBy_alloc _ _ _), hs.2⟩) ⟨⟨HROW.out, Below.refl _ _⟩, fun d hd => by cases hd⟩ (fun W => Kept.refl _ W)
      (fun d => { tmps := #[.agg #[.slice a1 B.nv z1, .slice a2 B.ns z2, .slice a3 B.D.n z3], .pointer (some ⟨w.heap.size, 0, none⟩), .pointer (some ⟨w.heap.size + 1, 0, none⟩), .int .i64 0, .int .u64 (d : Nat), .agg #[.slice a1 B.nv z1, .slice a2 B.ns z2, .slice a3 B.D.n z3], .int .i64 0, .int .i64 0, .bool false, undef, .agg #[.slice a1 B.nv z1, .slice a2 B.ns z2, .slice a3 B.D.n z3], .func (.func 143) #[] #[.pointer (some ⟨w1.heap.size, 0, none⟩)], .int .u64 (d : Nat), undef, undef, undef], defers := [] })
      ?assign ?body ?done ?stop
    case assign =>
      intro l x W K hK
      gi_wp2
      exact hK
    case body =>
      intro l pre d W hl hrec hs hd _
      obtain ⟨hbx, hpre⟩ := hs
      have hc := hbx.cell 0 rfl
      have hf := hbx.free 0
      have HBX := Lib.hid hbx
      have HPRE := Lib.hid hpre
      have HMD := Lib.hid (setMany_any d (pairsL_lt hnv5 hd) W)
      have HDM := Lib.hid hd
      clear hbx hpre hd
      by_cases hm : many d = 0
      · have hme : ((many d : Int) == 0) = true := by rw [hm]; rfl
        have HD : Hid (diffB B = false) := by
          unfold Hid
          rw [Bool.eq_false_iff]
          intro e
          exact (diffB_iff hnv5).1 e d HDM.out hm
        clear hm
        gi_wp2_with (refine ⟨trivial, ?_⟩; gi_at_call 111; refine (CallsIn.inRound l (callsIn_wide.2 HMD.out)).mono ?_; rintro e w' ⟨rfl, hw3⟩; rw [hw3]; clear hw3 w')
        exact ⟨(KeepsOthers.setCell _ _ _).from _, rfl, (HBX.out.store (s' := pre ++ [d]) (f := fun _ : List Nat => #[.int .i64 0]) (Nat.le_refl _) 0 (.int .i64 0) rfl).1 |> fun h9 => ⟨by
          show (W.heap.modify (w.heap.size + 1) _)[w.heap.size + 1]? = _
          rw [Array.getElem?_modify]
          simp [HBX.out.1], HBX.out.2.trans ((Below.refl _ _).setCell (p := ⟨w.heap.size + 1, 0, none⟩) (Nat.le_refl _) _)⟩, HD.out⟩
      · have hme : ((many d : Int) == 0) = false := by rw [beq_eq_false_iff_ne]; intro e; exact hm (by omega)
        have HMM := Lib.hid hm
        clear hm
        gi_wp2_with (refine ⟨trivial, ?_⟩; gi_at_call 111; refine (CallsIn.inRound l (callsIn_wide.2 HMD.out)).mono ?_; rintro e w' ⟨rfl, hw3⟩; rw [hw3]; clear hw3 w')
        refine ⟨KeepsFrom.refl _ _, Kept.refl _ _, ⟨HBX.out.1, HBX.out.2⟩, fun x hx => ?_⟩
        rcases List.mem_append.1 hx with h | h
        · exact HPRE.out x h
        · rw [List.mem_singleton.1 h]; exact HMM.out
    case done =>
      rintro D ys W hD rfl ⟨hs, hall⟩ hK
      have hc := hs.cell 0 rfl
      have hf := hs.free 0
      have HD : Hid (diffB B = true) := (diffB_iff hnv5).2 hall
      gi_wp2
      have hrc : w.heap.size + 1 < w2.heap.size := by omega
      have hK' : (W.setCell ⟨w.heap.size + 1, 0, none⟩ (.int .i64 0)).heap[D]? = some (.deferred (some [])) := (Below.heap_setCell _ _ _ _ (by show D ≠ w.heap.size + 1; omega)).trans hK
      refine ⟨by simp, .inl ⟨_, _, rfl, run_takeDeferred hK', ?_⟩⟩
      have hcell := (World.cell?_of_block (a := ⟨w.heap.size + 1, 0, none⟩) (World.putObj_heap_other (w := W.setCell ⟨w.heap.size + 1, 0, none⟩ (.int .i64 0)) (o := .deferred none) (show w.heap.size + 1 ≠ D by omega))).trans (World.cell?_setCell_same _ _ _ hc)
      exact ⟨_, cad_result _ _ (w.heap.size + 1) 0 rfl hcell, by rw [HE.out, HD.out]; rfl,
        (((fin HBs.out HB12.out).trans (hs.2.mono (Nat.le_succ _))).trans ((Below.refl _ _).setCell (p := ⟨w.heap.size + 1, 0, none⟩) (Nat.le_succ _) _)).trans (belowK_b (w := w) (Nat.le_refl _) _ D _ _ (by omega) hK' rfl rfl)⟩
    case stop =>
      rintro D c pre W hD _ ⟨rfl, hs, hd⟩ hK
      have hc := hs.cell 0 rfl
      gi_wp2
      have hrc : w.heap.size + 1 < w2.heap.size := by omega
      refine ⟨by simp, .inl ⟨_, _, rfl, run_takeDeferred hK, ?_⟩⟩
      have hcell := (World.cell?_of_block (a := ⟨w.heap.size + 1, 0, none⟩) (World.putObj_heap_other (w := W) (o := .deferred none) (show w.heap.size + 1 ≠ D by omega))).trans hc
      exact ⟨_, cad_result _ _ (w.heap.size + 1) 3 rfl hcell, by rw [HE.out, hd]; rfl,
        ((fin HBs.out HB12.out).trans (hs.2.mono (Nat.le_succ _))).trans (belowK_b (w := w) (Nat.le_refl _) _ D _ _ (by omega) hK rfl rfl)⟩

end Go.Proofs.Ytbieglmpkljjjaa

namespace Go.Proofs.Ytbieglmpkljjjaa
open Go.RowKit Go.Maps

theorem below_of_grown {w w' : World} {b N : Nat} (hg : w.grownBy w' (some b)) (hN : N ≤ w.heap.size) (hb : N ≤ b) : Below N w w' :=
  ⟨hg.os, hg.tape, hg.output, hg.size, fun k hk => hg.block k (by omega) (by intro e; injection e with e; omega)⟩

theorem mems_all {n : Nat} (hn : n ≤ 8) : mems (setF (fun _ => true) n) = List.range n := by
  have h := setF_spec (fun _ => true) n hn
  unfold mems
  have e : (List.range 8).filter (fun i => (setF (fun _ => true) n).testBit i) = (List.range 8).filter (fun i => decide (i < n)) := List.filter_congr fun i _ => by rw [h.2, Bool.and_true]
  rw [e]
  have : ∀ k, k ≤ 8 → n ≤ k → (List.range k).filter (fun i => decide (i < n)) = List.range n := by
    intro k
    induction k with
    | zero => intro _ h; rw [show n = 0 by omega]; rfl
    | succ k ih =>
      intro hk hnk
      rw [List.range_succ, List.filter_append]
      by_cases e : n = k + 1
      · subst e
        have : (List.range k).filter (fun i => decide (i < k + 1)) = List.range k := List.filter_eq_self.2 fun i hi => by have := List.mem_range.1 hi; simp; omega
        rw [this, List.range_succ]; simp
      · rw [ih (by omega) (by omega)]
        simp; omega
  exact this 8 (Nat.le_refl _) hn
theorem allOk {B : KB} (hG : GoodB B) (hd : diffB B = true) : SetOk B (setF (fun _ => true) B.ns) := by
  refine ⟨(setF_spec _ _ hG.ns).1, fun i hi => ?_, ?_⟩
  · rw [mems_all hG.ns] at hi; exact List.mem_range.1 hi
  · rw [mems_all hG.ns]
    intro i j hij hj
    rw [List.length_range] at hj
    have h1 := of_decide_eq_true (allB_true.1 (allB_true.1 hd j hj) i hij)
    obtain ⟨m, hm⟩ := List.exists_mem_of_length_pos (Nat.pos_of_ne_zero h1)
    unfold apartL at hm
    obtain ⟨hm1, hm2⟩ := List.mem_filter.1 hm
    refine ⟨m, List.mem_range.1 hm1, ?_⟩
    have e1 : (List.range B.ns).getD i 0 = i := by simp [List.getD, show i < B.ns by omega]
    have e2 : (List.range B.ns).getD j 0 = j := by simp [List.getD, hj]
    rw [e1, e2]
    exact fun e => (of_decide_eq_true hm2) e.symm
theorem costK_all {B : KB} (hG : GoodB B) (mean : Bool) : costK B mean (setF (fun _ => true) B.ns) = leastL B mean 8 (List.range B.ns) := by unfold costK; rw [mems_all hG.ns]

/-- behind searchNames -/
theorem sea_env {B : KB} {mean : Bool} {N bk : Nat} {a1 a2 a3 : Option Addr} {z1 z2 z3 : Nat} {w2 W' : World} (hN : N ≤ bk) (hbk : w2.heap[bk]? = some (.cells #[.slice a1 B.nv z1, .slice a2 B.ns z2, .slice a3 B.D.n z3] 26)) (hmp : w2.heap[bk + 2]? = some (.map #[] 0))
    (hB : BookAt N w2 (.agg #[.slice a1 B.nv z1, .slice a2 B.ns z2, .slice a3 B.D.n z3]) B) (hb : Below w2.heap.size w2 W') : SEnv B bk (bk + 2) N W' ∧ FoundAt B mean (bk + 2) 0 W' := by
  refine ⟨⟨⟨a1, z1, a2, z2, a3, z3, (hb.block bk (heap_lt hbk)).trans hbk, hB.go hb⟩, by omega, by omega⟩, .map [], ?_, fun s _ hh => ?_⟩
  · obtain ⟨es, cl, h1, F, h3, h4⟩ := World.ownsMap_made (H := Unit) w2 Try.prog 104 (plainElem Try.prog 3)
    rw [World.alloc_heap_new] at h1
    cases h1
    exact ⟨#[], 0, (hb.block _ (heap_lt hmp)).trans hmp, F, h3, h4⟩
  · simp [has] at hh

set_option maxRecDepth 100000 in
set_option maxHeartbeats 1600000 in
theorem kBest_any (N : Nat) (v : Value) (B : KB) (w : World) (h : BookAt N w v B) :
    Calls Try.prog 32 #[v] w fun e w' => e = .returned (.tuple #[.int .i64 (eLeast B false).1, .int .i64 (eLeast B false).2]) ∧ Below w.heap.size w w' := by
  have h' := h
  obtain ⟨_, a1, z1, a2, z2, a3, z3, rfl, _⟩ := h'
  obtain ⟨ws, hws, HB, hsz, hblk⟩ := box1 w (.cells #[.slice a1 B.nv z1, .slice a2 B.ns z2, .slice a3 B.D.n z3] 26)
  have q0 := cell_blk hblk 0 rfl
  have q1 := cell_blk hblk 1 rfl
  have q2 := cell_blk hblk 2 rfl
  have HBK := Lib.hid (h.go HB.out)
  have HB0 : Hid (Below ws.heap.size ws ws) := Below.refl _ _
  have HNS : Hid (N ≤ ws.heap.size) := HBK.out.1
  have hlens := h.lens
  obtain ⟨hlv, hls, hln⟩ := hlens
  clear hblk h
  cases hv : okKB B with
  | false =>
    have HA : Hid (eDiff B = 20) := by unfold Hid eDiff; rw [hv]; rfl
    have HE : Hid (eLeast B false = (0, 20)) := by unfold Hid eLeast; rw [hv]; rfl
    clear hv
    go_enter Try.func32, Try.ntmps32
    go_wp2_with (go_at_call 80; refine (cad_any N _ B _ (HBK.out.go HB0.out)).mono ?_; rintro e w1 ⟨rfl, hb1⟩; rw [HA.out]; (try clear c0); have HB1 := Lib.hid (bel HB0.out hb1); have c1 := (old_of HB1.out).1; clear hb1)
    go_ret2
    exact ⟨by rw [HE.out]; rfl, fin HB.out HB1.out⟩
  | true =>
    cases hd : diffB B with
    | false =>
      have HA : Hid (eDiff B = 3) := by unfold Hid eDiff; rw [hv, hd]; rfl
      have HE : Hid (eLeast B false = (0, 3)) := by unfold Hid eLeast; rw [hv, hd]; rfl
      clear hv hd
      go_enter Try.func32, Try.ntmps32
      go_wp2_with (go_at_call 80; refine (cad_any N _ B _ (HBK.out.go HB0.out)).mono ?_; rintro e w1 ⟨rfl, hb1⟩; rw [HA.out]; (try clear c0); have HB1 := Lib.hid (bel HB0.out hb1); have c1 := (old_of HB1.out).1; clear hb1)
      go_ret2
      exact ⟨by rw [HE.out]; rfl, fin HB.out HB1.out⟩
    | true =>
      have HA : Hid (eDiff B = 0) := by unfold Hid eDiff; rw [hv, hd]; rfl
      have HE : Hid (eLeast B false = (leastL B false 8 (List.range B.ns), 0)) := by unfold Hid eLeast; rw [hv, hd]; rfl
      have HG := Lib.hid (goodB hv)
      have hns8 := (goodB hv).ns
      have hnv5 := (goodB hv).nv
      have HOK := Lib.hid (allOk (goodB hv) hd)
      have HCK := Lib.hid (costK_all (goodB hv) false)
      have HLM := Lib.hid (mems_len (setF (fun _ => true) B.ns))
      clear hv hd
      go_enter Try.func32, Try.ntmps32
      go_wp2_with (go_at_call 80; refine (cad_any N _ B _ (HBK.out.go HB0.out)).mono ?_; rintro e w1 ⟨rfl, hb1⟩; rw [HA.out]; (try clear c0); have HB1 := Lib.hid (bel HB0.out hb1); have c1 := (old_of HB1.out).1; clear hb1)
      clear hws
      have S1d := old_of HB1.out.drew; have HB1d := S1d.2
      have hsz1d := HB1.out.size
      go_region_held3 (fun w' => (∀ b o, b < ws.heap.size → w'.cell? ⟨b, o, none⟩ = ws.cell? ⟨b, o, none⟩) ∧ Hid (Below ws.heap.size ws w')) (first | assumption | (refine old_of (Hid.out ?_); assumption)) (first
        | (go_at_call 81; refine (searchNames_any _ _ _ _ _ _ _ _ _ _ _ hnv5).mono ?_; rintro e w2 ⟨rfl, hbk, hmp, hb2⟩; have HB2 : Hid (Below ws.heap.size ws w2) := Lib.hid (bel (Hid.out (by assumption)) hb2); have HSE := Lib.hid (fun W' hb => sea_env (mean := false) (W' := W') (Nat.le_trans HBK.out.1 (Hid.out (by assumption) : Below ws.heap.size ws _).size) hbk hmp (HBK.out.go HB2.out) hb); clear hbk hmp hb2)
        | (go_at_call 84; refine (allSorts_any N _ B _ (HBK.out.go (Hid.out (by assumption))) hns8).mono ?_; rintro e w3 ⟨rfl, hb3⟩; have HB3 : Hid (Below ws.heap.size ws w3) := Lib.hid (bel (Hid.out (by assumption)) hb3); have HB3n := Lib.hid hb3; clear hb3)
        | (go_at_call 83; refine (least_worst B HG.out _ _ N 8 _ 0 _ HOK.out HLM.out (HSE.out _ HB3n.out).1 (HSE.out _ HB3n.out).2 (by decide)).mono ?_; rintro e w4 ⟨rfl, _, hg4⟩; rw [HCK.out]; have HB4 : Hid (Below ws.heap.size ws w4) := Lib.hid (HB3.out.trans (below_of_grown hg4 HB3.out.size (by (try simp only [World.size_drew]); omega))); clear hg4))
      go_wp2
      go_ret2
      exact ⟨by rw [HE.out]; rfl, fin HB.out HB4.out⟩

set_option maxRecDepth 100000 in
set_option maxHeartbeats 1600000 in
theorem kMean_any (N : Nat) (v : Value) (B : KB) (w : World) (h : BookAt N w v B) :
    Calls Try.prog 33 #[v] w fun e w' => e = .returned (.tuple #[.int .i64 (eLeast B true).1, .int .i64 (eLeast B true).2]) ∧ Below w.heap.size w w' := by
  have h' := h
  obtain ⟨_, a1, z1, a2, z2, a3, z3, rfl, _⟩ := h'
  obtain ⟨ws, hws, HB, hsz, hblk⟩ := box1 w (.cells #[.slice a1 B.nv z1, .slice a2 B.ns z2, .slice a3 B.D.n z3] 26)
  have q0 := cell_blk hblk 0 rfl
  have q1 := cell_blk hblk 1 rfl
  have q2 := cell_blk hblk 2 rfl
  have HBK := Lib.hid (h.go HB.out)
  have HB0 : Hid (Below ws.heap.size ws ws) := Below.refl _ _
  have HNS : Hid (N ≤ ws.heap.size) := HBK.out.1
  have hlens := h.lens
  obtain ⟨hlv, hls, hln⟩ := hlens
  clear hblk h
  cases hv : okKB B with
  | false =>
    have HA : Hid (eDiff B = 20) := by unfold Hid eDiff; rw [hv]; rfl
    have HE : Hid (eLeast B true = (0, 20)) := by unfold Hid eLeast; rw [hv]; rfl
    clear hv
    go_enter Try.func33, Try.ntmps33
    go_wp2_with (go_at_call 80; refine (cad_any N _ B _ (HBK.out.go HB0.out)).mono ?_; rintro e w1 ⟨rfl, hb1⟩; rw [HA.out]; (try clear c0); have HB1 := Lib.hid (bel HB0.out hb1); have c1 := (old_of HB1.out).1; clear hb1)
    go_ret2
    exact ⟨by rw [HE.out]; rfl, fin HB.out HB1.out⟩
  | true =>
    cases hd : diffB B with
    | false =>
      have HA : Hid (eDiff B = 3) := by unfold Hid eDiff; rw [hv, hd]; rfl
      have HE : Hid (eLeast B true = (0, 3)) := by unfold Hid eLeast; rw [hv, hd]; rfl
      clear hv hd
      go_enter Try.func33, Try.ntmps33
      go_wp2_with (go_at_call 80; refine (cad_any N _ B _ (HBK.out.go HB0.out)).mono ?_; rintro e w1 ⟨rfl, hb1⟩; rw [HA.out]; (try clear c0); have HB1 := Lib.hid (bel HB0.out hb1); have c1 := (old_of HB1.out).1; clear hb1)
      go_ret2
      exact ⟨by rw [HE.out]; rfl, fin HB.out HB1.out⟩
    | true =>
      have HA : Hid (eDiff B = 0) := by unfold Hid eDiff; rw [hv, hd]; rfl
      have HE : Hid (eLeast B true = (leastL B true 8 (List.range B.ns), 0)) := by unfold Hid eLeast; rw [hv, hd]; rfl
      have HG := Lib.hid (goodB hv)
      have hns8 := (goodB hv).ns
      have hnv5 := (goodB hv).nv
      have HOK := Lib.hid (allOk (goodB hv) hd)
      have HCK := Lib.hid (costK_all (goodB hv) true)
      have HLM := Lib.hid (mems_len (setF (fun _ => true) B.ns))
      clear hv hd
      go_enter Try.func33, Try.ntmps33
      go_wp2_with (go_at_call 80; refine (cad_any N _ B _ (HBK.out.go HB0.out)).mono ?_; rintro e w1 ⟨rfl, hb1⟩; rw [HA.out]; (try clear c0); have HB1 := Lib.hid (bel HB0.out hb1); have c1 := (old_of HB1.out).1; clear hb1)
      clear hws
      have S1d := old_of HB1.out.drew; have HB1d := S1d.2
      have hsz1d := HB1.out.size
      go_region_held3 (fun w' => (∀ b o, b < ws.heap.size → w'.cell? ⟨b, o, none⟩ = ws.cell? ⟨b, o, none⟩) ∧ Hid (Below ws.heap.size ws w')) (first | assumption | (refine old_of (Hid.out ?_); assumption)) (first
        | (go_at_call 81; refine (searchNames_any _ _ _ _ _ _ _ _ _ _ _ hnv5).mono ?_; rintro e w2 ⟨rfl, hbk, hmp, hb2⟩; have HB2 : Hid (Below ws.heap.size ws w2) := Lib.hid (bel (Hid.out (by assumption)) hb2); have HSE := Lib.hid (fun W' hb => sea_env (mean := true) (W' := W') (Nat.le_trans HBK.out.1 (Hid.out (by assumption) : Below ws.heap.size ws _).size) hbk hmp (HBK.out.go HB2.out) hb); clear hbk hmp hb2)
        | (go_at_call 84; refine (allSorts_any N _ B _ (HBK.out.go (Hid.out (by assumption))) hns8).mono ?_; rintro e w3 ⟨rfl, hb3⟩; have HB3 : Hid (Below ws.heap.size ws w3) := Lib.hid (bel (Hid.out (by assumption)) hb3); have HB3n := Lib.hid hb3; clear hb3)
        | (go_at_call 83; refine (least_total B HG.out _ _ N 8 _ 0 _ HOK.out HLM.out (HSE.out _ HB3n.out).1 (HSE.out _ HB3n.out).2 (by decide)).mono ?_; rintro e w4 ⟨rfl, _, hg4⟩; rw [HCK.out]; have HB4 : Hid (Below ws.heap.size ws w4) := Lib.hid (HB3.out.trans (below_of_grown hg4 HB3.out.size (by (try simp only [World.size_drew]); omega))); clear hg4))
      go_wp2
      go_ret2
      exact ⟨by rw [HE.out]; rfl, fin HB.out HB4.out⟩

end Go.Proofs.Ytbieglmpkljjjaa
