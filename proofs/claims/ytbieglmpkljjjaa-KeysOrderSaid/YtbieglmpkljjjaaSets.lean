/-
  Sets: groups of sorts as sets.
-/
import Derived.Test.YtbieglmpkljjjaaLeast
namespace Go.Proofs.Ytbieglmpkljjjaa
open Go.RowKit

/-- the set of the numbers below 8 with p -/
def setF (p : Nat → Bool) : Nat → Nat
  | 0 => 0
  | k + 1 => if p k then put1 (setF p k) k else setF p k
theorem setF_spec (p : Nat → Bool) : ∀ k, k ≤ 8 → setF p k < 256 ∧ ∀ i, (setF p k).testBit i = (decide (i < k) && p i) := by
  intro k
  induction k with
  | zero => intro _; exact ⟨by simp [setF], fun i => by simp [setF]⟩
  | succ k ih =>
    intro hk
    obtain ⟨h1, h2⟩ := ih (by omega)
    simp only [setF]
    cases hp : p k with
    | true =>
      simp only [if_true]
      refine ⟨put1_lt h1 (by omega), fun i => ?_⟩
      rw [put1_bit, h2, Bool.eq_iff_iff]
      simp only [Bool.or_eq_true, Bool.and_eq_true, decide_eq_true_eq]
      constructor
      · rintro (⟨a, b⟩ | rfl)
        · exact ⟨by omega, b⟩
        · exact ⟨by omega, hp⟩
      · rintro ⟨a, b⟩
        by_cases e : k = i
        · exact .inr e
        · exact .inl ⟨by omega, b⟩
    | false =>
      simp only [Bool.false_eq_true, if_false]
      refine ⟨h1, fun i => ?_⟩
      rw [h2, Bool.eq_iff_iff]
      simp only [Bool.and_eq_true, decide_eq_true_eq]
      constructor
      · rintro ⟨a, b⟩; exact ⟨by omega, b⟩
      · rintro ⟨a, b⟩
        refine ⟨?_, b⟩
        rcases Nat.lt_succ_iff_lt_or_eq.1 a with h | h
        · exact h
        · subst h; rw [hp] at b; cases b

/-- the members of a set -/
def mems (s : Nat) : List Nat := (List.range 8).filter fun i => s.testBit i
theorem mems_elems (s : Nat) : ints (mems s) = elems s := by
  unfold mems elems
  have : ∀ k, ints ((List.range k).filter fun i => s.testBit i) = sel (fun i => s.testBit i) k := by
    intro k
    induction k with
    | zero => rfl
    | succ k ih =>
      rw [List.range_succ, List.filter_append]
      cases hp : s.testBit k with
      | true => rw [sel_hit hp, ← ih]; simp only [List.filter_cons, List.filter_nil, hp, if_true]; exact ints_snoc _ _
      | false => rw [sel_miss hp, ← ih]; simp only [List.filter_cons, List.filter_nil, hp]; simp
  exact this 8
theorem many_mems (s : Nat) : many s = (mems s).length := by
  unfold many mems
  have : ∀ k, cnt k (fun i => s.testBit i) = ((List.range k).filter fun i => s.testBit i).length := by
    intro k
    induction k with
    | zero => rfl
    | succ k ih =>
      rw [List.range_succ, List.filter_append, List.length_append, ← ih]
      simp only [cnt]
      by_cases hp : s.testBit k = true
      · rw [if_pos hp, List.filter_cons, if_pos hp]; rfl
      · rw [if_neg hp, List.filter_cons, if_neg hp]; rfl
  exact this 8
theorem mems_mem {s i : Nat} (hs : s < 256) : i ∈ mems s ↔ s.testBit i = true := by
  unfold mems
  rw [List.mem_filter, List.mem_range]
  refine ⟨fun h => h.2, fun h => ⟨?_, h⟩⟩
  by_cases h8 : i < 8
  · exact h8
  · exfalso
    rw [Nat.testBit_lt_two_pow (x := s) (Nat.lt_of_lt_of_le hs (by have := Nat.pow_le_pow_right (n := 2) (by omega) (Nat.le_of_not_lt h8); simpa using this))] at h
    cases h
theorem mems_len (s : Nat) : (mems s).length ≤ 8 := by
  unfold mems
  refine Nat.le_trans (List.length_filter_le _ _) ?_; simp

/-- the part of s that has the value y of the mark m -/
def partF (B : KB) (s m : Nat) (y : Int) : Nat := setF (fun i => s.testBit i && decide (B.X i m = y)) 8
theorem partF_lt (B : KB) (s m : Nat) (y : Int) : partF B s m y < 256 := (setF_spec _ 8 (Nat.le_refl _)).1
theorem partF_bit (B : KB) (s m : Nat) (y : Int) {i : Nat} (hi : i < 8) : (partF B s m y).testBit i = (s.testBit i && decide (B.X i m = y)) := by
  unfold partF; rw [(setF_spec _ 8 (Nat.le_refl _)).2, decide_eq_true hi, Bool.true_and]
theorem mems_part (B : KB) (s m : Nat) (y : Int) : mems (partF B s m y) = havL B (mems s) m y := by
  unfold mems havL
  rw [List.filter_filter]
  refine List.filter_congr fun i hi => ?_
  rw [partF_bit B s m y (List.mem_range.1 hi), Bool.and_comm]

set_option maxHeartbeats 1600000 in
theorem allSorts_any (N : Nat) (v : Value) (B : KB) (w : World) (h : BookAt N w v B) (h8 : B.ns ≤ 8) :
    Calls Try.prog 84 #[v] w fun e w' => e = .returned (.int .u64 (setF (fun _ => true) B.ns : Nat)) ∧ Below w.heap.size w w' := by
  have h' := h
  obtain ⟨_, a1, z1, a2, z2, a3, z3, rfl, _⟩ := h'
  obtain ⟨ws, hws, HB, hsz, hblk⟩ := box1 w (.cells #[.slice a1 B.nv z1, .slice a2 B.ns z2, .slice a3 B.D.n z3] 26)
  have q0 := cell_blk hblk 0 rfl
  have q1 := cell_blk hblk 1 rfl
  have q2 := cell_blk hblk 2 rfl
  have HBK := Lib.hid (h.go HB.out)
  have HB0 : Hid (Below ws.heap.size ws ws) := Below.refl _ _
  have HNS : Hid (N ≤ ws.heap.size) := HBK.out.1
  have hlens := h.lens
  obtain ⟨hlv, hls, hln⟩ := hlens
  clear hblk h
  go_enter Try.func84, Try.ntmps84
  go_wp2
  clear hws
  go_loop [3, 8] (fun t i => ∃ k : Nat, k ≤ B.ns ∧ i = .int .i64 k ∧ t = .int .u64 (setF (fun _ => true) k : Nat)) (fun _ i => B.ns - (intOf i).toNat)
  case atStart => exact ⟨0, Nat.zero_le _, rfl, rfl⟩
  case round =>
    obtain ⟨k, hk, rfl, rfl⟩ := hrel
    by_cases hkn : k < B.ns
    · have hki : (k : Int) < (B.ns : Int) := by omega
      have HL := Lib.hid (setF_spec (fun _ => true) k (by omega)).1
      have HP : Hid (setF (fun _ => true) (k + 1) = put1 (setF (fun _ => true) k) k) := rfl
      have hk8 : k < 8 := by omega
      generalize setF (fun _ => true) k = s at *
      go_wp2_with (go_at_call 110; refine (setWith_any s k HL.out hk8 _).mono ?_; rintro e wq ⟨rfl, hwq⟩; rw [hwq]; clear hwq wq)
      go_round
      case rel => exact ⟨k + 1, by omega, by go_num, by rw [HP.out]⟩
      case measure => simp [intOf]; omega
    · have HK : Hid (k = B.ns) := by unfold Hid; omega
      go_wp2
      go_ret
      exact ⟨by rw [HK.out]; rfl, HB.out⟩

theorem own_cells {N : Nat} {w : World} {a : Option Addr} {n c : Nat} {l : List Int} (h : OwnI N w (.slice a n c) l) (h0 : 0 < l.length) : ∃ g, a = some ⟨g, 0, none⟩ ∧ N ≤ g ∧ g < w.heap.size ∧ ∀ i, i < l.length → w.cell? ⟨g, i, none⟩ = some (.int .i64 (l.getD i 0)) := by
  obtain ⟨_, ⟨e, h1⟩ | ⟨g, c', cur, e, h2, h3, _, _, _, h4⟩⟩ := h
  · omega
  · cases e
    refine ⟨g, rfl, h2, heap_lt h3, fun i hi => cell_blk h3 i ?_⟩
    have e : (cur.toList.take (l.length * 1))[i]? = some (.int .i64 (l.getD i 0)) := by
      rw [h4, List.getElem?_map, List.getElem?_eq_getElem hi]; simp [List.getD, hi]
    rw [List.getElem?_take, if_pos (by omega)] at e
    simpa using e

/-- v is a list of the sets f, in a block of its own -/
def SetsIn (base : Nat) (w : World) (v : Value) (n : Nat) (f : Nat → Nat) : Prop := ∃ g, v = .slice (some ⟨g, 0, none⟩) n n ∧ base ≤ g ∧ RowAt w g n (u64F f)

theorem RowAt.lt {w : World} {g n : Nat} {f : Nat → Value} (h : RowAt w g n f) (hn : 0 < n) : g < w.heap.size := by
  obtain ⟨ob, hob, _⟩ := cells_of_cell (h 0 hn).1
  exact heap_lt hob

theorem updV_u64 (P : Nat → Nat) (y v : Nat) : updV (u64F P) y (.int .u64 (v : Nat)) = u64F (fun i => if i = y then v else P i) := by
  funext i
  by_cases e : i = y
  · subst e; simp only [updV, u64F, if_true]
  · simp only [updV, u64F, e, if_false]

set_option maxRecDepth 100000 in
set_option maxHeartbeats 3200000 in
theorem partSorts_any (N : Nat) (v : Value) (B : KB) (s m : Nat) (w : World) (h : BookAt N w v B) (hG : GoodB B) (hs : s < 256) (hS : ∀ i, i ∈ mems s → i < B.ns) (hm : m < B.nv) :
    Calls Try.prog 121 #[v, .int .u64 s, .int .i64 m] w fun e w' => ∃ v', e = .returned v' ∧ SetsIn w.heap.size w' v' (B.V m).toNat (fun y => partF B s m y) ∧ Below w.heap.size w w' := by
  have h' := h
  obtain ⟨_, a1, z1, a2, z2, a3, z3, rfl, _⟩ := h'
  obtain ⟨ws, hws, HB, hsz, hblk⟩ := box1 w (.cells #[.slice a1 B.nv z1, .slice a2 B.ns z2, .slice a3 B.D.n z3] 26)
  have q0 := cell_blk hblk 0 rfl
  have q1 := cell_blk hblk 1 rfl
  have q2 := cell_blk hblk 2 rfl
  have HBK := Lib.hid (h.go HB.out)
  have HB0 : Hid (Below ws.heap.size ws ws) := Below.refl _ _
  have HNS : Hid (N ≤ ws.heap.size) := HBK.out.1
  have hlens := h.lens
  obtain ⟨hlv, hls, hln⟩ := hlens
  clear hblk h
  have hmi : (m : Int) < (B.nv : Int) := by omega
  have HG := Lib.hid hG
  have HS := Lib.hid hs
  have HSS := Lib.hid hS
  have hV := hG.V m hm
  obtain ⟨q, hq⟩ : ∃ q : Nat, B.V m = q := ⟨(B.V m).toNat, by omega⟩
  obtain ⟨bv, ov, rfl, hbv, hrv⟩ := HBK.out.vals.cells (by omega)
  have hcv := hrv m hm
  have hbvs : bv < ws.heap.size := Nat.lt_of_lt_of_le hbv HNS.out
  have HQ := Lib.hid hq
  rw [hq] at hcv hV
  have hq3 : q ≤ 3 := by omega
  have hq0 : (0 : Int) ≤ (q : Int) := by omega
  clear hG hs hS hrv hq
  have hmk := run_make_row' (P := Try.prog) 129 104 (.int .u64 0) 8 Try.underlying129 Try.infoSet rfl .i64 .i64 q (by omega) (by omega)
  have HLI := Lib.hid (fun wk => setList_any s HS.out wk)
  go_enter Try.func121, Try.ntmps121
  go_wp2_with (go_at_call 91; obtain ⟨wa, hwa, HBa, hsza, hblka⟩ := box1 ws (.cells (madeCells #[.int .u64 0] q) 104); rw [hwa]; refine (HLI.out _).mono ?_; rintro e w1 ⟨vl, rfl, hol, hbl⟩; obtain ⟨al, cl, rfl⟩ := own_form hol)
  have hwas : wa.heap.size = ws.heap.size + 1 := by rw [← hwa]; simp
  clear hwa hmk
  have hL8 : (elems s).length ≤ 8 := by rw [← mems_elems, ints_len]; exact mems_len s
  have hLM : (elems s).length = (mems s).length := by rw [← mems_elems, ints_len]
  have HLM := Lib.hid hLM
  have HOL := Lib.hid hol
  have hgP : ws.heap.size < w1.heap.size := by have := hbl.size; omega
  have HROW0 : Hid (RowAt w1 ws.heap.size q (u64F fun _ => 0)) := made_row ((hbl.block _ (by omega)).trans hblka)
  have HB1 : Hid (Below ws.heap.size ws w1) := Lib.hid (bel HBa.out hbl)
  obtain ⟨L, hLe⟩ : ∃ L, (elems s).length = L := ⟨_, rfl⟩
  have HLE := Lib.hid hLe
  rw [hLe] at hL8
  simp only [hLe]
  clear hLe hLM hol hbl hblka
  go_loopw [20] (fun i wr => ∃ k : Nat, k ≤ L ∧ i = .int .i64 k ∧ Hid (∃ P : Nat → Nat, (∀ y, y < q → P y < 256 ∧ ∀ i, i < 8 → (P y).testBit i = (((mems s).take k).contains i && decide (B.X i m = (y : Int)))) ∧ RowAt wr ws.heap.size q (u64F P)) ∧ Hid (∀ b o, b ≠ ws.heap.size → wr.cell? ⟨b, o, none⟩ = w1.cell? ⟨b, o, none⟩) ∧ Hid (Below ws.heap.size ws wr)) (fun i _ => L - (intOf i).toNat)
  case atStart => exact ⟨0, Nat.zero_le _, rfl, ⟨fun _ => 0, fun y hy => ⟨by show 0 < 256; omega, fun i hi => by simp⟩, HROW0.out⟩, fun _ _ _ => rfl, HB1⟩
  case round =>
    obtain ⟨k, hk, rfl, hrow, HK, HB2⟩ := hrel
    have c2 := (old_of HB2.out).1
    have hsz2 := Nat.lt_of_lt_of_le hsz HB2.out.size
    by_cases hkn : k < L
    · obtain ⟨gl, rfl, hgl, hgl2, hcl⟩ := own_cells HOL.out (by rw [HLE.out]; omega)
      obtain ⟨P, hP, hR⟩ := hrow.out
      have hck := (HK.out gl k (by omega)).trans (hcl k (by rw [HLE.out]; exact hkn))
      obtain ⟨t, ht⟩ : ∃ t, (mems s).getD k 0 = t := ⟨_, rfl⟩
      have hkm : k < (mems s).length := by rw [← HLM.out, HLE.out]; exact hkn
      have htm : t ∈ mems s := by rw [← ht]; exact getD_mem hkm
      have hte : (elems s).getD k 0 = (t : Int) := by rw [← mems_elems, ← ht]; simp [ints, List.getD, hkm]
      rw [hte] at hck
      have htn : t < B.ns := HSS.out t htm
      have ht8 : t < 8 := by have := HG.out.ns; omega
      have HT : Hid ((mems s).take (k + 1) = (mems s).take k ++ [t]) := by unfold Hid; rw [take_snoc hkm, ht]
      obtain ⟨x0, xV⟩ := (HG.out.X t htn).x m hm
      obtain ⟨y, hy⟩ : ∃ y : Nat, B.X t m = y := ⟨(B.X t m).toNat, (Int.toNat_of_nonneg x0).symm⟩
      have HY := Lib.hid hy
      rw [HQ.out, hy] at xV
      obtain ⟨b2, off2, rfl, hb2, hr2⟩ := HBK.out.sorts.cells (by omega)
      obtain ⟨ai, ci, hcell2, hints⟩ := hr2 t htn
      rw [(HG.out.X t htn).n] at hcell2 hints
      obtain ⟨bs, os, rfl, hbs, hrs⟩ := hints.cells (by omega)
      have hcx := hrs m hm
      rw [hy] at hcx
      have hbs' : bs < ws.heap.size := by have := HNS.out; omega
      have hb2' : b2 < ws.heap.size := by have := HNS.out; omega
      have hti : (t : Int) < (B.ns : Int) := by omega
      have hki : (k : Int) < (L : Int) := by omega
      have hyi : (y : Int) < (q : Int) := by omega
      have hyq : y < q := by omega
      have rk : wr.cell? ⟨ws.heap.size, y, none⟩ = some (.int .u64 (P y : Nat)) := (hR y hyq).1
      have rf := (hR y hyq).2
      have HPY := Lib.hid (hP y hyq).1
      have HPB := Lib.hid hP
      have HRR := Lib.hid hR
      have HBr := HB2.out.size
      clear hP hR hrow hr2 hints hrs hy x0 ht htm hte
      go_wp2_with (go_at_call 110; refine (setWith_any (P y) t HPY.out ht8 _).mono ?_; rintro e wq ⟨rfl, hwq⟩; rw [hwq]; clear hwq wq)
      go_roundw
      case rel =>
        refine ⟨k + 1, by omega, by go_num, ⟨fun i => if i = y then put1 (P y) t else P i, fun z hz => ?_, ?_⟩, fun b o hb => (World.cell?_setCell_far _ _ _ _ (by show ws.heap.size ≠ b; omega)).trans (HK.out b o hb), HB2.out.setCell (p := ⟨ws.heap.size, y, none⟩) (Nat.le_refl _) _⟩
        · obtain ⟨g1, g2⟩ := HPB.out z hz
          have hin : ∀ i, ((mems s).take (k + 1)).contains i = (((mems s).take k).contains i || decide (t = i)) := fun i => by
            rw [HT.out, Bool.eq_iff_iff]
            rw [List.contains_iff_mem, List.mem_append, List.mem_singleton, Bool.or_eq_true, List.contains_iff_mem, decide_eq_true_eq]
            exact or_congr Iff.rfl ⟨Eq.symm, Eq.symm⟩
          by_cases e : z = y
          · subst e
            simp only [if_true]
            refine ⟨put1_lt g1 ht8, fun i hi => ?_⟩
            rw [put1_bit, g2 i hi, hin i]
            by_cases et : t = i
            · subst et; rw [HY.out, decide_eq_true rfl, decide_eq_true rfl]; simp
            · rw [decide_eq_false et, Bool.or_false, Bool.or_false]
          · simp only [e, if_false]
            refine ⟨g1, fun i hi => ?_⟩
            rw [g2 i hi, hin i]
            by_cases et : t = i
            · subst et
              have : ¬ ((y : Int) = (z : Int)) := by omega
              rw [HY.out, decide_eq_false this]; simp
            · rw [decide_eq_false et, Bool.or_false]
        · have hr := HRR.out.set (k := y) (.int .u64 (put1 (P y) t : Nat))
          have ef : updV (u64F P) y (.int .u64 (put1 (P y) t : Nat)) = u64F (fun i => if i = y then put1 (P y) t else P i) := updV_u64 P y _
          rw [ef] at hr
          exact hr
      case measure => simp [intOf]; omega
    · have HKL : Hid (k = L) := by unfold Hid; omega
      go_wp2
      go_ret
      obtain ⟨P, hP, hR⟩ := hrow.out
      refine ⟨.slice (some ⟨ws.heap.size, 0, none⟩) q q, rfl, ⟨ws.heap.size, by rw [HQ.out]; rfl, HB.out.size, ?_⟩, fin HB.out HB2.out⟩
      rw [HQ.out, Int.toNat_natCast]
      intro y hy
      obtain ⟨h1, h2⟩ := hP y hy
      have e : P y = partF B s m y := set_ext h1 (partF_lt _ _ _ _) fun i hi => by
        rw [h2 i hi, partF_bit B s m y hi, HKL.out, ← HLE.out, HLM.out, List.take_length]
        congr 1
        rw [Bool.eq_iff_iff, List.contains_iff_mem]; exact mems_mem HS.out
      have hr := hR y hy
      unfold u64F at hr ⊢
      simp only [← e]
      exact hr

end Go.Proofs.Ytbieglmpkljjjaa

namespace Go.Proofs.Ytbieglmpkljjjaa
open Go.RowKit

set_option maxHeartbeats 1600000 in
theorem indexSet_any (g n s : Nat) (f : Nat → Nat) (w : World) (h : RowAt w g n (u64F f)) (hn : n ≤ 1000) :
    Calls Try.prog 157 #[.slice (some ⟨g, 0, none⟩) n n, .int .u64 s] w fun e w' => (∃ i : Int, e = .returned (.int .i64 i) ∧ ((0 ≤ i) ↔ ∃ j, j < n ∧ f j = s)) ∧ w' = w := by
  have HH := Lib.hid h
  clear h
  go_enter Try.func157, Try.ntmps157
  go_wp2
  go_loop [8] (fun i => ∃ k : Nat, k ≤ n ∧ i = .int .i64 k ∧ Hid (∀ j, j < k → f j ≠ s)) (fun i => n - (intOf i).toNat)
  case atStart => exact ⟨0, Nat.zero_le _, rfl, fun j hj => absurd hj (Nat.not_lt_zero j)⟩
  case round =>
    obtain ⟨k, hk, rfl, hj⟩ := hrel
    by_cases hkn : k < n
    · have hki : (k : Int) < (n : Int) := by omega
      have hck := (HH.out k hkn).1
      unfold u64F at hck
      by_cases he : f k = s
      · have hee : (((s : Nat) : Int) == ((f k : Nat) : Int)) = true := by rw [he]; simp
        have HE := Lib.hid he
        clear he
        go_wp2
        go_ret
        exact ⟨⟨_, rfl, ⟨fun _ => ⟨k, by omega, HE.out⟩, fun _ => by omega⟩⟩, rfl⟩
      · have hee : (((s : Nat) : Int) == ((f k : Nat) : Int)) = false := by rw [beq_eq_false_iff_ne]; intro e9; exact he (by omega)
        have HE := Lib.hid he
        clear he
        go_wp2
        go_round
        case rel => exact ⟨k + 1, by omega, by go_num, fun j hj1 => by
          rcases Nat.lt_succ_iff_lt_or_eq.1 hj1 with h | h
          · exact hj.out j h
          · rw [h]; exact HE.out⟩
        case measure => simp [intOf]; omega
    · go_wp2
      go_ret
      exact ⟨⟨_, rfl, ⟨fun h0 => absurd h0 (by omega), fun ⟨j, h1, h2⟩ => absurd h2 (hj.out j (by omega))⟩⟩, rfl⟩

theorem containsSet_any (g n s : Nat) (f : Nat → Nat) (w : World) (h : RowAt w g n (u64F f)) (hn : n ≤ 1000) :
    Calls Try.prog 144 #[.slice (some ⟨g, 0, none⟩) n n, .int .u64 s] w fun e w' => e = .returned (.bool (anyB n fun j => decide (f j = s))) ∧ w' = w := by
  have H := Lib.hid (indexSet_any g n s f w h hn)
  clear h
  go_enter Try.func144, Try.ntmps144
  go_wp2_with (go_at_call 157; refine H.out.mono ?_; rintro e wq ⟨⟨i, rfl, hi⟩, hwq⟩; rw [hwq]; clear hwq wq)
  go_ret
  refine ⟨ret_bool ?_, rfl⟩
  rw [Bool.eq_iff_iff, anyB_true]
  simp only [decide_eq_true_eq]

/-- the greatest of a list that is not empty -/
def maxF (f : Nat → Int) : Nat → Int
  | 0 => f 0
  | k + 1 => max (maxF f k) (f (k + 1))

set_option maxHeartbeats 1600000 in
theorem max_any (N n : Nat) (v : Value) (f : Nat → Int) (w : World) (h : IntsAt N w v (n + 1) f) (hn : n ≤ 1000) :
    Calls Try.prog 122 #[v] w fun e w' => e = .returned (.int .i64 (maxF f n)) ∧ w' = w := by
  obtain ⟨a, c, rfl, _, _⟩ := id h
  obtain ⟨b, o, rfl, _, hr⟩ := h.cells (by omega)
  have HR := Lib.hid hr
  have h0 := hr 0 (by omega)
  rw [Nat.add_zero] at h0
  have hn1 : ¬ ((n : Int) + 1 < 1) := by omega
  clear h hr
  go_enter Try.func122, Try.ntmps122
  go_wp2
  go_loop [3, 4] (fun t i => ∃ k : Nat, k ≤ n ∧ i = .int .i64 ((k : Int) + 1) ∧ t = .int .i64 (maxF f k)) (fun _ i => n + 1 - (intOf i).toNat)
  case atStart => exact ⟨0, Nat.zero_le _, rfl, rfl⟩
  case round =>
    obtain ⟨k, hk, rfl, rfl⟩ := hrel
    by_cases hkn : k < n
    · have hki : (k : Int) + 1 < (n : Int) + 1 := by omega
      have hck := HR.out (k + 1) (by omega)
      have HP : Hid (maxF f (k + 1) = max (maxF f k) (f (k + 1))) := rfl
      generalize maxF f k = t at *
      go_wp2
      go_round
      case rel => exact ⟨k + 1, by omega, by go_num, by rw [HP.out]; congr 1; split <;> omega⟩
      case measure => simp [intOf]; omega
    · have HK : Hid (k = n) := by unfold Hid; omega
      go_wp2
      go_ret
      exact ⟨by rw [HK.out]; rfl, rfl⟩

theorem worstSet_any (N n : Nat) (v : Value) (s : Nat) (f : Nat → Int) (w : World) (h : IntsAt N w v (n + 1) f) (hn : n ≤ 1000) (hb : -1 ≤ maxF f n ∧ maxF f n ≤ 1048576) :
    Calls Try.prog 82 #[.int .u64 s, v] w fun e w' => e = .returned (.int .i64 (1 + maxF f n)) ∧ w' = w := by
  have H := Lib.hid (max_any N n v f w h hn)
  generalize maxF f n = t at *
  clear h
  go_enter Try.func82, Try.ntmps82
  go_wp2_with (go_at_call 122; refine H.out.mono ?_; rintro e wq ⟨rfl, hwq⟩; rw [hwq]; clear hwq wq)
  go_ret
  exact ⟨ret_int (by omega), rfl⟩

set_option maxHeartbeats 1600000 in
theorem total_any (N n : Nat) (v : Value) (s : Nat) (f : Nat → Int) (w : World) (h : IntsAt N w v n f) (hn : n ≤ 1000) (hs : s < 256) (hb : ∀ k, k ≤ n → -1048576 ≤ totalTo (many s) f k ∧ totalTo (many s) f k ≤ 4194304) :
    Calls Try.prog 85 #[.int .u64 s, v] w fun e w' => e = .returned (.int .i64 (totalTo (many s) f n)) ∧ w' = w := by
  obtain ⟨a, c, rfl, _, _⟩ := id h
  have HH := Lib.hid h
  have HS := Lib.hid (setMany_any s hs w)
  have HB := Lib.hid hb
  clear h hb
  go_enter Try.func85, Try.ntmps85
  go_wp2_with (go_at_call 111; refine HS.out.mono ?_; rintro e wq ⟨rfl, hwq⟩; rw [hwq]; clear hwq wq)
  go_loop [5, 12] (fun t i => ∃ k : Nat, k ≤ n ∧ i = .int .i64 k ∧ t = .int .i64 (totalTo (many s) f k)) (fun _ i => n - (intOf i).toNat)
  case atStart => exact ⟨0, Nat.zero_le _, rfl, rfl⟩
  case round =>
    obtain ⟨k, hk, rfl, rfl⟩ := hrel
    by_cases hkn : k < n
    · obtain ⟨b, o, rfl, _, hr⟩ := HH.out.cells (by omega)
      have hki : (k : Int) < (n : Int) := by omega
      have hck := hr k hkn
      have HP : Hid (totalTo (many s) f (k + 1) = totalTo (many s) f k + f k) := rfl
      have hb1 := HB.out k hk
      have hb2 := HB.out (k + 1) (by omega)
      rw [HP.out] at hb2
      clear hr
      generalize totalTo (many s) f k = t at *
      go_wp2
      go_round
      case rel => exact ⟨k + 1, by omega, by go_num, by rw [HP.out]⟩
      case measure => simp [intOf]; omega
    · have HK : Hid (k = n) := by unfold Hid; omega
      go_wp2
      go_ret
      exact ⟨by rw [HK.out]; rfl, rfl⟩

end Go.Proofs.Ytbieglmpkljjjaa

namespace Go.Proofs.Ytbieglmpkljjjaa
open Go.RowKit

theorem worstTo_congr {f g : Nat → Int} : ∀ {n : Nat}, (∀ i, i < n → f i = g i) → worstTo f n = worstTo g n
  | 0, _ => rfl
  | n + 1, h => by simp only [worstTo]; rw [worstTo_congr fun i hi => h i (by omega), h n (by omega)]
theorem totalTo_congr {a : Int} {f g : Nat → Int} : ∀ {n : Nat}, (∀ i, i < n → f i = g i) → totalTo a f n = totalTo a g n
  | 0, _ => rfl
  | n + 1, h => by simp only [totalTo]; rw [totalTo_congr fun i hi => h i (by omega), h n (by omega)]
theorem costL_congr {B : KB} {mean : Bool} {g : List Nat} {m : Nat} {L L' : List Nat → Int} (h : ∀ y, L (havL B g m y) = L' (havL B g m y)) : costL B mean g m L = costL B mean g m L' := by
  unfold costL
  split
  · exact totalTo_congr fun i _ => h i
  · exact worstTo_congr fun i _ => h i
theorem bestTo_congr {B : KB} {mean : Bool} {g : List Nat} {L L' : List Nat → Int} (h : ∀ m, splitL B g m = true → ∀ y, L (havL B g m y) = L' (havL B g m y)) : ∀ m, bestTo B mean g L m = bestTo B mean g L' m
  | 0 => rfl
  | m + 1 => by
    simp only [bestTo]
    rw [bestTo_congr h m]
    split
    · rename_i hs; rw [costL_congr (h m hs)]
    · rfl
theorem leastL_fuel (B : KB) (mean : Bool) : ∀ (f : Nat) (g : List Nat), g.length ≤ f → leastL B mean (f + 1) g = leastL B mean f g := by
  intro f
  induction f with
  | zero => intro g hg; rw [leastL_small _ _ _ _ (by omega), leastL_small _ _ _ _ (by omega)]
  | succ f ih =>
    intro g hg
    by_cases h1 : g.length ≤ 1
    · rw [leastL_small _ _ _ _ h1, leastL_small _ _ _ _ h1]
    · rw [leastL, leastL, if_neg h1, if_neg h1]
      refine bestTo_congr (fun m hs y => ih _ ?_) _
      have := havL_lt (by intro e; rw [e] at h1; simp at h1) hs y
      omega

/-- what a set of sorts costs -/
def costK (B : KB) (mean : Bool) (s : Nat) : Int := leastL B mean 8 (mems s)
/-- the mark m leaves the set s whole: some part is s -/
def wholeK (B : KB) (s m : Nat) : Bool := anyB (B.V m).toNat fun y => decide (partF B s m y = s)
theorem costK_small {B : KB} {mean : Bool} {s : Nat} (h : (mems s).length ≤ 1) : costK B mean s = 0 := leastL_small _ _ _ _ h
theorem costK_eq {B : KB} {mean : Bool} {s : Nat} (h : ¬ (mems s).length ≤ 1) : costK B mean s = bestTo B mean (mems s) (leastL B mean 8) B.nv := by
  unfold costK
  rw [← leastL_fuel B mean 8 (mems s) (mems_len s), leastL, if_neg h]
theorem costK_part {B : KB} {mean : Bool} {s m : Nat} {y : Int} : leastL B mean 8 (havL B (mems s) m y) = costK B mean (partF B s m y) := by unfold costK; rw [mems_part]

theorem filter_all {α : Type} {p : α → Bool} {l : List α} (h : (l.filter p).length = l.length) : ∀ a, a ∈ l → p a = true := by
  intro a ha
  cases hp : p a with
  | true => rfl
  | false => have := filter_lt ha hp; omega
/-- a mark parts a set or leaves it whole -/
theorem whole_split {B : KB} {s m : Nat} (hs : s < 256) (h0 : mems s ≠ []) (hX : ∀ i, i ∈ mems s → 0 ≤ B.X i m ∧ B.X i m < B.V m) : wholeK B s m = !splitL B (mems s) m := by
  have hmem : (mems s).getD 0 0 ∈ mems s := getD_mem (List.length_pos_iff.2 h0)
  rw [Bool.eq_iff_iff, Bool.not_eq_true', wholeK, anyB_true]
  constructor
  · rintro ⟨y, hy, he⟩
    have he := of_decide_eq_true he
    have hm := mems_part B s m (y : Int)
    rw [he] at hm
    have hall := filter_all (p := fun i => decide (B.X i m = (y : Int))) (l := mems s) (by unfold havL at hm; rw [← hm])
    have hx := of_decide_eq_true (hall _ hmem)
    unfold splitL
    rw [decide_eq_false]
    rw [hx, ← hm]; omega
  · intro h
    unfold splitL at h
    have h := of_decide_eq_false h
    have hlen : (havL B (mems s) m (B.X ((mems s).getD 0 0) m)).length = (mems s).length := by have := havL_len B (mems s) m (B.X ((mems s).getD 0 0) m); omega
    have hall := filter_all hlen
    obtain ⟨x0, xV⟩ := hX _ hmem
    refine ⟨(B.X ((mems s).getD 0 0) m).toNat, by omega, decide_eq_true ?_⟩
    refine set_ext (partF_lt _ _ _ _) hs fun i hi => ?_
    rw [partF_bit _ _ _ _ hi, Int.toNat_of_nonneg x0]
    cases hb : s.testBit i with
    | false => rfl
    | true => rw [hall i ((mems_mem hs).2 hb)]; rfl

/-- the members of g all differ -/
def DiffG (B : KB) (g : List Nat) : Prop := ∀ i j, i < j → j < g.length → ∃ m, m < B.nv ∧ B.X (g.getD i 0) m ≠ B.X (g.getD j 0) m
theorem pickC_sign {a b : Int} (hb : 0 ≤ b) : 0 ≤ pickC a b := by unfold pickC; split <;> omega
theorem bestTo_sign {B : KB} {mean : Bool} {g : List Nat} {L : List Nat → Int} (h : ∀ m, m < B.nv → splitL B g m = true → 0 ≤ costL B mean g m L) : ∀ m, m ≤ B.nv →
    (bestTo B mean g L m = -1 ∧ ∀ j, j < m → splitL B g j = false) ∨ (0 ≤ bestTo B mean g L m ∧ ∃ j, j < m ∧ splitL B g j = true) := by
  intro m
  induction m with
  | zero => intro _; exact .inl ⟨rfl, fun j hj => absurd hj (Nat.not_lt_zero j)⟩
  | succ m ih =>
    intro hm
    simp only [bestTo]
    cases hs : splitL B g m with
    | true => simp only [if_true]; exact .inr ⟨pickC_sign (h m hm hs), m, by omega, hs⟩
    | false =>
      simp only [Bool.false_eq_true, if_false]
      rcases ih (by omega) with ⟨h1, h2⟩ | ⟨h1, j, h2, h3⟩
      · refine .inl ⟨h1, fun j hj => ?_⟩
        rcases Nat.lt_succ_iff_lt_or_eq.1 hj with h | h
        · exact h2 j h
        · rw [h]; exact hs
      · exact .inr ⟨h1, j, by omega, h3⟩
theorem diff_split {B : KB} {g : List Nat} (h : DiffG B g) (h2 : 2 ≤ g.length) : ∃ m, m < B.nv ∧ splitL B g m = true := by
  obtain ⟨m, hm, hx⟩ := h 0 1 (by omega) (by omega)
  refine ⟨m, hm, decide_eq_true (filter_lt (getD_mem (i := 1) (by omega)) (decide_eq_false fun e => hx e.symm))⟩

theorem diffG_hav {B : KB} {g : List Nat} (h : DiffG B g) (hnd : g.Nodup) (m : Nat) (y : Int) : DiffG B (havL B g m y) := by
  intro i j hij hj
  have hsub : ∀ k, k < (havL B g m y).length → (havL B g m y).getD k 0 ∈ g := fun k hk => havL_mem (getD_mem hk)
  have hnd2 : (havL B g m y).Nodup := hnd.filter _
  obtain ⟨a, ha, ea⟩ := List.getElem_of_mem (hsub i (by omega))
  obtain ⟨b, hb, eb⟩ := List.getElem_of_mem (hsub j hj)
  have hne : (havL B g m y).getD i 0 ≠ (havL B g m y).getD j 0 := by
    intro e
    have h1 : (havL B g m y)[i]'(by omega) = (havL B g m y)[j]'hj := by simpa [List.getD, hj, show i < (havL B g m y).length by omega] using e
    have := (List.getElem_inj hnd2).1 h1
    omega
  have hab : a ≠ b := by
    intro e; subst e; exact hne (by rw [← ea, ← eb])
  have ga : g.getD a 0 = (havL B g m y).getD i 0 := by rw [← ea]; simp [List.getD, ha]
  have gb : g.getD b 0 = (havL B g m y).getD j 0 := by rw [← eb]; simp [List.getD, hb]
  rcases Nat.lt_or_ge a b with hlt | hge
  · obtain ⟨k, hk, hx⟩ := h a b hlt hb
    exact ⟨k, hk, by rw [← ga, ← gb]; exact hx⟩
  · obtain ⟨k, hk, hx⟩ := h b a (by omega) ha
    exact ⟨k, hk, by rw [← ga, ← gb]; exact fun e => hx e.symm⟩

theorem leastL_pos (B : KB) (mean : Bool) : ∀ (f : Nat) (g : List Nat), g.length ≤ f → g.Nodup → DiffG B g → 0 ≤ leastL B mean f g := by
  intro f
  induction f with
  | zero => intro g hg _ _; rw [leastL_small _ _ _ _ (by omega)]; omega
  | succ f ih =>
    intro g hg hnd hd
    by_cases h1 : g.length ≤ 1
    · rw [leastL_small _ _ _ _ h1]; omega
    · rw [leastL, if_neg h1]
      have hcost : ∀ m, m < B.nv → splitL B g m = true → 0 ≤ costL B mean g m (leastL B mean f) := fun m hm hs => by
        have hq : ∀ y, 0 ≤ leastL B mean f (havL B g m y) := fun y => ih _ (by have := havL_lt (by intro e; rw [e] at h1; simp at h1) hs y; omega) (hnd.filter _) (diffG_hav hd hnd m y)
        unfold costL
        split
        · have : ∀ n : Nat, 0 ≤ totalTo (g.length : Int) (fun v => leastL B mean f (havL B g m v)) n := fun n => by
            induction n with
            | zero => simp only [totalTo]; omega
            | succ n ihn => simp only [totalTo]; have := hq n; omega
          exact this _
        · have : ∀ n : Nat, 0 ≤ worstTo (fun v => leastL B mean f (havL B g m v)) n := fun n => by
            induction n with
            | zero => simp only [worstTo]; omega
            | succ n ihn => simp only [worstTo]; omega
          exact this _
      rcases bestTo_sign hcost B.nv (Nat.le_refl _) with ⟨_, h2⟩ | ⟨h2, _⟩
      · obtain ⟨m, hm, hs⟩ := diff_split hd (by omega)
        rw [h2 m hm] at hs; cases hs
      · exact h2

theorem mems_nodup (s : Nat) : (mems s).Nodup := List.nodup_range.filter _
/-- what is known of the set of a group -/
structure SetOk (B : KB) (s : Nat) : Prop where
  lt : s < 256
  mem : ∀ i, i ∈ mems s → i < B.ns
  diff : DiffG B (mems s)
theorem SetOk.part {B : KB} {s : Nat} (h : SetOk B s) (m : Nat) (y : Int) : SetOk B (partF B s m y) :=
  ⟨partF_lt _ _ _ _, fun i hi => h.mem i (by rw [mems_part] at hi; exact havL_mem hi), by rw [mems_part]; exact diffG_hav h.diff (mems_nodup s) m y⟩
theorem SetOk.pos {B : KB} {s : Nat} (h : SetOk B s) (mean : Bool) : 0 ≤ costK B mean s := leastL_pos B mean 8 _ (mems_len s) (mems_nodup s) h.diff

/-- the cost of a question as package keys reckons it -/
def costS (B : KB) (mean : Bool) (s m : Nat) : Int := if mean then totalTo (many s) (fun y => costK B mean (partF B s m y)) (B.V m).toNat else 1 + maxF (fun y => costK B mean (partF B s m y)) ((B.V m).toNat - 1)
theorem worst_max {f : Nat → Int} (h : ∀ i, 0 ≤ f i) : ∀ n, worstTo f (n + 1) = 1 + maxF f n
  | 0 => by simp only [worstTo, maxF]; have := h 0; omega
  | n + 1 => by
    have ih := worst_max h n
    rw [worstTo, ih, maxF]; omega
theorem costS_eq {B : KB} {mean : Bool} {s m : Nat} (h : SetOk B s) (hV : 2 ≤ B.V m) : costS B mean s m = costL B mean (mems s) m (leastL B mean 8) := by
  have e : (fun v : Nat => leastL B mean 8 (havL B (mems s) m v)) = fun y : Nat => costK B mean (partF B s m y) := funext fun y => costK_part
  unfold costS costL
  rw [e, many_mems]
  cases mean with
  | true => rfl
  | false =>
    simp only [Bool.false_eq_true, if_false]
    have := worst_max (f := fun y : Nat => costK B false (partF B s m y)) (fun y => (h.part m y).pos false) ((B.V m).toNat - 1)
    rw [← this, show (B.V m).toNat - 1 + 1 = (B.V m).toNat by omega]

/-- what the search knows behind m marks -/
def AskK (B : KB) (mean : Bool) (s m : Nat) (mk c : Int) : Prop :=
  (bestTo B mean (mems s) (leastL B mean 8) m = -1 ∧ mk = -1 ∧ c = 0) ∨ (0 ≤ bestTo B mean (mems s) (leastL B mean 8) m ∧ c = bestTo B mean (mems s) (leastL B mean 8) m ∧ ∃ j : Nat, mk = j ∧ j < m ∧ splitL B (mems s) j = true ∧ costS B mean s j = c)
theorem AskK.zero (B : KB) (mean : Bool) (s : Nat) : AskK B mean s 0 (-1) 0 := .inl ⟨rfl, rfl, rfl⟩
theorem AskK.skip {B : KB} {mean : Bool} {s m : Nat} {mk c : Int} (h : AskK B mean s m mk c) (hs : splitL B (mems s) m = false) : AskK B mean s (m + 1) mk c := by
  unfold AskK
  simp only [bestTo, hs, Bool.false_eq_true, if_false]
  rcases h with h | ⟨h1, h2, j, h3, h4, h5⟩
  · exact .inl h
  · exact .inr ⟨h1, h2, j, h3, by omega, h5⟩
theorem AskK.take {B : KB} {mean : Bool} {s m : Nat} {mk c : Int} (h : AskK B mean s m mk c) (hs : splitL B (mems s) m = true) (hok : SetOk B s) (hV : 2 ≤ B.V m) (h0 : 0 ≤ costS B mean s m) (hc : mk = -1 ∨ costS B mean s m < c) : AskK B mean s (m + 1) m (costS B mean s m) := by
  have hp : pickC (bestTo B mean (mems s) (leastL B mean 8) m) (costS B mean s m) = costS B mean s m := by
    unfold pickC
    rw [if_pos]
    rcases h with ⟨h1, _, _⟩ | ⟨_, h2, j, h3, _⟩
    · exact .inl (by omega)
    · rcases hc with hc | hc
      · omega
      · exact .inr (by omega)
  unfold AskK
  simp only [bestTo, hs, if_true]
  rw [← costS_eq hok hV, hp]
  exact .inr ⟨h0, rfl, m, rfl, by omega, hs, rfl⟩
theorem AskK.keep {B : KB} {mean : Bool} {s m : Nat} {mk c : Int} (h : AskK B mean s m mk c) (hs : splitL B (mems s) m = true) (hok : SetOk B s) (hV : 2 ≤ B.V m) (hm : mk ≠ -1) (hc : ¬ costS B mean s m < c) : AskK B mean s (m + 1) mk c := by
  rcases h with ⟨_, h2, _⟩ | ⟨h1, h2, j, h3, h4, h5⟩
  · exact absurd h2 hm
  · have hp : pickC (bestTo B mean (mems s) (leastL B mean 8) m) (costS B mean s m) = bestTo B mean (mems s) (leastL B mean 8) m := by
      unfold pickC; rw [if_neg (by omega)]
    unfold AskK
    simp only [bestTo, hs, if_true]
    rw [← costS_eq hok hV, hp]
    exact .inr ⟨h1, h2, j, h3, by omega, h5⟩
theorem AskK.found {B : KB} {mean : Bool} {s : Nat} {mk c : Int} (h : AskK B mean s B.nv mk c) (hok : SetOk B s) (h2 : ¬ (mems s).length ≤ 1) : c = costK B mean s := by
  have hp := hok.pos mean
  rw [costK_eq h2] at hp ⊢
  rcases h with ⟨h1, _, _⟩ | ⟨_, h2, _⟩
  · omega
  · exact h2

end Go.Proofs.Ytbieglmpkljjjaa
