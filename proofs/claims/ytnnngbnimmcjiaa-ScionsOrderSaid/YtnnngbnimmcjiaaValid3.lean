/-
  Valid3: validList, validGift of package scions, and what enters.
-/
import Derived.Test.YtnnngbnimmcjiaaValid2
namespace Go.Proofs.Ytnnngbnimmcjiaa
open Go.RowKit

theorem anyB_not (n : Nat) (p : Nat → Bool) : (anyB n fun i => !p i) = !allB n p := by
  cases h : allB n p with
  | true => exact anyB_false.2 fun i hi => by rw [allB_true.1 h i hi]; rfl
  | false => obtain ⟨i, hi, hp⟩ := allB_false.1 h; exact anyB_true.2 ⟨i, hi, by rw [hp]; rfl⟩
theorem anyC (B : SB) : (anyB B.ns fun i => outC (B.C i)) = !okC B := anyB_not _ fun i => decide (0 ≤ B.C i) && decide (B.C i ≤ 4)
theorem anyG (B : SB) : (anyB B.ng fun i => !okGd 4 (B.P i) (B.F i)) = !okG B 4 := anyB_not _ _

set_option maxRecDepth 100000 in
set_option maxHeartbeats 1600000 in
theorem validList_any (N : Nat) (v : Value) (B : SB) (w : World) (h : BookAt N w v B) :
    Calls Try.prog 72 #[v] w fun e w' => e = .returned (.bool (okL B)) ∧ Below w.heap.size w w' := by
  have h' := h
  obtain ⟨_, a1, z1, a2, z2, a3, z3, rfl, _⟩ := h'
  obtain ⟨ws, hws, HB, hsz, hblk⟩ := box1 w (.cells #[.slice a1 B.ns z1, .slice a2 B.ng z2, .slice a3 B.nw z3] 26)
  have q0 := cell_blk hblk 0 rfl
  have q1 := cell_blk hblk 1 rfl
  have q2 := cell_blk hblk 2 rfl
  have HBK := Lib.hid (h.go HB.out)
  have HB0 : Hid (Below ws.heap.size ws ws) := Below.refl _ _
  have HNS : Hid (N ≤ ws.heap.size) := HBK.out.1
  have hlens := h.lens
  obtain ⟨hlv, hls, hln⟩ := hlens
  clear hblk h
  by_cases h1 : B.ns ≤ 4
  case neg =>
    have g1 : (4 : Int) < B.ns := by omega
    have H : Hid (okL B = false) := by unfold Hid okL okP near; rw [decide_eq_false h1]; rfl
    clear h1
    go_enter Try.func72, Try.ntmps72
    go_wp2
    go_ret
    exact ⟨ret_bool H.out.symm, HB.out⟩
  have g1 : (B.ns : Int) ≤ 4 := by omega
  by_cases h2 : B.ng ≤ 5
  case neg =>
    have g2 : (5 : Int) < B.ng := by omega
    have H : Hid (okL B = false) := by unfold Hid okL okP near; rw [decide_eq_false h2]; simp
    clear h1 h2
    go_enter Try.func72, Try.ntmps72
    go_wp2
    go_ret
    exact ⟨ret_bool H.out.symm, HB.out⟩
  have g2 : (B.ng : Int) ≤ 5 := by omega
  by_cases h3 : B.nw ≤ 12
  case neg =>
    have g3 : (12 : Int) < B.nw := by omega
    have H : Hid (okL B = false) := by unfold Hid okL okP near; rw [decide_eq_false h3]; simp
    clear h1 h2 h3
    go_enter Try.func72, Try.ntmps72
    go_wp2
    go_ret
    exact ⟨ret_bool H.out.symm, HB.out⟩
  have g3 : (B.nw : Int) ≤ 12 := by omega
  have HNR : Hid (okL B = (okC B && okG B 4 && okW B)) := by unfold Hid okL okP near; rw [decide_eq_true h1, decide_eq_true h2, decide_eq_true h3]; rfl
  have HA1 := Lib.hid (anyC B)
  have HA2 := Lib.hid (anyG B)
  clear h1 h2 h3
  cases k1 : okC B with
  | false =>
    have K1 := Lib.hid k1
    clear k1
    go_enter Try.func72, Try.ntmps72
    go_wp2_with (go_at_call 84; refine (containsInts_any N _ _ _ _ (HBK.out.go HB0.out).scions).mono ?_; rintro e w1 ⟨rfl, rfl⟩; rw [HA1.out, K1.out])
    go_ret
    exact ⟨ret_bool (by rw [HNR.out, K1.out]; rfl), HB.out⟩
  | true =>
    have K1 := Lib.hid k1
    clear k1
    cases k2 : okG B 4 with
    | false =>
      have K2 := Lib.hid k2
      clear k2
      go_enter Try.func72, Try.ntmps72
      go_wp2_with (first
        | (go_at_call 84; refine (containsInts_any N _ _ _ _ (HBK.out.go HB0.out).scions).mono ?_; rintro e w1 ⟨rfl, rfl⟩; rw [HA1.out, K1.out])
        | (go_at_call 85; refine (containsGardens_any N _ _ _ _ _ (HBK.out.go HB0.out).gardens HNS.out).mono ?_; rintro e w1 ⟨rfl, hb1⟩; rw [HA2.out, K2.out]))
      go_ret
      exact ⟨ret_bool (by rw [HNR.out, K1.out, K2.out]; rfl), fin HB.out hb1⟩
    | true =>
      have K2 := Lib.hid k2
      clear k2
      go_enter Try.func72, Try.ntmps72
      go_wp2_with (first
        | (go_at_call 84; refine (containsInts_any N _ _ _ _ (HBK.out.go HB0.out).scions).mono ?_; rintro e w1 ⟨rfl, rfl⟩; rw [HA1.out, K1.out])
        | (go_at_call 85; refine (containsGardens_any N _ _ _ _ _ (HBK.out.go HB0.out).gardens HNS.out).mono ?_; rintro e w1 ⟨rfl, hb1⟩; rw [HA2.out, K2.out]; (try clear c0); have HB1 := Lib.hid (bel HB0.out hb1); have c1 := (old_of HB1.out).1; clear hb1)
        | (go_at_call 86; refine (validWants_any N _ B _ (HBK.out.go HB1.out)).mono ?_; rintro e w2 ⟨rfl, hb2⟩))
      go_ret
      exact ⟨ret_bool (by rw [HNR.out, K1.out, K2.out]; rfl), fin HB.out (bel HB1.out hb2)⟩

/-- ascending wants of a list -/
def okGift (nw n : Nat) (x : Nat → Int) : Bool := allB n fun i => decide (0 ≤ x i) && decide (x i < nw) && (decide (i = 0) || decide (x (i - 1) < x i))
/-- the number that the next one has to be above -/
def lastX (x : Nat → Int) (k : Nat) : Int := if k = 0 then -1 else x (k - 1)
theorem okGift_step {nw n : Nat} {x : Nat → Int} {k : Nat} (h : ∀ j, j < k → (decide (0 ≤ x j) && decide (x j < nw) && (decide (j = 0) || decide (x (j - 1) < x j))) = true) :
    (decide (0 ≤ x k) && decide (x k < nw) && (decide (k = 0) || decide (x (k - 1) < x k))) = (decide (lastX x k < x k) && decide (x k < nw)) := by
  unfold lastX
  cases k with
  | zero =>
    simp only [if_true, decide_true, Bool.true_or, Bool.and_true]
    congr 1
  | succ k =>
    have hk := h k (by omega)
    simp only [Bool.and_eq_true, decide_eq_true_eq] at hk
    simp only [Nat.succ_ne_zero, if_false, decide_false, Bool.false_or, Nat.add_sub_cancel]
    by_cases h1 : x k < x (k + 1)
    · have : 0 ≤ x (k + 1) := by omega
      simp [h1, this]
    · simp [h1]

set_option maxRecDepth 100000 in
set_option maxHeartbeats 1600000 in
theorem validGift_any (N M : Nat) (v u : Value) (B : SB) (n : Nat) (x : Nat → Int) (w : World) (h : BookAt N w v B) (hu : IntsAt M w u n x) (hM : M ≤ w.heap.size) :
    Calls Try.prog 74 #[v, u] w fun e w' => e = .returned (.bool (okGift B.nw n x)) ∧ Below w.heap.size w w' := by
  have hn := hu.len
  obtain ⟨au, cu, rfl, _, _⟩ := id hu
  have h' := h
  obtain ⟨_, a1, z1, a2, z2, a3, z3, rfl, _⟩ := h'
  obtain ⟨ws, hws, HB, hsz, hblk⟩ := box1 w (.cells #[.slice a1 B.ns z1, .slice a2 B.ng z2, .slice a3 B.nw z3] 26)
  have q0 := cell_blk hblk 0 rfl
  have q1 := cell_blk hblk 1 rfl
  have q2 := cell_blk hblk 2 rfl
  have HBK := Lib.hid (h.go HB.out)
  have HB0 : Hid (Below ws.heap.size ws ws) := Below.refl _ _
  have HNS : Hid (N ≤ ws.heap.size) := HBK.out.1
  have hlens := h.lens
  obtain ⟨hlv, hls, hln⟩ := hlens
  clear hblk h
  have HX := Lib.hid (hu.go hM HB.out)
  clear hu
  have HF : Hid (∀ k, k < n → (decide (0 ≤ x k) && decide (x k < B.nw) && (decide (k = 0) || decide (x (k - 1) < x k))) = false → okGift B.nw n x = false) := fun k hk hf => by unfold okGift; rw [allB_succ_false hk hf]
  go_enter Try.func74, Try.ntmps74
  go_wp2
  clear hws
  go_loop [10, 5] (fun i l => ∃ k : Nat, k ≤ n ∧ i = .int .i64 k ∧ l = .int .i64 (lastX x k) ∧ Hid (∀ j, j < k → (decide (0 ≤ x j) && decide (x j < B.nw) && (decide (j = 0) || decide (x (j - 1) < x j))) = true)) (fun i _ => n - (intOf i).toNat)
  case atStart => exact ⟨0, Nat.zero_le _, rfl, rfl, fun j hj => absurd hj (Nat.not_lt_zero j)⟩
  case round =>
    obtain ⟨k, hk, rfl, rfl, hj⟩ := hrel
    by_cases hkn : k < n
    · obtain ⟨b, off, rfl, _, hr⟩ := HX.out.cells (by omega)
      have hcell := hr k hkn
      have HST := Lib.hid (okGift_step (nw := B.nw) (n := n) hj.out)
      have HL : Hid (lastX x (k + 1) = x k) := by unfold Hid lastX; rw [if_neg (by omega)]; rfl
      obtain ⟨lx, hlx⟩ : ∃ lx, lastX x k = lx := ⟨_, rfl⟩
      rw [hlx] at HST ⊢
      clear hr hlx
      by_cases g1 : lx < x k
      · by_cases g2 : x k < B.nw
        · have g1' : ¬ x k ≤ lx := by omega
          have g2' : ¬ (B.nw : Int) ≤ x k := by omega
          have HO : Hid ((decide (0 ≤ x k) && decide (x k < B.nw) && (decide (k = 0) || decide (x (k - 1) < x k))) = true) := HST.out.trans (by simp [g1, g2])
          clear g1 g2
          go_wp2
          go_round
          case rel => exact ⟨k + 1, by omega, by go_num, by rw [HL.out], lt_succ hj.out HO.out⟩
          case measure => simp [intOf]; omega
        · have g1' : ¬ x k ≤ lx := by omega
          have g2' : (B.nw : Int) ≤ x k := by omega
          have HO := Lib.hid (HF.out k hkn (HST.out.trans (by simp [g2])))
          clear g1 g2
          go_wp2
          go_ret
          exact ⟨ret_bool HO.out.symm, HB.out⟩
      · have g1' : x k ≤ lx := by omega
        have HO := Lib.hid (HF.out k hkn (HST.out.trans (by simp [g1])))
        clear g1
        go_wp2
        go_ret
        exact ⟨ret_bool HO.out.symm, HB.out⟩
    · have Hk : Hid (k = n) := by show k = n; omega
      go_wp2
      go_ret
      exact ⟨ret_bool (by unfold okGift; exact (allB_true.2 fun i hi => hj.out i (by rw [Hk.out]; exact hi)).symm), HB.out⟩

/-- no nursery -/
def noN : Value := .agg #[.slice none 0 0, .slice none 0 0, .slice none 0 0]

set_option maxRecDepth 100000 in
set_option maxHeartbeats 1600000 in
theorem enter_any (N : Nat) (v : Value) (B : SB) (w : World) (h : BookAt N w v B) :
    Calls Try.prog 49 #[v] w fun e w' => (∃ u, e = .returned (.tuple #[u, .int .i64 (if okL B then 0 else 60)]) ∧ (okL B = true → u = v) ∧ (okL B = false → u = noN)) ∧ Below w.heap.size w w' := by
  have h' := h
  obtain ⟨_, a1, z1, a2, z2, a3, z3, rfl, _⟩ := h'
  obtain ⟨ws, hws, HB, hsz, hsz1, hblk, hblk1⟩ := box2 w (.cells #[.slice a1 B.ns z1, .slice a2 B.ng z2, .slice a3 B.nw z3] 26) (.cells #[.slice none 0 0, .slice none 0 0, .slice none 0 0] 62)
  have q0 := cell_blk hblk 0 rfl
  have q1 := cell_blk hblk 1 rfl
  have q2 := cell_blk hblk 2 rfl
  have p0 := cell_blk hblk1 0 rfl
  have p1 := cell_blk hblk1 1 rfl
  have p2 := cell_blk hblk1 2 rfl
  have HBK := Lib.hid (h.go HB.out)
  have HB0 : Hid (Below ws.heap.size ws ws) := Below.refl _ _
  have HNS : Hid (N ≤ ws.heap.size) := HBK.out.1
  have hlens := h.lens
  obtain ⟨hlv, hls, hln⟩ := hlens
  have HZ1 := Lib.hid hblk1
  clear hblk hblk1 h
  have hle : w.heap.size ≤ w.heap.size + 1 := Nat.le_succ _
  cases hv : okL B with
  | true =>
    have HV := Lib.hid hv
    clear hv
    go_enter Try.func49, Try.ntmps49
    go_wp2_with (go_at_call 72; refine (validList_any N _ B _ (HBK.out.go HB0.out)).mono ?_; rintro e w1 ⟨rfl, hb1⟩; rw [HV.out]; have hz := (hb1.block _ hsz1).trans HZ1.out; have f0 := free_blk hz 0; have f1 := free_blk hz 1; have f2 := free_blk hz 2; have HZ := Lib.hid hz; clear hz; (try clear c0); have HB1 := Lib.hid (bel HB0.out hb1); have c1 := (old_of HB1.out).1; clear hb1)
    obtain ⟨w3, hw3, hz3, hb3⟩ := put3 (n := w.heap.size) HZ.out (.slice a1 B.ns z1) (.slice a2 B.ng z2) (.slice a3 B.nw z3) hle
    rw [hw3]
    have r0 := cell_blk hz3 0 rfl
    have r1 := cell_blk hz3 1 rfl
    have r2 := cell_blk hz3 2 rfl
    refine bodyPost_ret (v := .tuple #[.agg #[.slice a1 B.ns z1, .slice a2 B.ng z2, .slice a3 B.nw z3], .int .i64 0]) (by simp [results, Try.results49, go_sem, r0, r1, r2]) rfl ?_
    exact ⟨rfl, (fin HB.out HB1.out).trans hb3⟩
  | false =>
    have HV := Lib.hid hv
    clear hv
    go_enter Try.func49, Try.ntmps49
    go_wp2_with (go_at_call 72; refine (validList_any N _ B _ (HBK.out.go HB0.out)).mono ?_; rintro e w1 ⟨rfl, hb1⟩; rw [HV.out]; have hz := (hb1.block _ hsz1).trans HZ1.out; have f0 := free_blk hz 0; have f1 := free_blk hz 1; have f2 := free_blk hz 2; have HZ := Lib.hid hz; clear hz; (try clear c0); have HB1 := Lib.hid (bel HB0.out hb1); have c1 := (old_of HB1.out).1; clear hb1)
    obtain ⟨w3, hw3, hz3, hb3⟩ := put3 (n := w.heap.size) HZ.out (.slice none 0 0) (.slice none 0 0) (.slice none 0 0) hle
    rw [hw3]
    have r0 := cell_blk hz3 0 rfl
    have r1 := cell_blk hz3 1 rfl
    have r2 := cell_blk hz3 2 rfl
    refine bodyPost_ret (v := .tuple #[noN, .int .i64 60]) (by simp [noN, results, Try.results49, go_sem, r0, r1, r2]) rfl ?_
    exact ⟨rfl, (fin HB.out HB1.out).trans hb3⟩

end Go.Proofs.Ytnnngbnimmcjiaa
