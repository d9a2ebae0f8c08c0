import Derived.Test.YtmmadlpkolcgkaaBox2
import Derived.Deep.RegionHeld3
namespace Go.Proofs.Ytmmadlpkolcgkaa
open Go.RowKit

/-- the least of a and the first n of g -/
def minTo : Nat → (Nat → Nat) → Nat → Nat
  | 0, _, a => a
  | n + 1, g, a => min (minTo n g a) (g n)
def sumTo : Nat → (Nat → Nat) → Nat
  | 0, _ => 0
  | n + 1, g => sumTo n g + g n
theorem minTo_le (n : Nat) (g : Nat → Nat) (a : Nat) : minTo n g a ≤ a := by
  induction n with
  | zero => exact Nat.le_refl _
  | succ n ih => simp only [minTo]; omega
theorem sumTo_le (n : Nat) (g : Nat → Nat) (c : Nat) (h : ∀ i, i < n → g i ≤ c) : sumTo n g ≤ n * c := by
  induction n with
  | zero => simp [sumTo]
  | succ n ih =>
    have h1 := ih fun i hi => h i (by omega)
    have h2 := h n (by omega)
    simp only [sumTo]
    rw [Nat.succ_mul]
    omega

theorem bad_le (R : Fr) (m : Nat) (r : Nat → Int → Bool) (k : Nat) : bad R m r k ≤ k := cnt_le _ _

def lm (B : Bk) (R : Fr) (s m : Nat) : Nat := minTo (B.ncc s m) (fun i => mw B R s 0 m (B.can s m i)) R.n
theorem lm_le (B : Bk) (R : Fr) (s m : Nat) : lm B R s m ≤ R.n := minTo_le _ _ _

theorem okCan_len {n : Nat} {c : Nat → Int} {hi : Int} (h : okCan n c hi = true) (h5 : hi ≤ 5) : n ≤ 5 := by
  simp only [okCan, Bool.and_eq_true, decide_eq_true_eq, allB_true, Bool.or_eq_true] at h
  obtain ⟨_, h2⟩ := h
  have key : ∀ k, k < n → (k : Int) ≤ c k := by
    intro k
    induction k with
    | zero => intro hk; have := (h2 0 hk).1.1; omega
    | succ k ih =>
      intro hk
      have h3 := ih (by omega)
      have h4 := (h2 (k + 1) hk).2
      simp at h4
      omega
  rcases Nat.lt_or_ge 5 n with h6 | h6
  · have h7 := key 5 h6
    have h8 := (h2 5 h6).1.2
    omega
  · exact h6

set_option maxHeartbeats 1000000 in
theorem leastMisses_any (N : Nat) (v : Value) (B : Bk) (R : Fr) (s m : Nat) (w : World) (h : BoxAt N w v B R) (hg : Good B R) (hs : s < B.ns) (hm : m < B.nv) :
    Calls Try.prog 89 #[v, .int .i64 s, .int .i64 m] w fun e w' => e = .returned (.int .i64 (lm B R s m)) ∧ Below w.heap.size w w' := by
  have H : Hid (BoxAt N w v B R) := h
  have HG : Hid _ := Lib.hid hg
  obtain ⟨hN, a1, c1, a2, c2, a3, c3, af, cf, rfl, h1, h2, h3, h4⟩ := h
  have h3' := h3
  obtain ⟨_, _, e3, _, hc3⟩ := h3
  cases e3
  obtain ⟨b3, off3, rfl, hb3, hr3⟩ := hc3 (by omega)
  obtain ⟨r3, hcell3, ao, cap, rfl, hnc, hcr⟩ := hr3 s hs
  have hmc : (m : Int) < (B.nc s : Int) := by have := hg.nc s hs; omega
  obtain ⟨b4, off4, rfl, hb4, hr4⟩ := hcr (by omega)
  obtain ⟨r4, hcell4, a5, c5, rfl, hn5, hc5⟩ := hr4 m (by omega)
  have HC5 : Hid _ := Lib.hid hc5
  have g3 : b3 < w.heap.size := by omega
  have g4 : b4 < w.heap.size := by omega
  have hR5 := hg.n
  clear hg hc3 hr3 hcr hr4 h1 h2 h4 h3' hc5
  go_enter Try.func89, Try.ntmps89
  go_wp2
  go_loopw [7, 24] (fun t i wr => ∃ k : Nat, k ≤ B.ncc s m ∧ i = .int .i64 k ∧ t = .int .i64 (minTo k (fun i => mw B R s 0 m (B.can s m i)) R.n) ∧ Hid (Below (w.heap.size + 1) (w.alloc (.cells #[.slice a1 B.nv c1, .slice a2 B.nf c2, .slice (some ⟨b3, off3, none⟩) B.ns c3, .int .i64 B.wr, .slice af R.n cf] 93)) wr)) (fun _ i _ => B.ncc s m - (intOf i).toNat)
  case atStart => exact ⟨0, Nat.zero_le _, rfl, rfl, Below.refl _ _⟩
  case round =>
    obtain ⟨k, hk, rfl, rfl, hB⟩ := hrel
    by_cases hkn : k < B.ncc s m
    · obtain ⟨b5, off5, rfl, hb5, hr5⟩ := HC5.out (by omega)
      obtain ⟨r5, hcell5, rfl⟩ := hr5 k hkn
      clear hr5
      replace hcell5 := ((below_of hB.out).cell (p := ⟨b5, off5 + k, none⟩) (by show b5 < _; omega)).trans hcell5
      have q0 := box_cell hB.out 0 rfl
      have q1 := box_cell hB.out 1 rfl
      have q2 := box_cell hB.out 2 rfl
      have q3 := box_cell hB.out 3 rfl
      have q4 := box_cell hB.out 4 rfl
      have hle := minTo_le k (fun i => mw B R s 0 m (B.can s m i)) R.n
      have HE : Hid (minTo (k + 1) (fun i => mw B R s 0 m (B.can s m i)) R.n = min (minTo k (fun i => mw B R s 0 m (B.can s m i)) R.n) (mw B R s 0 m (B.can s m k))) := rfl
      generalize minTo k (fun i => mw B R s 0 m (B.can s m i)) R.n = t at *
      go_wp2_with (go_at_call 99; refine (missesWith_any N _ B R s m 0 _ _ (H.out.chain hB.out) HG.out hs hm).mono ?_; rintro e w1 ⟨rfl, hb1⟩)
      go_roundw
      case rel => exact ⟨k + 1, by omega, by go_num, by rw [HE.out]; first | rfl | (congr 1; omega), chain hB.out hb1⟩
      case measure => simp [intOf]; omega
    · have Hk : Hid (k = B.ncc s m) := by show k = _; omega
      go_wp2
      go_ret
      exact ⟨ret_int (congrArg (fun q => ((minTo q (fun i => mw B R s 0 m (B.can s m i)) R.n : Nat) : Int)) Hk.out), below_of hB.out⟩

/-- the least number of wrong values of a sort -/
def wrong (B : Bk) (R : Fr) (s : Nat) : Nat := sumTo B.nv (lm B R s)
theorem wrong_le {B : Bk} {R : Fr} (hg : Good B R) (s : Nat) : wrong B R s ≤ 30 := by
  have h1 := sumTo_le B.nv (lm B R s) 5 fun i _ => Nat.le_trans (lm_le B R s i) hg.n
  have h2 := hg.nv
  unfold wrong; omega

set_option maxHeartbeats 1000000 in
theorem wrong_any (N : Nat) (v : Value) (B : Bk) (R : Fr) (s : Nat) (w : World) (h : BoxAt N w v B R) (hg : Good B R) (hs : s < B.ns) :
    Calls Try.prog 67 #[v, .int .i64 s] w fun e w' => e = .returned (.int .i64 (wrong B R s)) ∧ Below w.heap.size w w' := by
  have H : Hid (BoxAt N w v B R) := h
  have HG : Hid _ := Lib.hid hg
  obtain ⟨hN, a1, c1, a2, c2, a3, c3, af, cf, rfl, h1, h2, h3, h4⟩ := h
  have hn6 := hg.nv
  clear hg h1 h2 h3 h4
  go_enter Try.func67, Try.ntmps67
  go_wp2
  go_loopw [5, 11] (fun t i wr => ∃ k : Nat, k ≤ B.nv ∧ i = .int .i64 k ∧ t = .int .i64 (sumTo k (lm B R s)) ∧ Hid (Below (w.heap.size + 1) (w.alloc (.cells #[.slice a1 B.nv c1, .slice a2 B.nf c2, .slice a3 B.ns c3, .int .i64 B.wr, .slice af R.n cf] 93)) wr)) (fun _ i _ => B.nv - (intOf i).toNat)
  case atStart => exact ⟨0, Nat.zero_le _, rfl, rfl, Below.refl _ _⟩
  case round =>
    obtain ⟨k, hk, rfl, rfl, hB⟩ := hrel
    by_cases hkn : k < B.nv
    · have q0 := box_cell hB.out 0 rfl
      have q1 := box_cell hB.out 1 rfl
      have q2 := box_cell hB.out 2 rfl
      have q3 := box_cell hB.out 3 rfl
      have q4 := box_cell hB.out 4 rfl
      have hle : sumTo k (lm B R s) ≤ 30 := by
        have h1 := sumTo_le k (lm B R s) 5 fun i _ => Nat.le_trans (lm_le B R s i) HG.out.n
        omega
      have hl5 : lm B R s k ≤ 5 := Nat.le_trans (lm_le B R s k) HG.out.n
      have HE : Hid (sumTo (k + 1) (lm B R s) = sumTo k (lm B R s) + lm B R s k) := rfl
      generalize sumTo k (lm B R s) = t at *
      go_wp2_with (go_at_call 89; refine (leastMisses_any N _ B R s k _ (H.out.chain hB.out) HG.out hs hkn).mono ?_; rintro e w1 ⟨rfl, hb1⟩)
      go_roundw
      case rel => exact ⟨k + 1, by omega, by go_num, by rw [HE.out]; go_num, chain hB.out hb1⟩
      case measure => simp [intOf]; omega
    · have Hk : Hid (k = B.nv) := by show k = _; omega
      go_wp2
      go_ret
      exact ⟨ret_int (congrArg (fun q => ((sumTo q (lm B R s) : Nat) : Int)) Hk.out), below_of hB.out⟩

def fewest (B : Bk) (R : Fr) : Nat := minTo B.ns (wrong B R) (wrong B R 0)

set_option maxHeartbeats 1000000 in
theorem fewest_any (N : Nat) (v : Value) (B : Bk) (R : Fr) (w : World) (h : BoxAt N w v B R) (hg : Good B R) (hs : 0 < B.ns) :
    Calls Try.prog 70 #[v] w fun e w' => e = .returned (.int .i64 (fewest B R)) ∧ Below w.heap.size w w' := by
  have H : Hid (BoxAt N w v B R) := h
  have HG : Hid _ := Lib.hid hg
  obtain ⟨hN, a1, c1, a2, c2, a3, c3, af, cf, rfl, h1, h2, h3, h4⟩ := h
  have hn6 := hg.ns
  clear hg h1 h2 h3 h4
  go_enter Try.func70, Try.ntmps70
  go_wp2_with (go_at_call 67; refine (wrong_any N _ B R 0 _ (H.out.in_alloc _) HG.out hs).mono ?_; rintro e w1 ⟨rfl, hb1⟩; have ch1 := chain (chain0 _ _) hb1; have q0 := box_cell ch1 0 rfl; have q1 := box_cell ch1 1 rfl; have q2 := box_cell ch1 2 rfl; have q3 := box_cell ch1 3 rfl; have q4 := box_cell ch1 4 rfl; clear hb1)
  have HC : Hid _ := Lib.hid ch1
  clear ch1 q0 q1 q2 q3 q4
  go_loopw [3, 11] (fun t i wr => ∃ k : Nat, k ≤ B.ns ∧ i = .int .i64 k ∧ t = .int .i64 (minTo k (wrong B R) (wrong B R 0)) ∧ Hid (Below (w.heap.size + 1) (w.alloc (.cells #[.slice a1 B.nv c1, .slice a2 B.nf c2, .slice a3 B.ns c3, .int .i64 B.wr, .slice af R.n cf] 93)) wr)) (fun _ i _ => B.ns - (intOf i).toNat)
  case atStart => exact ⟨0, Nat.zero_le _, rfl, rfl, HC.out⟩
  case round =>
    obtain ⟨k, hk, rfl, rfl, hB⟩ := hrel
    by_cases hkn : k < B.ns
    · have q0 := box_cell hB.out 0 rfl
      have q1 := box_cell hB.out 1 rfl
      have q2 := box_cell hB.out 2 rfl
      have q3 := box_cell hB.out 3 rfl
      have q4 := box_cell hB.out 4 rfl
      have hle : minTo k (wrong B R) (wrong B R 0) ≤ 30 := Nat.le_trans (minTo_le _ _ _) (wrong_le HG.out 0)
      have hl5 : wrong B R k ≤ 30 := wrong_le HG.out k
      have HE : Hid (minTo (k + 1) (wrong B R) (wrong B R 0) = min (minTo k (wrong B R) (wrong B R 0)) (wrong B R k)) := rfl
      generalize minTo k (wrong B R) (wrong B R 0) = t at *
      go_wp2_with (go_at_call 67; refine (wrong_any N _ B R k _ (H.out.chain hB.out) HG.out hkn).mono ?_; rintro e w1 ⟨rfl, hb1⟩)
      go_roundw
      case rel => exact ⟨k + 1, by omega, by go_num, by rw [HE.out]; first | rfl | (congr 1; omega), chain hB.out hb1⟩
      case measure => simp [intOf]; omega
    · have Hk : Hid (k = B.ns) := by show k = _; omega
      go_wp2
      go_ret
      exact ⟨ret_int (congrArg (fun q => ((minTo q (wrong B R) (wrong B R 0) : Nat) : Int)) Hk.out), below_of hB.out⟩

end Go.Proofs.Ytmmadlpkolcgkaa
