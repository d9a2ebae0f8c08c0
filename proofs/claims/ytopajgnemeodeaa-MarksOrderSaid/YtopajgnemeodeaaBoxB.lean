/-
  BoxB: contracts of the functions that its theorems name.
-/
import Derived.Test.YtopajgnemeodeaaWith
namespace Go.Proofs.Ytopajgnemeodeaa
open Go.RowKit

def maxTo : Nat → (Nat → Nat) → Nat
  | 0, _ => 0
  | n + 1, g => max (maxTo n g) (g n)
theorem maxTo_le (n : Nat) (g : Nat → Nat) (c : Nat) (h : ∀ i, i < n → g i ≤ c) : maxTo n g ≤ c := by
  induction n with
  | zero => simp [maxTo]
  | succ n ih =>
    have h1 := ih fun i hi => h i (by omega)
    have h2 := h n (by omega)
    simp only [maxTo]; omega

theorem Good.set {B : Bk} {R : Fr} (hg : Good B R) {f m : Nat} {x : Int} (hx : x = -1 ∨ (0 ≤ x ∧ x < B.V m)) : Good B (R.set f m x) :=
  ⟨hg.nv, hg.nf, hg.V, hg.F, hg.ns, hg.nc, hg.ncc, hg.can, hg.wr0, hg.wr9, hg.n, hg.L, by
    intro g hg' i hi
    by_cases h : g = f ∧ i = m
    · obtain ⟨rfl, rfl⟩ := h; simpa [Fr.set] using hx
    · have := hg.X g hg' i hi; simpa [Fr.set, h] using this⟩

theorem OwnI.form {N : Nat} {w : World} {v : Value} {l : List Int} (h : OwnI N w v l) : ∃ ao cap, v = .slice ao l.length cap := by
  obtain ⟨h1, ⟨rfl, h2⟩ | ⟨g, cap, cur, rfl, _⟩⟩ := h
  · exact ⟨none, 0, by rw [h2]⟩
  · exact ⟨_, _, rfl⟩

theorem sorts_len {B : Bk} (hg : B.ns ≤ 8) (R : Fr) : (sorts B R).length ≤ 8 := Nat.le_trans (sel_len _ _) hg

/-- so many sorts at the most, whatever is seen -/
def afterOf (B : Bk) (R : Fr) (f m : Nat) : Nat := maxTo (B.V m).toNat fun x => (sorts B (R.set f m x)).length

set_option maxHeartbeats 2000000 in
theorem after_any (N : Nat) (v : Value) (B : Bk) (R : Fr) (f m : Nat) (w : World) (h : BoxAt N w v B R) (hg : Good B R) (hf : f < R.n) (hm : m < B.nv) :
    Calls Try.prog 79 #[v, .agg #[.int .i64 f, .int .i64 m]] w fun e w' => e = .returned (.int .i64 (afterOf B R f m)) ∧ Below w.heap.size w w' := by
  have H : Hid (BoxAt N w v B R) := h
  have HG : Hid _ := Lib.hid hg
  obtain ⟨hN, a1, c1, a2, c2, a3, c3, af, cf, rfl, h1, h2, h3, h4⟩ := h
  obtain ⟨_, _, e1, _, hc1⟩ := h1
  cases e1
  obtain ⟨b1, off1, rfl, hb1, hr1⟩ := hc1 (by omega)
  obtain ⟨r1, hcell1, rfl⟩ := hr1 m hm
  have hV := hg.V m hm
  obtain ⟨n, hn⟩ : ∃ n : Nat, B.V m = n := ⟨(B.V m).toNat, by omega⟩
  have hn5 : n ≤ 5 := by omega
  have HV : Hid ((B.V m).toNat = n) := by unfold Hid; omega
  have HVn : Hid (B.V m = n) := hn
  rw [hn] at hcell1
  have g1 : b1 < w.heap.size := by omega
  have k1 : ∀ o o', ((w.alloc o).alloc o').cell? ⟨b1, off1 + m, none⟩ = some (.int .i64 n) := fun o o' => ((below_alloc (N := w.heap.size) (Nat.le_refl _) o).alloc (by simp) o') |>.cell (p := ⟨b1, off1 + m, none⟩) g1 |>.trans hcell1
  have H8 := hg.ns
  clear hg hc1 hr1 h2 h3 h4 hV hn
  go_enter Try.func79, Try.ntmps79
  go_wp2
  obtain ⟨ws, hws⟩ : ∃ ws : World, (w.alloc (.cells #[.slice (some ⟨b1, off1, none⟩) B.nv c1, .slice a2 B.nf c2, .slice a3 B.ns c3, .int .i64 B.wr, .slice af R.n cf] 93)).alloc (.cells #[.int .i64 f, .int .i64 m] 40) = ws := ⟨_, rfl⟩
  have hB0 : Below w.heap.size w ws := by
    rw [← hws]; exact ((Below.refl _ w).alloc (Nat.le_refl _) _).alloc (by simp) _
  have hsz : w.heap.size + 1 < ws.heap.size := by rw [← hws]; simp
  have hbox : Hid (ws.heap[w.heap.size]? = some (.cells #[.slice (some ⟨b1, off1, none⟩) B.nv c1, .slice a2 B.nf c2, .slice a3 B.ns c3, .int .i64 B.wr, .slice af R.n cf] 93) ∧ ws.heap[w.heap.size + 1]? = some (.cells #[.int .i64 f, .int .i64 m] 40)) := by
    rw [← hws]
    refine ⟨?_, ?_⟩
    · rw [Below.heap_alloc _ _ _ (by simp)]; exact World.alloc_heap_new _ _
    · have := World.alloc_heap_new (w.alloc (.cells #[.slice (some ⟨b1, off1, none⟩) B.nv c1, .slice a2 B.nf c2, .slice a3 B.ns c3, .int .i64 B.wr, .slice af R.n cf] 93)) (.cells #[.int .i64 f, .int .i64 m] 40); rwa [World.size_alloc] at this
  rw [hws]
  clear hws k1
  go_loopw [5, 14] (fun t i wr => ∃ k : Nat, k ≤ n ∧ i = .int .i64 k ∧ t = .int .i64 (maxTo k fun x => (sorts B (R.set f m x)).length) ∧ Hid (Below ws.heap.size ws wr)) (fun _ i _ => n - (intOf i).toNat)
  case atStart => exact ⟨0, Nat.zero_le _, rfl, rfl, Below.refl _ _⟩
  case round =>
    obtain ⟨k, hk, rfl, rfl, hB⟩ := hrel
    by_cases hkn : k < n
    · have hb0 := (hB.out.block _ (Nat.lt_of_succ_lt hsz)).trans hbox.out.1
      have hb1' := (hB.out.block _ hsz).trans hbox.out.2
      have q0 := cell_blk hb0 0 rfl
      have q1 := cell_blk hb0 1 rfl
      have q2 := cell_blk hb0 2 rfl
      have q3 := cell_blk hb0 3 rfl
      have q4 := cell_blk hb0 4 rfl
      have p0 := cell_blk hb1' 0 rfl
      have p1 := cell_blk hb1' 1 rfl
      have HW : Hid (Below w.heap.size w wr) := hB0.trans (hB.out.mono (by omega))
      have hl : maxTo k (fun x => (sorts B (R.set f m x)).length) ≤ 8 := maxTo_le _ _ _ fun i _ => sorts_len H8 _
      have hl2 := sorts_len H8 (R.set f m k)
      have HE : Hid (maxTo (k + 1) (fun x => (sorts B (R.set f m x)).length) = max (maxTo k (fun x => (sorts B (R.set f m x)).length)) (sorts B (R.set f m k)).length) := rfl
      have HS : Hid (Good B (R.set f m k)) := HG.out.set (.inr ⟨by omega, by rw [HVn.out]; omega⟩)
      clear hb0 hb1'
      generalize maxTo k (fun x => (sorts B (R.set f m x)).length) = t at *
      go_wp2_with (first
        | (go_at_call 95; refine (with_any N _ B R f m k _ (H.out.mono (HW.out.mono hN) (Nat.le_refl _) (Nat.le_trans hN HW.out.size)) HG.out hf hm).mono ?_; rintro e w1 ⟨u, rfl, hu, hw1⟩)
        | (go_at_call 71; refine (sorts_any _ _ B (R.set f m k) _ hu HS.out).mono ?_; rintro e w2 ⟨u2, rfl, ho, hw2⟩; obtain ⟨_, _, rfl⟩ := ho.form))
      go_roundw
      case rel => exact ⟨k + 1, by omega, by go_num, by rw [HE.out]; first | rfl | (congr 1; omega), (step hB.out (Nat.le_refl _) hw1).trans (hw2.mono (Nat.le_trans hB.out.size hw1.size))⟩
      case measure => simp [intOf]; omega
    · have Hk : Hid (k = n) := by show k = _; omega
      go_wp2
      go_ret
      exact ⟨ret_int (by unfold afterOf; rw [HV.out]; exact congrArg (fun q => ((maxTo q (fun x => (sorts B (R.set f m x)).length) : Nat) : Int)) Hk.out), hB0.trans (hB.out.mono (by omega))⟩

end Go.Proofs.Ytopajgnemeodeaa

namespace Go.Proofs.Ytopajgnemeodeaa
open Go.RowKit

theorem lm_wrong (B : Bk) (R : Fr) (s : Nat) {m : Nat} (hm : m < B.nv) : lm B R s m ≤ wrong B R s := by
  unfold wrong
  generalize B.nv = n at hm
  induction n with
  | zero => omega
  | succ n ih =>
    simp only [sumTo]
    rcases Nat.lt_succ_iff_lt_or_eq.1 hm with h | h
    · have := ih h; omega
    · subst h; omega

theorem keep7 {ws w0 w1 : World} {b : Nat} {x0 x1 x2 x3 x4 y0 y1 : Value} (h : w0.cell? ⟨b, 0, none⟩ = some x0 ∧ w0.cell? ⟨b, 1, none⟩ = some x1 ∧ w0.cell? ⟨b, 2, none⟩ = some x2 ∧ w0.cell? ⟨b, 3, none⟩ = some x3 ∧ w0.cell? ⟨b, 4, none⟩ = some x4 ∧ w0.cell? ⟨b + 1, 0, none⟩ = some y0 ∧ w0.cell? ⟨b + 1, 1, none⟩ = some y1 ∧ Hid (Below ws.heap.size ws w0)) (hb : b + 1 < ws.heap.size) (k : Below w0.heap.size w0 w1) :
    w1.cell? ⟨b, 0, none⟩ = some x0 ∧ w1.cell? ⟨b, 1, none⟩ = some x1 ∧ w1.cell? ⟨b, 2, none⟩ = some x2 ∧ w1.cell? ⟨b, 3, none⟩ = some x3 ∧ w1.cell? ⟨b, 4, none⟩ = some x4 ∧ w1.cell? ⟨b + 1, 0, none⟩ = some y0 ∧ w1.cell? ⟨b + 1, 1, none⟩ = some y1 ∧ Hid (Below ws.heap.size ws w1) := by
  obtain ⟨h0, h1, h2, h3, h4, g0, g1, hB⟩ := h
  have hlt : b < w0.heap.size := Nat.lt_of_lt_of_le (Nat.lt_of_succ_lt hb) hB.out.size
  have hlt2 : b + 1 < w0.heap.size := Nat.lt_of_lt_of_le hb hB.out.size
  exact ⟨(k.cell (p := ⟨b, 0, none⟩) hlt).trans h0, (k.cell (p := ⟨b, 1, none⟩) hlt).trans h1, (k.cell (p := ⟨b, 2, none⟩) hlt).trans h2, (k.cell (p := ⟨b, 3, none⟩) hlt).trans h3, (k.cell (p := ⟨b, 4, none⟩) hlt).trans h4, (k.cell (p := ⟨b + 1, 0, none⟩) hlt2).trans g0, (k.cell (p := ⟨b + 1, 1, none⟩) hlt2).trans g1, step hB.out (Nat.le_refl _) k⟩
theorem keep7_drew {ws w0 : World} {b : Nat} {x0 x1 x2 x3 x4 y0 y1 : Value} (h : w0.cell? ⟨b, 0, none⟩ = some x0 ∧ w0.cell? ⟨b, 1, none⟩ = some x1 ∧ w0.cell? ⟨b, 2, none⟩ = some x2 ∧ w0.cell? ⟨b, 3, none⟩ = some x3 ∧ w0.cell? ⟨b, 4, none⟩ = some x4 ∧ w0.cell? ⟨b + 1, 0, none⟩ = some y0 ∧ w0.cell? ⟨b + 1, 1, none⟩ = some y1 ∧ Hid (Below ws.heap.size ws w0)) :
    w0.drew.cell? ⟨b, 0, none⟩ = some x0 ∧ w0.drew.cell? ⟨b, 1, none⟩ = some x1 ∧ w0.drew.cell? ⟨b, 2, none⟩ = some x2 ∧ w0.drew.cell? ⟨b, 3, none⟩ = some x3 ∧ w0.drew.cell? ⟨b, 4, none⟩ = some x4 ∧ w0.drew.cell? ⟨b + 1, 0, none⟩ = some y0 ∧ w0.drew.cell? ⟨b + 1, 1, none⟩ = some y1 ∧ Hid (Below ws.heap.size ws w0.drew) := by
  obtain ⟨h0, h1, h2, h3, h4, g0, g1, hB⟩ := h
  exact ⟨h0, h1, h2, h3, h4, g0, g1, hB.out.drew⟩

/-- can the mark m of the fruit f really have the value x, in the sort s? -/
def ex (B : Bk) (R : Fr) (s f m : Nat) (x : Int) : Bool := (anyB (B.ncc s m) fun i => decide (x = B.can s m i)) && decide ((wrong B R s : Int) - lm B R s m + mw B R s f m x ≤ B.wr)

set_option maxHeartbeats 4000000 in
theorem explains_any (N : Nat) (v : Value) (B : Bk) (R : Fr) (s f m : Nat) (x : Int) (w : World) (h : BoxAt N w v B R) (hg : Good B R) (hs : s < B.ns) (hm : m < B.nv) :
    Calls Try.prog 93 #[v, .int .i64 s, .agg #[.int .i64 f, .int .i64 m], .int .i64 x] w fun e w' => e = .returned (.bool (ex B R s f m x)) ∧ Below w.heap.size w w' := by
  have H : Hid (BoxAt N w v B R) := h
  have HG : Hid _ := Lib.hid hg
  obtain ⟨hN, a1, c1, a2, c2, a3, c3, af, cf, rfl, h1, h2, h3, h4⟩ := h
  obtain ⟨_, _, e3, _, hc3⟩ := h3
  cases e3
  obtain ⟨b3, off3, rfl, hb3, hr3⟩ := hc3 (by omega)
  obtain ⟨r3, hcell3, ao, cap, rfl, hnc, hcr⟩ := hr3 s hs
  have hmc : (m : Int) < (B.nc s : Int) := by have := hg.nc s hs; omega
  obtain ⟨b4, off4, rfl, hb4, hr4⟩ := hcr (by omega)
  obtain ⟨r4, hcell4, hints⟩ := hr4 m (by omega)
  have HI : Hid (IntsAt N w r4 (B.ncc s m) (B.can s m)) := hints
  obtain ⟨a5, c5, rfl, hn5, _⟩ := hints
  have g3 : b3 < w.heap.size := by omega
  have g4 : b4 < w.heap.size := by omega
  have k3 : ∀ o o', ((w.alloc o).alloc o').cell? ⟨b3, off3 + s, none⟩ = some (.slice (some ⟨b4, off4, none⟩) (B.nc s) cap) := fun o o' => ((below_alloc (N := w.heap.size) (Nat.le_refl _) o).alloc (by simp) o') |>.cell (p := ⟨b3, off3 + s, none⟩) g3 |>.trans hcell3
  have k4 : ∀ o o', ((w.alloc o).alloc o').cell? ⟨b4, off4 + m, none⟩ = some (.slice a5 (B.ncc s m) c5) := fun o o' => ((below_alloc (N := w.heap.size) (Nat.le_refl _) o).alloc (by simp) o') |>.cell (p := ⟨b4, off4 + m, none⟩) g4 |>.trans hcell4
  have hw30 := wrong_le hg s
  have hlw := lm_wrong B R s hm
  have hmw : mw B R s f m x ≤ 5 := Nat.le_trans (bad_le _ _ _ _) hg.n
  obtain ⟨ws, hws⟩ : ∃ ws : World, (w.alloc (.cells #[.slice a1 B.nv c1, .slice a2 B.nf c2, .slice (some ⟨b3, off3, none⟩) B.ns c3, .int .i64 B.wr, .slice af R.n cf] 93)).alloc (.cells #[.int .i64 f, .int .i64 m] 40) = ws := ⟨_, rfl⟩
  have hB0 : Below w.heap.size w ws := by
    rw [← hws]; exact ((Below.refl _ w).alloc (Nat.le_refl _) _).alloc (by simp) _
  have hsz : w.heap.size + 1 < ws.heap.size := by rw [← hws]; simp
  have hbox : ws.heap[w.heap.size]? = some (.cells #[.slice a1 B.nv c1, .slice a2 B.nf c2, .slice (some ⟨b3, off3, none⟩) B.ns c3, .int .i64 B.wr, .slice af R.n cf] 93) ∧ ws.heap[w.heap.size + 1]? = some (.cells #[.int .i64 f, .int .i64 m] 40) := by
    rw [← hws]
    refine ⟨?_, ?_⟩
    · rw [Below.heap_alloc _ _ _ (by simp)]; exact World.alloc_heap_new _ _
    · have := World.alloc_heap_new (w.alloc (.cells #[.slice a1 B.nv c1, .slice a2 B.nf c2, .slice (some ⟨b3, off3, none⟩) B.ns c3, .int .i64 B.wr, .slice af R.n cf] 93)) (.cells #[.int .i64 f, .int .i64 m] 40); rwa [World.size_alloc] at this
  have HS : Hid (ws.cell? ⟨w.heap.size, 0, none⟩ = some (.slice a1 B.nv c1) ∧ ws.cell? ⟨w.heap.size, 1, none⟩ = some (.slice a2 B.nf c2) ∧ ws.cell? ⟨w.heap.size, 2, none⟩ = some (.slice (some ⟨b3, off3, none⟩) B.ns c3) ∧ ws.cell? ⟨w.heap.size, 3, none⟩ = some (.int .i64 B.wr) ∧ ws.cell? ⟨w.heap.size, 4, none⟩ = some (.slice af R.n cf) ∧ ws.cell? ⟨w.heap.size + 1, 0, none⟩ = some (.int .i64 f) ∧ ws.cell? ⟨w.heap.size + 1, 1, none⟩ = some (.int .i64 m) ∧ Hid (Below ws.heap.size ws ws)) :=
    ⟨cell_blk hbox.1 0 rfl, cell_blk hbox.1 1 rfl, cell_blk hbox.1 2 rfl, cell_blk hbox.1 3 rfl, cell_blk hbox.1 4 rfl, cell_blk hbox.2 0 rfl, cell_blk hbox.2 1 rfl, Below.refl _ _⟩
  replace k3 := k3 (.cells #[.slice a1 B.nv c1, .slice a2 B.nf c2, .slice (some ⟨b3, off3, none⟩) B.ns c3, .int .i64 B.wr, .slice af R.n cf] 93) (.cells #[.int .i64 f, .int .i64 m] 40)
  replace k4 := k4 (.cells #[.slice a1 B.nv c1, .slice a2 B.nf c2, .slice (some ⟨b3, off3, none⟩) B.ns c3, .int .i64 B.wr, .slice af R.n cf] 93) (.cells #[.int .i64 f, .int .i64 m] 40)
  rw [hws] at k3 k4
  have HK3 : Hid _ := Lib.hid k3
  have HK4 : Hid _ := Lib.hid k4
  have HWS : Hid _ := Lib.hid hws
  have HIs : Hid (IntsAt N ws (.slice a5 (B.ncc s m) c5) (B.ncc s m) (B.can s m)) := HI.out.mono (hB0.mono hN) (Nat.le_refl _)
  clear hg hc3 hr3 hcr hr4 h1 h2 h4 k3 k4 hws hbox
  go_enter Try.func93, Try.ntmps93
  go_wp2
  rw [HWS.out]
  have hs7 := HS.out
  obtain ⟨q0, q1, q2, q3, q4, p0, p1, _⟩ := hs7
  have k3 := HK3.out
  have k4 := HK4.out
  cases hin : anyB (B.ncc s m) fun i => decide (x = B.can s m i) with
  | false =>
    have HIN : Hid _ := Lib.hid hin
    clear hin
    go_quiet ((go_at_call 73; exact Calls.quiet_of_same ((contains_any N _ _ _ _ _ (HIs.out.mono (below_drewN (Below.refl _ _) _) (Nat.le_refl _))).mono (fun e w' hh => by rw [HIN.out] at hh; exact hh))))
    go_wp2
    go_ret
    exact ⟨ret_bool (by unfold ex; rw [HIN.out, Bool.false_and]), below_drewN hB0 _⟩
  | true =>
    have HIN : Hid _ := Lib.hid hin
    clear hin
    go_quiet ((go_at_call 73; exact Calls.quiet_of_same ((contains_any N _ _ _ _ _ (HIs.out.mono (below_drewN (Below.refl _ _) _) (Nat.le_refl _))).mono (fun e w' hh => by rw [HIN.out] at hh; exact hh))))
    go_wp2
    obtain ⟨wr, hwr⟩ : ∃ wr : World, ws.drewN nq = wr := ⟨_, rfl⟩
    have hSr : wr.cell? ⟨w.heap.size, 0, none⟩ = some (.slice a1 B.nv c1) ∧ wr.cell? ⟨w.heap.size, 1, none⟩ = some (.slice a2 B.nf c2) ∧ wr.cell? ⟨w.heap.size, 2, none⟩ = some (.slice (some ⟨b3, off3, none⟩) B.ns c3) ∧ wr.cell? ⟨w.heap.size, 3, none⟩ = some (.int .i64 B.wr) ∧ wr.cell? ⟨w.heap.size, 4, none⟩ = some (.slice af R.n cf) ∧ wr.cell? ⟨w.heap.size + 1, 0, none⟩ = some (.int .i64 f) ∧ wr.cell? ⟨w.heap.size + 1, 1, none⟩ = some (.int .i64 m) ∧ Hid (Below ws.heap.size ws wr) := by
      rw [← hwr]; exact ⟨q0, q1, q2, q3, q4, p0, p1, below_drewN (Below.refl _ _) _⟩
    have bx : Hid (∀ W : World, (W.cell? ⟨w.heap.size, 0, none⟩ = some (.slice a1 B.nv c1) ∧ W.cell? ⟨w.heap.size, 1, none⟩ = some (.slice a2 B.nf c2) ∧ W.cell? ⟨w.heap.size, 2, none⟩ = some (.slice (some ⟨b3, off3, none⟩) B.ns c3) ∧ W.cell? ⟨w.heap.size, 3, none⟩ = some (.int .i64 B.wr) ∧ W.cell? ⟨w.heap.size, 4, none⟩ = some (.slice af R.n cf) ∧ W.cell? ⟨w.heap.size + 1, 0, none⟩ = some (.int .i64 f) ∧ W.cell? ⟨w.heap.size + 1, 1, none⟩ = some (.int .i64 m) ∧ Hid (Below ws.heap.size ws W)) → BoxAt N W (.agg #[.slice a1 B.nv c1, .slice a2 B.nf c2, .slice (some ⟨b3, off3, none⟩) B.ns c3, .int .i64 B.wr, .slice af R.n cf]) B R) := by
      rintro W ⟨_, _, _, _, _, _, _, hW⟩
      have hh : Below w.heap.size w W := hB0.trans (hW.out.mono (by omega))
      exact H.out.mono (hh.mono hN) (Nat.le_refl _) (Nat.le_trans hN hh.size)
    rw [hwr]
    have hS0 := keep7_drew hSr
    have HSr : Hid _ := Lib.hid hSr
    clear hwr hSr q0 q1 q2 q3 q4 p0 p1 k3 k4
    have e1 : IntKind.i64.wrap ((wrong B R s : Int) - (lm B R s m : Int)) = (wrong B R s : Int) - (lm B R s m : Int) := IntWalk.i64_in _ (by omega)
    have e2 : IntKind.i64.wrap ((wrong B R s : Int) - (lm B R s m : Int) + (mw B R s f m x : Int)) = (wrong B R s : Int) - (lm B R s m : Int) + (mw B R s f m x : Int) := IntWalk.i64_in _ (by omega)
    go_region_held3 (fun w' => w'.cell? ⟨w.heap.size, 0, none⟩ = some (.slice a1 B.nv c1) ∧ w'.cell? ⟨w.heap.size, 1, none⟩ = some (.slice a2 B.nf c2) ∧ w'.cell? ⟨w.heap.size, 2, none⟩ = some (.slice (some ⟨b3, off3, none⟩) B.ns c3) ∧ w'.cell? ⟨w.heap.size, 3, none⟩ = some (.int .i64 B.wr) ∧ w'.cell? ⟨w.heap.size, 4, none⟩ = some (.slice af R.n cf) ∧ w'.cell? ⟨w.heap.size + 1, 0, none⟩ = some (.int .i64 f) ∧ w'.cell? ⟨w.heap.size + 1, 1, none⟩ = some (.int .i64 m) ∧ Hid (Below ws.heap.size ws w')) (assumption)
      (first
        | (go_at_call 67; refine (wrong_any N _ B R s _ (bx.out _ (by assumption)) HG.out hs).mono ?_; rintro e w1 ⟨rfl, hb1⟩; have S1 := keep7 (by assumption) hsz hb1)
        | (go_at_call 89; refine (leastMisses_any N _ B R s m _ (bx.out _ (by assumption)) HG.out hs hm).mono ?_; rintro e w1 ⟨rfl, hb1⟩; have S1 := keep7 (by assumption) hsz hb1))
    all_goals
      go_wp2
      have hS2 := keep7_drew S1
      go_region_held3 (fun w' => w'.cell? ⟨w.heap.size, 0, none⟩ = some (.slice a1 B.nv c1) ∧ w'.cell? ⟨w.heap.size, 1, none⟩ = some (.slice a2 B.nf c2) ∧ w'.cell? ⟨w.heap.size, 2, none⟩ = some (.slice (some ⟨b3, off3, none⟩) B.ns c3) ∧ w'.cell? ⟨w.heap.size, 3, none⟩ = some (.int .i64 B.wr) ∧ w'.cell? ⟨w.heap.size, 4, none⟩ = some (.slice af R.n cf) ∧ w'.cell? ⟨w.heap.size + 1, 0, none⟩ = some (.int .i64 f) ∧ w'.cell? ⟨w.heap.size + 1, 1, none⟩ = some (.int .i64 m) ∧ Hid (Below ws.heap.size ws w')) (assumption)
        (first
          | (go_at_call 99; refine (missesWith_any N _ B R s m f x _ (bx.out _ (by assumption)) HG.out hs hm).mono ?_; rintro e w2 ⟨rfl, hb2⟩; have S3 := keep7 (by assumption) hsz hb2))
      all_goals
        go_wp2
        go_ret
        obtain ⟨_, _, _, _, _, _, _, hfin⟩ := S3
        exact ⟨ret_bool (by unfold ex; rw [HIN.out, Bool.true_and]), hB0.trans (hfin.out.mono (by omega))⟩

end Go.Proofs.Ytopajgnemeodeaa

namespace Go.Proofs.Ytopajgnemeodeaa
open Go.RowKit

/-- the values that the mark m of the fruit f really has in truths -/
def exAny (B : Bk) (R : Fr) (f m : Nat) (x : Int) : Bool := anyB B.ns fun s => ex B R s f m x
def vals (B : Bk) (R : Fr) (f m : Nat) : List Int := sel (fun x => exAny B R f m x) (B.V m).toNat

set_option maxHeartbeats 4000000 in
theorem values_any (N : Nat) (v : Value) (B : Bk) (R : Fr) (f m : Nat) (w : World) (h : BoxAt N w v B R) (hg : Good B R) (hm : m < B.nv) :
    Calls Try.prog 76 #[v, .agg #[.int .i64 f, .int .i64 m]] w (GivesI w.heap.size w (vals B R f m)) := by
  have H : Hid (BoxAt N w v B R) := h
  have HG : Hid _ := Lib.hid hg
  obtain ⟨i0, hi, hz0, hz1, hz2⟩ := info_parts Try.infoInt
  obtain ⟨hN, a1, c1, a2, c2, a3, c3, af, cf, rfl, h1, h2, h3, h4⟩ := h
  obtain ⟨_, _, e1, _, hc1⟩ := h1
  cases e1
  obtain ⟨b1, off1, rfl, hb1, hr1⟩ := hc1 (by omega)
  obtain ⟨r1, hcell1, rfl⟩ := hr1 m hm
  have hV := hg.V m hm
  obtain ⟨n, hn⟩ : ∃ n : Nat, B.V m = n := ⟨(B.V m).toNat, by omega⟩
  have hn5 : n ≤ 5 := by omega
  have HV : Hid ((B.V m).toNat = n) := by unfold Hid; omega
  rw [hn] at hcell1
  have g1 : b1 < w.heap.size := by omega
  have k1 : ∀ o o', ((w.alloc o).alloc o').cell? ⟨b1, off1 + m, none⟩ = some (.int .i64 n) := fun o o' => ((below_alloc (N := w.heap.size) (Nat.le_refl _) o).alloc (by simp) o') |>.cell (p := ⟨b1, off1 + m, none⟩) g1 |>.trans hcell1
  have H8 := hg.ns
  clear hg hc1 hr1 h2 h3 h4 hV hn
  go_enter Try.func76, Try.ntmps76
  go_wp2
  obtain ⟨ws, hws⟩ : ∃ ws : World, (w.alloc (.cells #[.slice (some ⟨b1, off1, none⟩) B.nv c1, .slice a2 B.nf c2, .slice a3 B.ns c3, .int .i64 B.wr, .slice af R.n cf] 93)).alloc (.cells #[.int .i64 f, .int .i64 m] 40) = ws := ⟨_, rfl⟩
  have hB0 : Below w.heap.size w ws := by
    rw [← hws]; exact ((Below.refl _ w).alloc (Nat.le_refl _) _).alloc (by simp) _
  have hsz : w.heap.size + 1 < ws.heap.size := by rw [← hws]; simp
  have hbox : Hid (ws.heap[w.heap.size]? = some (.cells #[.slice (some ⟨b1, off1, none⟩) B.nv c1, .slice a2 B.nf c2, .slice a3 B.ns c3, .int .i64 B.wr, .slice af R.n cf] 93) ∧ ws.heap[w.heap.size + 1]? = some (.cells #[.int .i64 f, .int .i64 m] 40)) := by
    rw [← hws]
    refine ⟨?_, ?_⟩
    · rw [Below.heap_alloc _ _ _ (by simp)]; exact World.alloc_heap_new _ _
    · have := World.alloc_heap_new (w.alloc (.cells #[.slice (some ⟨b1, off1, none⟩) B.nv c1, .slice a2 B.nf c2, .slice a3 B.ns c3, .int .i64 B.wr, .slice af R.n cf] 93)) (.cells #[.int .i64 f, .int .i64 m] 40); rwa [World.size_alloc] at this
  rw [hws]
  clear hws k1
  go_loopw [5, 15] (fun t i wr => ∃ k : Nat, k ≤ n ∧ i = .int .i64 k ∧ Hid (OwnI ws.heap.size wr t (sel (fun x => exAny B R f m x) k)) ∧ Hid (Below ws.heap.size ws wr)) (fun _ i _ => n - (intOf i).toNat)
  case atStart => exact ⟨0, Nat.zero_le _, rfl, World.ownsRow_nil _ _ _ _, Below.refl _ _⟩
  case round =>
    obtain ⟨k, hk, rfl, ho, hB⟩ := hrel
    by_cases hkn : k < n
    · have hb0 := (hB.out.block _ (Nat.lt_of_succ_lt hsz)).trans hbox.out.1
      have q2 := cell_blk hb0 2 rfl
      clear hb0
      have hsl := sel_len (fun x => exAny B R f m x) k
      go_wp2
      obtain ⟨wo, rfl⟩ : ∃ wo : World, wo = wr := ⟨_, rfl⟩
      obtain ⟨T, rfl⟩ : ∃ T, T = u5 := ⟨_, rfl⟩
      clear q2
      go_loopw [5, 22] (fun t i wr => ∃ j : Nat, j ≤ B.ns ∧ i = .int .i64 j ∧ t = T ∧ Hid (∀ s, s < j → ex B R s f m k = false) ∧ Hid (Below wo.heap.size wo wr)) (fun _ i _ => B.ns - (intOf i).toNat)
      case atStart => exact ⟨0, Nat.zero_le _, rfl, rfl, fun j hj => absurd hj (Nat.not_lt_zero j), Below.refl _ _⟩
      case round =>
        obtain ⟨j, hj, rfl, rfl, hno, hC⟩ := hrel
        by_cases hjn : j < B.ns
        · have hD : Hid (Below ws.heap.size ws wr) := step hB.out (Nat.le_refl _) hC.out
          have hb0 := (hD.out.block _ (Nat.lt_of_succ_lt hsz)).trans hbox.out.1
          have hb1' := (hD.out.block _ hsz).trans hbox.out.2
          have q0 := cell_blk hb0 0 rfl
          have q1 := cell_blk hb0 1 rfl
          have q2 := cell_blk hb0 2 rfl
          have q3 := cell_blk hb0 3 rfl
          have q4 := cell_blk hb0 4 rfl
          have p0 := cell_blk hb1' 0 rfl
          have p1 := cell_blk hb1' 1 rfl
          have HW : Hid (Below w.heap.size w wr) := hB0.trans (hD.out.mono (by omega))
          clear hb0 hb1'
          cases hex : ex B R j f m k with
          | true =>
            have HEX : Hid _ := Lib.hid hex
            have HP : Hid (sel (fun x => exAny B R f m x) (k + 1) = sel (fun x => exAny B R f m x) k ++ [(k : Int)]) := sel_hit (anyB_true.2 ⟨j, hjn, hex⟩)
            clear hex
            generalize sel (fun x => exAny B R f m x) k = l at *
            go_wp2_with (first
              | (go_at_call 93; refine (explains_any N _ B R j f m _ _ (H.out.mono (HW.out.mono hN) (Nat.le_refl _) (Nat.le_trans hN HW.out.size)) HG.out hjn hm).mono ?_; rintro e w1 ⟨rfl, hb1⟩; rw [HEX.out]; have hown1 := own_below (own_below ho.out hC.out) hb1; have hE := step hD.out (Nat.le_refl _) hb1)
              | (at_builtin; refine wpList_append_own _ rfl _ _ 22 rfl ws.heap.size 3 i0 (.int .i64 0) 1 8 Try.underlying22 hi hz0 hz1 hz2 rfl (by decide) _ _ _ rfl (hown1.alloc _) ⟨w1.heap.size, 0, none⟩ 1 1 [.int .i64 k] rfl rfl (cell_one_new _ _ _) (by simp [Value.oneCell']) (by unfold maxLen; omega) (by omega) (Nat.le_trans hE.size (by simp)) ?_; intro v' w2 hown2 hgrow _))
            go_roundw
            case rel => exact ⟨k + 1, by omega, by go_num, by rw [HP.out]; unfold Hid OwnI; rw [List.length_append, List.map_append]; exact hown2, (Below.alloc hE hE.size _).grown hgrow (Nat.le_trans hE.size (by simp)) (fun j e => (hown1.lt j e).1)⟩
            case measure => simp [intOf]; omega
          | false =>
            have HEX : Hid _ := Lib.hid hex
            clear hex
            go_wp2_with (first
              | (go_at_call 93; refine (explains_any N _ B R j f m _ _ (H.out.mono (HW.out.mono hN) (Nat.le_refl _) (Nat.le_trans hN HW.out.size)) HG.out hjn hm).mono ?_; rintro e w1 ⟨rfl, hb1⟩; rw [HEX.out]))
            go_roundw
            case rel => exact ⟨j + 1, by omega, by go_num, rfl, lt_succ hno.out HEX.out, step hC.out (Nat.le_refl _) hb1⟩
            case measure => simp [intOf]; omega
        · have HP : Hid (sel (fun x => exAny B R f m x) (k + 1) = sel (fun x => exAny B R f m x) k) := sel_miss (anyB_false.2 fun s hs => hno.out s (by omega))
          have HO : Hid _ := Lib.hid (own_below ho.out hC.out)
          go_wp2
          go_roundw
          case rel => exact ⟨k + 1, by omega, by go_num, by rw [HP.out]; exact HO.out, step hB.out (Nat.le_refl _) hC.out⟩
          case measure => simp [intOf]; omega
    · have Hk : Hid (k = n) := by show k = _; omega
      go_wp2
      go_ret
      exact ⟨_, rfl, by unfold vals; rw [HV.out, ← Hk.out]; exact own_mono ho.out (by omega), hB0.trans (hB.out.mono (by omega))⟩

end Go.Proofs.Ytopajgnemeodeaa

namespace Go.Proofs.Ytopajgnemeodeaa
open Go.RowKit

/-- places -/
def OwnP (N : Nat) (w : World) (v : Value) (l : List (Nat × Nat)) : Prop := w.ownsRow N 40 2 v l.length (l.flatMap fun p => [Value.int .i64 (p.1 : Int), Value.int .i64 (p.2 : Int)])
def GivesP (N : Nat) (w : World) (l : List (Nat × Nat)) (e : Ending) (w' : World) : Prop := ∃ v, e = .returned v ∧ OwnP N w' v l ∧ Below N w w'

def rowP (p : Nat → Nat → Bool) (f : Nat) : Nat → List (Nat × Nat)
  | 0 => []
  | i + 1 => if p f i then rowP p f i ++ [(f, i)] else rowP p f i
def allP (p : Nat → Nat → Bool) (n : Nat) : Nat → List (Nat × Nat)
  | 0 => []
  | f + 1 => allP p n f ++ rowP p f n
theorem rowP_len (p : Nat → Nat → Bool) (f i : Nat) : (rowP p f i).length ≤ i := by
  induction i with
  | zero => simp [rowP]
  | succ i ih =>
    unfold rowP; split
    · simp; omega
    · omega
theorem allP_len (p : Nat → Nat → Bool) (n f : Nat) : (allP p n f).length ≤ f * n := by
  induction f with
  | zero => simp [allP]
  | succ f ih =>
    have := rowP_len p f n
    unfold allP; rw [List.length_append, Nat.succ_mul]; omega

theorem Try.infoPlace : (Try.prog.info? 40).map (fun i => (i.zero, i.size, i.bytes)) = some (some (.agg #[.int .i64 0, .int .i64 0]), 2, 16) := by kernel_rfl

/-- is the value that was seen wrong in each truth? -/
def misB (B : Bk) (R : Fr) (f i : Nat) : Bool := decide (R.X f i ≠ -1) && !exAny B R f i (R.X f i)
def mistakes (B : Bk) (R : Fr) : List (Nat × Nat) := allP (misB B R) B.nv R.n

theorem cells_new (w : World) (cs : List Value) (t : TypeId) : ∀ j u, cs[j]? = some u → (w.alloc (.cells cs.toArray t)).cell? ((⟨w.heap.size, 0, none⟩ : Addr).add j) = some u := by
  intro j u h
  rw [addr_add, Nat.zero_add, World.cell?_alloc_new]
  simpa using h

set_option maxHeartbeats 4000000 in
theorem mistakes_any (N : Nat) (v : Value) (B : Bk) (R : Fr) (w : World) (h : BoxAt N w v B R) (hg : Good B R) :
    Calls Try.prog 78 #[v] w (GivesP w.heap.size w (mistakes B R)) := by
  have H : Hid (BoxAt N w v B R) := h
  have HG : Hid _ := Lib.hid hg
  obtain ⟨i0, hi, hz0, hz1, hz2⟩ := info_parts Try.infoPlace
  obtain ⟨hN, a1, c1, a2, c2, a3, c3, af, cf, rfl, h1, h2, h3, h4⟩ := h
  obtain ⟨_, _, e4, _, hc4⟩ := h4
  cases e4
  have HC4 : Hid _ := Lib.hid hc4
  have H8 := hg.ns
  have H5 := hg.n
  have H6 := hg.nv
  clear hg h1 h2 h3 hc4
  go_enter Try.func78, Try.ntmps78
  go_wp2
  go_loopw [3, 13] (fun t i wr => ∃ k : Nat, k ≤ R.n ∧ i = .int .i64 k ∧ Hid (OwnP (w.heap.size + 1) wr t (allP (misB B R) B.nv k)) ∧ Hid (Below (w.heap.size + 1) (w.alloc (.cells #[.slice a1 B.nv c1, .slice a2 B.nf c2, .slice a3 B.ns c3, .int .i64 B.wr, .slice af R.n cf] 93)) wr)) (fun _ i _ => R.n - (intOf i).toNat)
  case atStart => exact ⟨0, Nat.zero_le _, rfl, World.ownsRow_nil _ _ _ _, Below.refl _ _⟩
  case round =>
    obtain ⟨k, hk, rfl, ho, hB⟩ := hrel
    by_cases hkn : k < R.n
    · obtain ⟨b4, off4, rfl, hb4, hr4⟩ := HC4.out (by omega)
      obtain ⟨r4, hcell4, ao, cap, rfl, hL, hcr⟩ := hr4 k hkn
      have HCR : Hid _ := Lib.hid hcr
      have HL : Hid (R.L k = B.nv) := HG.out.L k hkn
      replace hcell4 := ((below_of hB.out).cell (p := ⟨b4, off4 + k, none⟩) (by show b4 < _; omega)).trans hcell4
      clear hr4 hcr
      go_wp2
      obtain ⟨wo, rfl⟩ : ∃ wo : World, wo = wr := ⟨_, rfl⟩
      have hal := allP_len (misB B R) B.nv k
      have hal2 : (allP (misB B R) B.nv k).length ≤ 30 := Nat.le_trans hal (Nat.le_trans (Nat.mul_le_mul (by omega : k ≤ 5) H6) (by decide))
      clear hcell4 hal
      go_step3
      go_wp2
      go_step3
      go_wp2
      go_loopw [3, 20] (fun t i wr => ∃ j : Nat, j ≤ R.L k ∧ i = .int .i64 j ∧ Hid (OwnP (w.heap.size + 1) wr t (allP (misB B R) B.nv k ++ rowP (misB B R) k j)) ∧ Hid (Below (w.heap.size + 1) (w.alloc (.cells #[.slice a1 B.nv c1, .slice a2 B.nf c2, .slice a3 B.ns c3, .int .i64 B.wr, .slice (some ⟨b4, off4, none⟩) R.n cf] 93)) wr)) (fun _ i _ => R.L k - (intOf i).toNat)
      case atStart => exact ⟨0, Nat.zero_le _, rfl, by unfold rowP; rw [List.append_nil]; exact ho, hB⟩
      case round =>
        obtain ⟨j, hj, rfl, ho2, hB2⟩ := hrel
        by_cases hjn : j < R.L k
        · obtain ⟨b5, off5, rfl, hb5, hr5⟩ := HCR.out (by omega)
          obtain ⟨r5, hcell5, rfl⟩ := hr5 j hjn
          replace hcell5 := ((below_of hB2.out).cell (p := ⟨b5, off5 + j, none⟩) (by show b5 < _; omega)).trans hcell5
          clear hr5
          have hrl := rowP_len (misB B R) k j
          by_cases hx : R.X k j = -1
          · have hxe : (R.X k j == -1) = true := by simp [hx]
            have HP : Hid (rowP (misB B R) k (j + 1) = rowP (misB B R) k j) := by unfold Hid; simp [rowP, misB, hx]
            clear hx
            go_wp2
            go_roundw
            case rel => exact ⟨j + 1, by omega, by go_num, by rw [HP.out]; exact ho2, hB2⟩
            case measure => simp [intOf]; omega
          · have hxe : (R.X k j == -1) = false := by simp [hx]
            have HX : Hid (¬ R.X k j = -1) := hx
            clear hx
            have q2 := box_cell hB2.out 2 rfl
            have hsz := size_of hB2.out
            go_wp2
            have hPl : Hid (Below (w.heap.size + 1) (w.alloc (.cells #[.slice a1 B.nv c1, .slice a2 B.nf c2, .slice a3 B.ns c3, .int .i64 B.wr, .slice (some ⟨b4, off4, none⟩) R.n cf] 93)) (wr.alloc (.cells #[.int .i64 k, .int .i64 j] 40))) := chain_alloc hB2.out _
            obtain ⟨wi, rfl⟩ : ∃ wi : World, wi = wr := ⟨_, rfl⟩
            have HO : Hid _ := Lib.hid (ho2.out.alloc (.cells #[.int .i64 k, .int .i64 j] 40))
            clear q2 hcell5
            go_loopw [34] (fun i wr => ∃ q : Nat, q ≤ B.ns ∧ i = .int .i64 q ∧ Hid (∀ s, s < q → ex B R s k j (R.X k j) = false) ∧ Hid (Below (wi.heap.size + 1) (wi.alloc (.cells #[.int .i64 k, .int .i64 j] 40)) wr)) (fun i _ => B.ns - (intOf i).toNat)
            case atStart => exact ⟨0, Nat.zero_le _, rfl, fun j hj => absurd hj (Nat.not_lt_zero j), Below.refl _ _⟩
            case round =>
              obtain ⟨q, hq, rfl, hno, hC⟩ := hrel
              have hD : Hid (Below (w.heap.size + 1) (w.alloc (.cells #[.slice a1 B.nv c1, .slice a2 B.nf c2, .slice a3 B.ns c3, .int .i64 B.wr, .slice (some ⟨b4, off4, none⟩) R.n cf] 93)) wr) := hPl.out.trans (hC.out.mono (by omega))
              have HO2 : Hid _ := Lib.hid (own_below HO.out (hC.out.mono (by simp)))
              have p0 := box_cell hC.out 0 rfl
              have p1 := box_cell hC.out 1 rfl
              by_cases hqn : q < B.ns
              · have q0 := box_cell hD.out 0 rfl
                have q1 := box_cell hD.out 1 rfl
                have q2 := box_cell hD.out 2 rfl
                have q3 := box_cell hD.out 3 rfl
                have q4 := box_cell hD.out 4 rfl
                have hjv : j < B.nv := by have := HL.out; omega
                cases hex : ex B R q k j (R.X k j) with
                | true =>
                  have HEX : Hid _ := Lib.hid hex
                  have HP : Hid (rowP (misB B R) k (j + 1) = rowP (misB B R) k j) := by
                    have hz : exAny B R k j (R.X k j) = true := anyB_true.2 ⟨q, hqn, hex⟩
                    unfold Hid; simp [rowP, misB, hz]
                  clear hex
                  go_wp2_with (first
                    | (go_at_call 93; refine (explains_any N _ B R q k j _ _ (H.out.chain hD.out) HG.out hqn hjv).mono ?_; rintro e w1 ⟨rfl, hb1⟩; rw [HEX.out]))
                  go_roundw
                  case rel => exact ⟨j + 1, by omega, by go_num, by rw [HP.out]; exact own_below HO2.out hb1, chain hD.out hb1⟩
                  case measure => simp [intOf]; omega
                | false =>
                  have HEX : Hid _ := Lib.hid hex
                  clear hex
                  go_wp2_with (first
                    | (go_at_call 93; refine (explains_any N _ B R q k j _ _ (H.out.chain hD.out) HG.out hqn hjv).mono ?_; rintro e w1 ⟨rfl, hb1⟩; rw [HEX.out]))
                  go_roundw
                  case rel => exact ⟨q + 1, by omega, by go_num, lt_succ hno.out HEX.out, chain hC.out hb1⟩
                  case measure => simp [intOf]; omega
              · have HP : Hid (rowP (misB B R) k (j + 1) = rowP (misB B R) k j ++ [(k, j)]) := by
                  have hz : exAny B R k j (R.X k j) = false := anyB_false.2 fun s hs => hno.out s (by omega)
                  unfold Hid; simp [rowP, misB, hz, HX.out]
                have hrl2 : (allP (misB B R) B.nv k ++ rowP (misB B R) k j).length ≤ 40 := by
                  have := HL.out
                  rw [List.length_append]; omega
                have hsz2 := size_of hD.out
                have hown := HO2.out
                generalize hll : allP (misB B R) B.nv k ++ rowP (misB B R) k j = l at *
                have HLL : Hid _ := Lib.hid hll
                clear hll
                go_wp2_with (at_builtin; refine wpList_append_own _ rfl _ _ 48 rfl (w.heap.size + 1) 40 i0 (.agg #[.int .i64 0, .int .i64 0]) 2 16 Try.underlying48 hi hz0 hz1 hz2 rfl (by decide) _ _ _ rfl (hown.alloc _) ⟨wr.heap.size, 0, none⟩ 1 1 [.int .i64 k, .int .i64 j] rfl rfl (cells_new _ _ _) (by simp [Value.oneCell']) (by unfold maxLen; omega) (by omega) (by simp; omega) ?_; intro v' w2 hown2 hgrow _)
                go_roundw
                case rel => exact ⟨j + 1, by omega, by go_num, by
                  rw [HP.out, ← List.append_assoc, HLL.out]; unfold Hid OwnP; rw [List.length_append, List.flatMap_append]; exact hown2, (Below.alloc hD.out (by omega) _).grown hgrow (by simp; omega) (fun j e => (hown.lt j e).1)⟩
                case measure => simp [intOf]; omega
        · have Hj : Hid (j = R.L k) := by show j = _; omega
          have HP : Hid (allP (misB B R) B.nv (k + 1) = allP (misB B R) B.nv k ++ rowP (misB B R) k j) := by
            unfold Hid; rw [Hj.out, HL.out]; rfl
          go_wp2
          show Exit.inBlock 1 _ Exit.normal _ _
          go_wp2
          go_roundw
          case rel => exact ⟨k + 1, by omega, by go_num, by rw [HP.out]; exact ho2, hB2⟩
          case measure => simp [intOf]; omega
    · have Hk : Hid (k = R.n) := by show k = _; omega
      go_wp2
      go_ret
      exact ⟨_, rfl, by unfold mistakes; rw [← Hk.out]; exact own_mono ho.out (by omega), below_of hB.out⟩

end Go.Proofs.Ytopajgnemeodeaa

namespace Go.Proofs.Ytopajgnemeodeaa
open Go.RowKit

/-- of the marks below k: the first one with the least 'after' (and that number), if any was not looked at -/
def nx (B : Bk) (R : Fr) (f : Nat) : Nat → Nat × Nat × Bool
  | 0 => (0, 0, false)
  | k + 1 => if R.X f k ≠ -1 then nx B R f k else
      if (nx B R f k).2.2 = false ∨ afterOf B R f k < (nx B R f k).2.1 then (k, afterOf B R f k, true) else nx B R f k

theorem afterOf_le {B : Bk} {R : Fr} (hg : Good B R) (f m : Nat) : afterOf B R f m ≤ 8 := maxTo_le _ _ _ fun i _ => sorts_len hg.ns _
theorem nx_le {B : Bk} {R : Fr} (hg : Good B R) (f k : Nat) : (nx B R f k).2.1 ≤ 8 := by
  induction k with
  | zero => simp [nx]
  | succ k ih =>
    unfold nx
    split
    · exact ih
    · split
      · exact afterOf_le hg f k
      · exact ih
theorem nx_lt (B : Bk) (R : Fr) (f k : Nat) : (nx B R f k).1 ≤ k := by
  induction k with
  | zero => simp [nx]
  | succ k ih =>
    unfold nx
    split
    · omega
    · split
      · show k ≤ k + 1; omega
      · omega

set_option maxHeartbeats 2000000 in
theorem next_any (N : Nat) (v : Value) (B : Bk) (R : Fr) (f : Nat) (w : World) (h : BoxAt N w v B R) (hg : Good B R) (hf : f < R.n) :
    Calls Try.prog 82 #[v, .int .i64 f] w fun e w' => e = .returned (.tuple #[.int .i64 ((nx B R f B.nv).1 : Int), .bool (nx B R f B.nv).2.2]) ∧ Below w.heap.size w w' := by
  have H : Hid (BoxAt N w v B R) := h
  have HG : Hid _ := Lib.hid hg
  obtain ⟨hN, a1, c1, a2, c2, a3, c3, af, cf, rfl, h1, h2, h3, h4⟩ := h
  obtain ⟨_, _, e4, _, hc4⟩ := h4
  cases e4
  obtain ⟨b4, off4, rfl, hb4, hr4⟩ := hc4 (by omega)
  obtain ⟨r4, hcell4, ao, cap, rfl, hL, hcr⟩ := hr4 f hf
  have HCR : Hid _ := Lib.hid hcr
  have HL : Hid (R.L f = B.nv) := hg.L f hf
  have g4 : b4 < w.heap.size := by omega
  have H6 := hg.nv
  clear hg hc4 hr4 hcr h1 h2 h3
  go_enter Try.func82, Try.ntmps82
  go_wp2
  go_loopw [4, 5, 6, 16] (fun t u l i wr => ∃ k : Nat, k ≤ R.L f ∧ i = .int .i64 k ∧ t = .int .i64 ((nx B R f k).1 : Int) ∧ u = .bool (nx B R f k).2.2 ∧ l = .int .i64 ((nx B R f k).2.1 : Int) ∧ Hid (Below (w.heap.size + 1) (w.alloc (.cells #[.slice a1 B.nv c1, .slice a2 B.nf c2, .slice a3 B.ns c3, .int .i64 B.wr, .slice (some ⟨b4, off4, none⟩) R.n cf] 93)) wr)) (fun _ _ _ i _ => R.L f - (intOf i).toNat)
  case atStart => exact ⟨0, Nat.zero_le _, rfl, rfl, rfl, rfl, Below.refl _ _⟩
  case round =>
    obtain ⟨k, hk, rfl, rfl, rfl, rfl, hB⟩ := hrel
    by_cases hkn : k < R.L f
    · obtain ⟨b5, off5, rfl, hb5, hr5⟩ := HCR.out (by omega)
      obtain ⟨r5, hcell5, rfl⟩ := hr5 k hkn
      replace hcell5 := ((below_of hB.out).cell (p := ⟨b5, off5 + k, none⟩) (by show b5 < _; omega)).trans hcell5
      have q0 := box_cell hB.out 0 rfl
      have q1 := box_cell hB.out 1 rfl
      have q2 := box_cell hB.out 2 rfl
      have q3 := box_cell hB.out 3 rfl
      have q4 := box_cell hB.out 4 rfl
      have hkv : k < B.nv := by have := HL.out; omega
      have hl8 := nx_le HG.out f k
      have ha8 := afterOf_le HG.out f k
      clear hr5
      by_cases hx : R.X f k = -1
      · have hxe : (R.X f k != -1) = false := by simp [hx]
        have HX : Hid (R.X f k = -1) := hx
        clear hx
        cases hfd : (nx B R f k).2.2 with
        | false =>
          have HE : Hid (nx B R f (k + 1) = (k, afterOf B R f k, true)) := by
            unfold Hid; rw [nx, if_neg (by simp [HX.out]), if_pos (.inl hfd)]
          clear hfd
          generalize (nx B R f k).2.1 = l at *
          generalize (nx B R f k).1 = mk at *
          go_wp2_with (go_at_call 79; refine (after_any N _ B R f k _ (H.out.chain hB.out) HG.out hf hkv).mono ?_; rintro e w1 ⟨rfl, hb1⟩)
          go_roundw
          case rel => exact ⟨k + 1, by omega, by go_num, by rw [HE.out], by rw [HE.out], by rw [HE.out], chain hB.out hb1⟩
          case measure => simp [intOf]; omega
        | true =>
          by_cases hlt : afterOf B R f k < (nx B R f k).2.1
          · have HE : Hid (nx B R f (k + 1) = (k, afterOf B R f k, true)) := by
              unfold Hid; rw [nx, if_neg (by simp [HX.out]), if_pos (.inr hlt)]
            clear hfd
            generalize (nx B R f k).2.1 = l at *
            generalize (nx B R f k).1 = mk at *
            have hlt' : (afterOf B R f k : Int) < (l : Int) := by omega
            go_wp2_with (go_at_call 79; refine (after_any N _ B R f k _ (H.out.chain hB.out) HG.out hf hkv).mono ?_; rintro e w1 ⟨rfl, hb1⟩)
            go_roundw
            case rel => exact ⟨k + 1, by omega, by go_num, by rw [HE.out], by rw [HE.out], by rw [HE.out], chain hB.out hb1⟩
            case measure => simp [intOf]; omega
          · have HE : Hid (nx B R f (k + 1) = nx B R f k) := by
              unfold Hid; rw [nx, if_neg (by simp [HX.out]), if_neg (by rw [hfd]; simp; omega)]
            have HFD : Hid _ := Lib.hid hfd
            clear hfd
            have hlt' : ((nx B R f k).2.1 : Int) ≤ (afterOf B R f k : Int) := by omega
            go_wp2_with (go_at_call 79; refine (after_any N _ B R f k _ (H.out.chain hB.out) HG.out hf hkv).mono ?_; rintro e w1 ⟨rfl, hb1⟩)
            go_roundw
            case rel => exact ⟨k + 1, by omega, by go_num, by rw [HE.out], by rw [HE.out, HFD.out], by rw [HE.out], chain hB.out hb1⟩
            case measure => simp [intOf]; omega
      · have hxe : (R.X f k != -1) = true := by simp [hx]
        have HE : Hid (nx B R f (k + 1) = nx B R f k) := by
          unfold Hid; rw [nx, if_pos hx]
        clear hx
        go_wp2
        go_roundw
        case rel => exact ⟨k + 1, by omega, by go_num, by rw [HE.out], by rw [HE.out], by rw [HE.out], hB⟩
        case measure => simp [intOf]; omega
    · have Hk : Hid (k = B.nv) := by have := HL.out; show k = _; omega
      go_wp2
      go_ret2
      exact ⟨by show Ending.returned (.tuple #[.int .i64 ((nx B R f k).1 : Int), .bool (nx B R f k).2.2]) = _; rw [Hk.out], below_of hB.out⟩

end Go.Proofs.Ytopajgnemeodeaa
