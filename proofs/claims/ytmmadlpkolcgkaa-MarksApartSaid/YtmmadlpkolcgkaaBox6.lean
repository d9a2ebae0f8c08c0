import Derived.Test.YtmmadlpkolcgkaaBox5
namespace Go.Proofs.Ytmmadlpkolcgkaa
open Go.RowKit

theorem lm_wrong (B : Bk) (R : Fr) (s : Nat) {m : Nat} (hm : m < B.nv) : lm B R s m ≤ wrong B R s := by
  unfold wrong
  generalize B.nv = n at hm
  induction n with
  | zero => omega
  | succ n ih =>
    simp only [sumTo]
    rcases Nat.lt_succ_iff_lt_or_eq.1 hm with h | h
    · have := ih h; omega
    · subst h; omega

theorem keep7 {ws w0 w1 : World} {b : Nat} {x0 x1 x2 x3 x4 y0 y1 : Value} (h : w0.cell? ⟨b, 0, none⟩ = some x0 ∧ w0.cell? ⟨b, 1, none⟩ = some x1 ∧ w0.cell? ⟨b, 2, none⟩ = some x2 ∧ w0.cell? ⟨b, 3, none⟩ = some x3 ∧ w0.cell? ⟨b, 4, none⟩ = some x4 ∧ w0.cell? ⟨b + 1, 0, none⟩ = some y0 ∧ w0.cell? ⟨b + 1, 1, none⟩ = some y1 ∧ Hid (Below ws.heap.size ws w0)) (hb : b + 1 < ws.heap.size) (k : Below w0.heap.size w0 w1) :
    w1.cell? ⟨b, 0, none⟩ = some x0 ∧ w1.cell? ⟨b, 1, none⟩ = some x1 ∧ w1.cell? ⟨b, 2, none⟩ = some x2 ∧ w1.cell? ⟨b, 3, none⟩ = some x3 ∧ w1.cell? ⟨b, 4, none⟩ = some x4 ∧ w1.cell? ⟨b + 1, 0, none⟩ = some y0 ∧ w1.cell? ⟨b + 1, 1, none⟩ = some y1 ∧ Hid (Below ws.heap.size ws w1) := by
  obtain ⟨h0, h1, h2, h3, h4, g0, g1, hB⟩ := h
  have hlt : b < w0.heap.size := Nat.lt_of_lt_of_le (Nat.lt_of_succ_lt hb) hB.out.size
  have hlt2 : b + 1 < w0.heap.size := Nat.lt_of_lt_of_le hb hB.out.size
  exact ⟨(k.cell (p := ⟨b, 0, none⟩) hlt).trans h0, (k.cell (p := ⟨b, 1, none⟩) hlt).trans h1, (k.cell (p := ⟨b, 2, none⟩) hlt).trans h2, (k.cell (p := ⟨b, 3, none⟩) hlt).trans h3, (k.cell (p := ⟨b, 4, none⟩) hlt).trans h4, (k.cell (p := ⟨b + 1, 0, none⟩) hlt2).trans g0, (k.cell (p := ⟨b + 1, 1, none⟩) hlt2).trans g1, step hB.out (Nat.le_refl _) k⟩
theorem keep7_drew {ws w0 : World} {b : Nat} {x0 x1 x2 x3 x4 y0 y1 : Value} (h : w0.cell? ⟨b, 0, none⟩ = some x0 ∧ w0.cell? ⟨b, 1, none⟩ = some x1 ∧ w0.cell? ⟨b, 2, none⟩ = some x2 ∧ w0.cell? ⟨b, 3, none⟩ = some x3 ∧ w0.cell? ⟨b, 4, none⟩ = some x4 ∧ w0.cell? ⟨b + 1, 0, none⟩ = some y0 ∧ w0.cell? ⟨b + 1, 1, none⟩ = some y1 ∧ Hid (Below ws.heap.size ws w0)) :
    w0.drew.cell? ⟨b, 0, none⟩ = some x0 ∧ w0.drew.cell? ⟨b, 1, none⟩ = some x1 ∧ w0.drew.cell? ⟨b, 2, none⟩ = some x2 ∧ w0.drew.cell? ⟨b, 3, none⟩ = some x3 ∧ w0.drew.cell? ⟨b, 4, none⟩ = some x4 ∧ w0.drew.cell? ⟨b + 1, 0, none⟩ = some y0 ∧ w0.drew.cell? ⟨b + 1, 1, none⟩ = some y1 ∧ Hid (Below ws.heap.size ws w0.drew) := by
  obtain ⟨h0, h1, h2, h3, h4, g0, g1, hB⟩ := h
  exact ⟨h0, h1, h2, h3, h4, g0, g1, hB.out.drew⟩

/-- can the mark m of the fruit f really have the value x, in the sort s? -/
def ex (B : Bk) (R : Fr) (s f m : Nat) (x : Int) : Bool := (anyB (B.ncc s m) fun i => decide (x = B.can s m i)) && decide ((wrong B R s : Int) - lm B R s m + mw B R s f m x ≤ B.wr)

set_option maxHeartbeats 4000000 in
theorem explains_any (N : Nat) (v : Value) (B : Bk) (R : Fr) (s f m : Nat) (x : Int) (w : World) (h : BoxAt N w v B R) (hg : Good B R) (hs : s < B.ns) (hm : m < B.nv) :
    Calls Try.prog 93 #[v, .int .i64 s, .agg #[.int .i64 f, .int .i64 m], .int .i64 x] w fun e w' => e = .returned (.bool (ex B R s f m x)) ∧ Below w.heap.size w w' := by
  have H : Hid (BoxAt N w v B R) := h
  have HG : Hid _ := Lib.hid hg
  obtain ⟨hN, a1, c1, a2, c2, a3, c3, af, cf, rfl, h1, h2, h3, h4⟩ := h
  obtain ⟨_, _, e3, _, hc3⟩ := h3
  cases e3
  obtain ⟨b3, off3, rfl, hb3, hr3⟩ := hc3 (by omega)
  obtain ⟨r3, hcell3, ao, cap, rfl, hnc, hcr⟩ := hr3 s hs
  have hmc : (m : Int) < (B.nc s : Int) := by have := hg.nc s hs; omega
  obtain ⟨b4, off4, rfl, hb4, hr4⟩ := hcr (by omega)
  obtain ⟨r4, hcell4, hints⟩ := hr4 m (by omega)
  have HI : Hid (IntsAt N w r4 (B.ncc s m) (B.can s m)) := hints
  obtain ⟨a5, c5, rfl, hn5, _⟩ := hints
  have g3 : b3 < w.heap.size := by omega
  have g4 : b4 < w.heap.size := by omega
  have k3 : ∀ o o', ((w.alloc o).alloc o').cell? ⟨b3, off3 + s, none⟩ = some (.slice (some ⟨b4, off4, none⟩) (B.nc s) cap) := fun o o' => ((below_alloc (N := w.heap.size) (Nat.le_refl _) o).alloc (by simp) o') |>.cell (p := ⟨b3, off3 + s, none⟩) g3 |>.trans hcell3
  have k4 : ∀ o o', ((w.alloc o).alloc o').cell? ⟨b4, off4 + m, none⟩ = some (.slice a5 (B.ncc s m) c5) := fun o o' => ((below_alloc (N := w.heap.size) (Nat.le_refl _) o).alloc (by simp) o') |>.cell (p := ⟨b4, off4 + m, none⟩) g4 |>.trans hcell4
  have hw30 := wrong_le hg s
  have hlw := lm_wrong B R s hm
  have hmw : mw B R s f m x ≤ 5 := Nat.le_trans (bad_le _ _ _ _) hg.n
  obtain ⟨ws, hws⟩ : ∃ ws : World, (w.alloc (.cells #[.slice a1 B.nv c1, .slice a2 B.nf c2, .slice (some ⟨b3, off3, none⟩) B.ns c3, .int .i64 B.wr, .slice af R.n cf] 93)).alloc (.cells #[.int .i64 f, .int .i64 m] 40) = ws := ⟨_, rfl⟩
  have hB0 : Below w.heap.size w ws := by
    rw [← hws]; exact ((Below.refl _ w).alloc (Nat.le_refl _) _).alloc (by simp) _
  have hsz : w.heap.size + 1 < ws.heap.size := by rw [← hws]; simp
  have hbox : ws.heap[w.heap.size]? = some (.cells #[.slice a1 B.nv c1, .slice a2 B.nf c2, .slice (some ⟨b3, off3, none⟩) B.ns c3, .int .i64 B.wr, .slice af R.n cf] 93) ∧ ws.heap[w.heap.size + 1]? = some (.cells #[.int .i64 f, .int .i64 m] 40) := by
    rw [← hws]
    refine ⟨?_, ?_⟩
    · rw [Below.heap_alloc _ _ _ (by simp)]; exact World.alloc_heap_new _ _
    · have := World.alloc_heap_new (w.alloc (.cells #[.slice a1 B.nv c1, .slice a2 B.nf c2, .slice (some ⟨b3, off3, none⟩) B.ns c3, .int .i64 B.wr, .slice af R.n cf] 93)) (.cells #[.int .i64 f, .int .i64 m] 40); rwa [World.size_alloc] at this
  have HS : Hid (ws.cell? ⟨w.heap.size, 0, none⟩ = some (.slice a1 B.nv c1) ∧ ws.cell? ⟨w.heap.size, 1, none⟩ = some (.slice a2 B.nf c2) ∧ ws.cell? ⟨w.heap.size, 2, none⟩ = some (.slice (some ⟨b3, off3, none⟩) B.ns c3) ∧ ws.cell? ⟨w.heap.size, 3, none⟩ = some (.int .i64 B.wr) ∧ ws.cell? ⟨w.heap.size, 4, none⟩ = some (.slice af R.n cf) ∧ ws.cell? ⟨w.heap.size + 1, 0, none⟩ = some (.int .i64 f) ∧ ws.cell? ⟨w.heap.size + 1, 1, none⟩ = some (.int .i64 m) ∧ Hid (Below ws.heap.size ws ws)) :=
    ⟨cell_blk hbox.1 0 rfl, cell_blk hbox.1 1 rfl, cell_blk hbox.1 2 rfl, cell_blk hbox.1 3 rfl, cell_blk hbox.1 4 rfl, cell_blk hbox.2 0 rfl, cell_blk hbox.2 1 rfl, Below.refl _ _⟩
  replace k3 := k3 (.cells #[.slice a1 B.nv c1, .slice a2 B.nf c2, .slice (some ⟨b3, off3, none⟩) B.ns c3, .int .i64 B.wr, .slice af R.n cf] 93) (.cells #[.int .i64 f, .int .i64 m] 40)
  replace k4 := k4 (.cells #[.slice a1 B.nv c1, .slice a2 B.nf c2, .slice (some ⟨b3, off3, none⟩) B.ns c3, .int .i64 B.wr, .slice af R.n cf] 93) (.cells #[.int .i64 f, .int .i64 m] 40)
  rw [hws] at k3 k4
  have HK3 : Hid _ := Lib.hid k3
  have HK4 : Hid _ := Lib.hid k4
  have HWS : Hid _ := Lib.hid hws
  have HIs : Hid (IntsAt N ws (.slice a5 (B.ncc s m) c5) (B.ncc s m) (B.can s m)) := HI.out.mono (hB0.mono hN) (Nat.le_refl _)
  clear hg hc3 hr3 hcr hr4 h1 h2 h4 k3 k4 hws hbox
  go_enter Try.func93, Try.ntmps93
  go_wp2
  rw [HWS.out]
  have hs7 := HS.out
  obtain ⟨q0, q1, q2, q3, q4, p0, p1, _⟩ := hs7
  have k3 := HK3.out
  have k4 := HK4.out
  cases hin : anyB (B.ncc s m) fun i => decide (x = B.can s m i) with
  | false =>
    have HIN : Hid _ := Lib.hid hin
    clear hin
    go_quiet ((go_at_call 73; exact Calls.quiet_of_same ((contains_any N _ _ _ _ _ (HIs.out.mono (below_drewN (Below.refl _ _) _) (Nat.le_refl _))).mono (fun e w' hh => by rw [HIN.out] at hh; exact hh))))
    go_wp2
    go_ret
    exact ⟨ret_bool (by unfold ex; rw [HIN.out, Bool.false_and]), below_drewN hB0 _⟩
  | true =>
    have HIN : Hid _ := Lib.hid hin
    clear hin
    go_quiet ((go_at_call 73; exact Calls.quiet_of_same ((contains_any N _ _ _ _ _ (HIs.out.mono (below_drewN (Below.refl _ _) _) (Nat.le_refl _))).mono (fun e w' hh => by rw [HIN.out] at hh; exact hh))))
    go_wp2
    obtain ⟨wr, hwr⟩ : ∃ wr : World, ws.drewN nq = wr := ⟨_, rfl⟩
    have hSr : wr.cell? ⟨w.heap.size, 0, none⟩ = some (.slice a1 B.nv c1) ∧ wr.cell? ⟨w.heap.size, 1, none⟩ = some (.slice a2 B.nf c2) ∧ wr.cell? ⟨w.heap.size, 2, none⟩ = some (.slice (some ⟨b3, off3, none⟩) B.ns c3) ∧ wr.cell? ⟨w.heap.size, 3, none⟩ = some (.int .i64 B.wr) ∧ wr.cell? ⟨w.heap.size, 4, none⟩ = some (.slice af R.n cf) ∧ wr.cell? ⟨w.heap.size + 1, 0, none⟩ = some (.int .i64 f) ∧ wr.cell? ⟨w.heap.size + 1, 1, none⟩ = some (.int .i64 m) ∧ Hid (Below ws.heap.size ws wr) := by
      rw [← hwr]; exact ⟨q0, q1, q2, q3, q4, p0, p1, below_drewN (Below.refl _ _) _⟩
    have bx : Hid (∀ W : World, (W.cell? ⟨w.heap.size, 0, none⟩ = some (.slice a1 B.nv c1) ∧ W.cell? ⟨w.heap.size, 1, none⟩ = some (.slice a2 B.nf c2) ∧ W.cell? ⟨w.heap.size, 2, none⟩ = some (.slice (some ⟨b3, off3, none⟩) B.ns c3) ∧ W.cell? ⟨w.heap.size, 3, none⟩ = some (.int .i64 B.wr) ∧ W.cell? ⟨w.heap.size, 4, none⟩ = some (.slice af R.n cf) ∧ W.cell? ⟨w.heap.size + 1, 0, none⟩ = some (.int .i64 f) ∧ W.cell? ⟨w.heap.size + 1, 1, none⟩ = some (.int .i64 m) ∧ Hid (Below ws.heap.size ws W)) → BoxAt N W (.agg #[.slice a1 B.nv c1, .slice a2 B.nf c2, .slice (some ⟨b3, off3, none⟩) B.ns c3, .int .i64 B.wr, .slice af R.n cf]) B R) := by
      rintro W ⟨_, _, _, _, _, _, _, hW⟩
      have hh : Below w.heap.size w W := hB0.trans (hW.out.mono (by omega))
      exact H.out.mono (hh.mono hN) (Nat.le_refl _) (Nat.le_trans hN hh.size)
    rw [hwr]
    have hS0 := keep7_drew hSr
    have HSr : Hid _ := Lib.hid hSr
    clear hwr hSr q0 q1 q2 q3 q4 p0 p1 k3 k4
    have e1 : IntKind.i64.wrap ((wrong B R s : Int) - (lm B R s m : Int)) = (wrong B R s : Int) - (lm B R s m : Int) := IntWalk.i64_in _ (by omega)
    have e2 : IntKind.i64.wrap ((wrong B R s : Int) - (lm B R s m : Int) + (mw B R s f m x : Int)) = (wrong B R s : Int) - (lm B R s m : Int) + (mw B R s f m x : Int) := IntWalk.i64_in _ (by omega)
    go_region_held3 (fun w' => w'.cell? ⟨w.heap.size, 0, none⟩ = some (.slice a1 B.nv c1) ∧ w'.cell? ⟨w.heap.size, 1, none⟩ = some (.slice a2 B.nf c2) ∧ w'.cell? ⟨w.heap.size, 2, none⟩ = some (.slice (some ⟨b3, off3, none⟩) B.ns c3) ∧ w'.cell? ⟨w.heap.size, 3, none⟩ = some (.int .i64 B.wr) ∧ w'.cell? ⟨w.heap.size, 4, none⟩ = some (.slice af R.n cf) ∧ w'.cell? ⟨w.heap.size + 1, 0, none⟩ = some (.int .i64 f) ∧ w'.cell? ⟨w.heap.size + 1, 1, none⟩ = some (.int .i64 m) ∧ Hid (Below ws.heap.size ws w')) (assumption)
      (first
        | (go_at_call 67; refine (wrong_any N _ B R s _ (bx.out _ (by assumption)) HG.out hs).mono ?_; rintro e w1 ⟨rfl, hb1⟩; have S1 := keep7 (by assumption) hsz hb1)
        | (go_at_call 89; refine (leastMisses_any N _ B R s m _ (bx.out _ (by assumption)) HG.out hs hm).mono ?_; rintro e w1 ⟨rfl, hb1⟩; have S1 := keep7 (by assumption) hsz hb1))
    all_goals
      go_wp2
      have hS2 := keep7_drew S1
      go_region_held3 (fun w' => w'.cell? ⟨w.heap.size, 0, none⟩ = some (.slice a1 B.nv c1) ∧ w'.cell? ⟨w.heap.size, 1, none⟩ = some (.slice a2 B.nf c2) ∧ w'.cell? ⟨w.heap.size, 2, none⟩ = some (.slice (some ⟨b3, off3, none⟩) B.ns c3) ∧ w'.cell? ⟨w.heap.size, 3, none⟩ = some (.int .i64 B.wr) ∧ w'.cell? ⟨w.heap.size, 4, none⟩ = some (.slice af R.n cf) ∧ w'.cell? ⟨w.heap.size + 1, 0, none⟩ = some (.int .i64 f) ∧ w'.cell? ⟨w.heap.size + 1, 1, none⟩ = some (.int .i64 m) ∧ Hid (Below ws.heap.size ws w')) (assumption)
        (first
          | (go_at_call 99; refine (missesWith_any N _ B R s m f x _ (bx.out _ (by assumption)) HG.out hs hm).mono ?_; rintro e w2 ⟨rfl, hb2⟩; have S3 := keep7 (by assumption) hsz hb2))
      all_goals
        go_wp2
        go_ret
        obtain ⟨_, _, _, _, _, _, _, hfin⟩ := S3
        exact ⟨ret_bool (by unfold ex; rw [HIN.out, Bool.true_and]), hB0.trans (hfin.out.mono (by omega))⟩

end Go.Proofs.Ytmmadlpkolcgkaa
