import Derived.Test.YtmmadlpkolcgkaaBox1
namespace Go.Proofs.Ytmmadlpkolcgkaa
open Go.RowKit

/-- what a valid book and valid fruits are -/
structure Good (B : Bk) (R : Fr) : Prop where
  nv : B.nv ≤ 6
  nf : B.nf = B.nv
  V : ∀ i, i < B.nv → 1 ≤ B.V i ∧ B.V i ≤ 5
  F : ∀ i, i < B.nv → B.F i = 0 ∨ B.F i = 1
  ns : B.ns ≤ 8
  nc : ∀ s, s < B.ns → B.nc s = B.nv
  ncc : ∀ s, s < B.ns → ∀ i, i < B.nv → 0 < B.ncc s i
  can : ∀ s, s < B.ns → ∀ i, i < B.nv → okCan (B.ncc s i) (B.can s i) (B.V i) = true
  wr0 : 0 ≤ B.wr
  wr9 : B.wr ≤ 9
  n : R.n ≤ 5
  L : ∀ f, f < R.n → R.L f = B.nv
  X : ∀ f, f < R.n → ∀ i, i < B.nv → R.X f i = -1 ∨ (0 ≤ R.X f i ∧ R.X f i < B.V i)

theorem good_of {B : Bk} {R : Fr} (hb : okBook B = true) (hr : okFruits B R = true) : Good B R := by
  simp only [okBook, okMarks, okSorts, Bool.and_eq_true, decide_eq_true_eq, allB_true] at hb
  obtain ⟨⟨⟨⟨⟨h1, h2⟩, h3⟩, h4, h5⟩, h6⟩, h7⟩ := hb
  simp only [okFruits, Bool.and_eq_true, decide_eq_true_eq, allB_true] at hr
  obtain ⟨g1, g2⟩ := hr
  have hs : ∀ s, s < B.ns → B.nc s = B.nv ∧ ∀ i, i < B.nc s → okCan (B.ncc s i) (B.can s i) (B.V i) = true := fun s hs => by
    have := h5 s hs
    simpa only [okSort, Bool.and_eq_true, decide_eq_true_eq, allB_true] using this
  have hf : ∀ f, f < R.n → R.L f = B.nv ∧ ∀ i, i < R.L f → (R.X f i = -1 ∨ (0 ≤ R.X f i ∧ R.X f i < B.V i)) := fun f hf => by
    have := g2 f hf
    simpa only [okFruit, Bool.and_eq_true, Bool.or_eq_true, decide_eq_true_eq, allB_true] using this
  exact ⟨h1, h2, fun i hi => (h3 i hi).1, fun i hi => by have := (h3 i hi).2; omega, h4, fun s h => (hs s h).1,
    fun s h i hi => by
      have := (hs s h).2 i (by rw [(hs s h).1]; exact hi)
      simp only [okCan, Bool.and_eq_true, decide_eq_true_eq] at this
      exact this.1,
    fun s h i hi => (hs s h).2 i (by rw [(hs s h).1]; exact hi), h6, h7, g1, fun f h => (hf f h).1,
    fun f h i hi => (hf f h).2 i (by rw [(hf f h).1]; exact hi)⟩

/-- a box at work: a book with fruits -/
def BoxAt (N : Nat) (w : World) (v : Value) (B : Bk) (R : Fr) : Prop :=
  N ≤ w.heap.size ∧ ∃ a1 c1 a2 c2 a3 c3 af cf, v = .agg #[.slice a1 B.nv c1, .slice a2 B.nf c2, .slice a3 B.ns c3, .int .i64 B.wr, .slice af R.n cf] ∧
    IntsAt N w (.slice a1 B.nv c1) B.nv B.V ∧ IntsAt N w (.slice a2 B.nf c2) B.nf B.F ∧ SortsAt N w (.slice a3 B.ns c3) B.ns B.nc B.ncc B.can ∧ FruitsAt N w (.slice af R.n cf) R

theorem BoxAt.mono {N N' : Nat} {w w' : World} {v : Value} {B : Bk} {R : Fr} (h : BoxAt N w v B R) (hB : Below N w w') (hN : N ≤ N') (hs : N' ≤ w'.heap.size) : BoxAt N' w' v B R := by
  obtain ⟨_, a1, c1, a2, c2, a3, c3, af, cf, rfl, h1, h2, h3, h4⟩ := h
  exact ⟨hs, a1, c1, a2, c2, a3, c3, af, cf, rfl, h1.mono hB hN, h2.mono hB hN, h3.mono hB hN, RowsAt.mono h4 hB hN⟩
theorem BoxAt.in_alloc {N : Nat} {w : World} {v : Value} {B : Bk} {R : Fr} (h : BoxAt N w v B R) (o : Obj) : BoxAt N (w.alloc o) v B R :=
  h.mono (below_alloc h.1 o) (Nat.le_refl _) (by have := h.1; simp; omega)
theorem BoxAt.chain {N : Nat} {w W : World} {v : Value} {B : Bk} {R : Fr} {o : Obj} (h : BoxAt N w v B R) (ch : Below (w.heap.size + 1) (w.alloc o) W) : BoxAt N W v B R :=
  h.mono ((below_of ch).mono h.1) (Nat.le_refl _) (by have := h.1; have := size_of ch; omega)

/-- so many values of a mark are wrong, in a sort, if the real one of the fruit f is x -/
def mw (B : Bk) (R : Fr) (s : Nat) (f : Int) (m : Nat) (x : Int) : Nat :=
  bad R m (fun g v => right (B.F m == 1) f x (B.ncc s m) (B.can s m) g v) R.n

set_option maxHeartbeats 4000000 in
theorem missesWith_any (N : Nat) (v : Value) (B : Bk) (R : Fr) (s m : Nat) (f x : Int) (w : World) (h : BoxAt N w v B R) (hg : Good B R) (hs : s < B.ns) (hm : m < B.nv) :
    Calls Try.prog 99 #[v, .int .i64 s, .agg #[.int .i64 f, .int .i64 m], .int .i64 x] w fun e w' => e = .returned (.int .i64 (mw B R s f m x)) ∧ Below w.heap.size w w' := by
  have H : Hid (BoxAt N w v B R) := h
  have HG : Hid _ := Lib.hid hg
  obtain ⟨hN, a1, c1, a2, c2, a3, c3, af, cf, rfl, h1, h2, h3, h4⟩ := h
  have hmf : (m : Int) < (B.nf : Int) := by have := hg.nf; omega
  obtain ⟨_, _, e2, _, hc2⟩ := h2
  cases e2
  obtain ⟨b2, off2, rfl, hb2, hr2⟩ := hc2 (by omega)
  obtain ⟨r2, hcell2, rfl⟩ := hr2 m (by omega)
  obtain ⟨_, _, e3, _, hc3⟩ := h3
  cases e3
  obtain ⟨b3, off3, rfl, hb3, hr3⟩ := hc3 (by omega)
  obtain ⟨r3, hcell3, ao, cap, rfl, hnc, hcr⟩ := hr3 s hs
  have hmc : (m : Int) < (B.nc s : Int) := by have := hg.nc s hs; omega
  obtain ⟨b4, off4, rfl, hb4, hr4⟩ := hcr (by omega)
  obtain ⟨r4, hcell4, hints⟩ := hr4 m (by omega)
  obtain ⟨a5, c5, rfl, hn5, hc5⟩ := hints
  have HI : Hid (IntsAt N w (.slice a5 (B.ncc s m) c5) (B.ncc s m) (B.can s m)) := ⟨a5, c5, rfl, hn5, hc5⟩
  have HM : Hid (∀ f, f < R.n → m < R.L f) := fun f hf => by rw [hg.L f hf]; exact hm
  clear hg hc2 hr2 hc3 hr3 hcr hr4 hc5 h1 h4
  have g2 : b2 < w.heap.size := by omega
  have g3 : b3 < w.heap.size := by omega
  have g4 : b4 < w.heap.size := by omega
  go_enter Try.func99, Try.ntmps99
  go_wp2
  obtain ⟨ws, hws⟩ : ∃ ws : World, ((w.alloc (.cells #[.slice a1 B.nv c1, .slice (some ⟨b2, off2, none⟩) B.nf c2, .slice (some ⟨b3, off3, none⟩) B.ns c3, .int .i64 B.wr, .slice af R.n cf] 93)).alloc (.cells #[.int .i64 f, .int .i64 m] 40)).alloc (.cells #[.int .i64 x] 3) = ws := ⟨_, rfl⟩
  have hsz : ws.heap.size = w.heap.size + 3 := by rw [← hws]; simp
  have hB0 : Below w.heap.size w ws := by
    rw [← hws]; exact (((Below.refl _ w).alloc (Nat.le_refl _) _).alloc (by simp) _).alloc (by simp; omega) _
  have q1 : ws.cell? ⟨w.heap.size, 1, none⟩ = some (.slice (some ⟨b2, off2, none⟩) B.nf c2) := by rw [← hws]; simp [go_sem]
  have q2 : ws.cell? ⟨w.heap.size, 2, none⟩ = some (.slice (some ⟨b3, off3, none⟩) B.ns c3) := by rw [← hws]; simp [go_sem]
  have q0 : ws.cell? ⟨w.heap.size, 0, none⟩ = some (.slice a1 B.nv c1) := by rw [← hws]; simp [go_sem]
  have q3 : ws.cell? ⟨w.heap.size, 3, none⟩ = some (.int .i64 B.wr) := by rw [← hws]; simp [go_sem]
  have q4 : ws.cell? ⟨w.heap.size, 4, none⟩ = some (.slice af R.n cf) := by rw [← hws]; simp [go_sem]
  have p0 : ws.cell? ⟨w.heap.size + 1, 0, none⟩ = some (.int .i64 f) := by rw [← hws]; simp [go_sem]
  have p1 : ws.cell? ⟨w.heap.size + 1, 1, none⟩ = some (.int .i64 m) := by rw [← hws]; simp [go_sem]
  have x0 : ws.cell? ⟨w.heap.size + 2, 0, none⟩ = some (.int .i64 x) := by rw [← hws]; simp [go_sem]
  replace hcell2 := (hB0.cell (p := ⟨b2, off2 + m, none⟩) g2).trans hcell2
  replace hcell3 := (hB0.cell (p := ⟨b3, off3 + s, none⟩) g3).trans hcell3
  replace hcell4 := (hB0.cell (p := ⟨b4, off4 + m, none⟩) g4).trans hcell4
  rw [hws]
  clear hws
  have g2' : b2 < ws.heap.size := by omega
  have g3' : b3 < ws.heap.size := by omega
  have g4' : b4 < ws.heap.size := by omega
  have e0 : w.heap.size < ws.heap.size := by omega
  have e1 : w.heap.size + 1 < ws.heap.size := by omega
  have e2 : w.heap.size + 2 < ws.heap.size := by omega
  have HSZ : Hid _ := Lib.hid hsz
  clear hsz
  have F1 : Hid (Below ws.heap.size ws ((ws.alloc (.cells #[.slice a5 (B.ncc s m) c5] 22)).alloc (.cells #[.bool (B.F m == 1)] 4)).drew) := (((Below.refl _ ws).alloc (Nat.le_refl _) _).alloc (by simp) _).drew
  have F2 : Hid (Below w.heap.size w ((ws.alloc (.cells #[.slice a5 (B.ncc s m) c5] 22)).alloc (.cells #[.bool (B.F m == 1)] 4)).drew) := hB0.trans (F1.out.mono (by omega))
  have F3 : Hid (((ws.alloc (.cells #[.slice a5 (B.ncc s m) c5] 22)).alloc (.cells #[.bool (B.F m == 1)] 4)).drew.cell? ⟨ws.heap.size, 0, none⟩ = some (.slice a5 (B.ncc s m) c5)) := by unfold Hid; simp [go_sem]
  have F4 : Hid (((ws.alloc (.cells #[.slice a5 (B.ncc s m) c5] 22)).alloc (.cells #[.bool (B.F m == 1)] 4)).drew.cell? ⟨ws.heap.size + 1, 0, none⟩ = some (.bool (B.F m == 1))) := by unfold Hid; simp [go_sem]
  have F5 : Hid (((ws.alloc (.cells #[.slice a5 (B.ncc s m) c5] 22)).alloc (.cells #[.bool (B.F m == 1)] 4)).drew.heap.size = ws.heap.size + 2) := by unfold Hid; simp [go_sem]
  have HF : Hid (FruitsAt N ((ws.alloc (.cells #[.slice a5 (B.ncc s m) c5] 22)).alloc (.cells #[.bool (B.F m == 1)] 4)).drew (.slice af R.n cf) R) := by
    obtain ⟨_, _, _, _, _, _, _, _, _, e, _, _, _, h4⟩ := H.out
    cases e
    exact RowsAt.mono h4 (F2.out.mono hN) (Nat.le_refl _)
  have HP0 : Hid _ := Lib.hid p0
  have HX0 : Hid _ := Lib.hid x0
  go_region
  go_wp2_with (go_at_call 104; refine (misses_any N m _ _ _ _ _ _ _ R (fun g v => right (B.F m == 1) f x (B.ncc s m) (B.can s m) g v) _ ?c1 ?c2 ?c3 ?c4).mono ?c5)
  case c1 => rw [F5.out]; have := HSZ.out; omega
  case c2 => exact HF.out
  case c3 => exact HM.out
  case c4 =>
    intro W g v hW
    have hsz5 := F5.out
    have hszw := HSZ.out
    exact (closure_any N (ws.heap.size + 1) (w.heap.size + 1) (w.heap.size + 1 + 1) ws.heap.size (B.F m == 1) f x (.slice a5 (B.ncc s m) c5) (B.ncc s m) (B.can s m) g v W
      ((hW.cell (p := ⟨ws.heap.size + 1, 0, none⟩) (by show ws.heap.size + 1 < _; omega)).trans F4.out)
      ((hW.cell (p := ⟨w.heap.size + 1, 0, none⟩) (by show w.heap.size + 1 < _; omega)).trans ((F1.out.cell (p := ⟨w.heap.size + 1, 0, none⟩) (by show w.heap.size + 1 < _; omega)).trans HP0.out))
      ((hW.cell (p := ⟨w.heap.size + 1 + 1, 0, none⟩) (by show w.heap.size + 1 + 1 < _; omega)).trans ((F1.out.cell (p := ⟨w.heap.size + 2, 0, none⟩) (by show w.heap.size + 2 < _; omega)).trans HX0.out))
      ((hW.cell (p := ⟨ws.heap.size, 0, none⟩) (by show ws.heap.size < _; omega)).trans F3.out)
      (HI.out.mono ((F2.out.mono hN).trans (hW.mono (by omega))) (Nat.le_refl _))).mono fun e w' ⟨he, hw⟩ => ⟨he, hw ▸ Below.refl _ _⟩
  case c5 =>
    rintro e w' ⟨rfl, hb⟩
    go_wp2
    go_ret
    exact ⟨rfl, F2.out.trans (hb.mono (by rw [F5.out]; have := HSZ.out; omega))⟩

end Go.Proofs.Ytmmadlpkolcgkaa
