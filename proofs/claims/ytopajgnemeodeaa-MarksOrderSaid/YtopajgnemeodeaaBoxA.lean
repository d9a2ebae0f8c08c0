/-
  BoxA: contracts of the functions that its theorems name.
-/
import Derived.Test.YtopajgnemeodeaaMiss
import Derived.RegionTactic
import Derived.ChangeAlike
import Derived.Deep.RegionHeld3
import Derived.Maps.AppendAt
namespace Go.Proofs.Ytopajgnemeodeaa
open Go.RowKit

/-- the first i below n with p i, or -1 -/
def firstI (n : Nat) (p : Nat → Bool) : Int := match (List.range n).find? p with | some i => i | none => -1

theorem firstI_spec (n : Nat) (p : Nat → Bool) {k : Nat} (hk : k < n) (h : p k = true) (hb : ∀ j, j < k → p j = false) : firstI n p = k := by
  have : (List.range n).find? p = some k := List.find?_range_eq_some.2 ⟨h, List.mem_range.2 hk, fun j hj => by simp [hb j hj]⟩
  simp [firstI, this]
theorem firstI_none (n : Nat) (p : Nat → Bool) (hb : ∀ j, j < n → p j = false) : firstI n p = -1 := by
  have : (List.range n).find? p = none := List.find?_range_eq_none.2 fun j hj => by simp [hb j hj]
  simp [firstI, this]
theorem firstI_any (n : Nat) (p : Nat → Bool) : decide (0 ≤ firstI n p) = anyB n p := by
  unfold firstI anyB
  rw [Bool.eq_iff_iff]
  cases h : (List.range n).find? p with
  | none =>
    simp only [List.find?_eq_none] at h
    simp only [List.any_eq_true]
    constructor
    · intro h2; simp at h2
    · rintro ⟨x, hx, hp⟩; exact absurd hp (h x hx)
  | some i =>
    have h1 := List.mem_of_find?_eq_some h
    have h2 := List.find?_some h
    simp only [List.any_eq_true]
    constructor
    · intro _; exact ⟨i, h1, h2⟩
    · intro _; simp

set_option maxHeartbeats 400000 in
theorem index_any (N : Nat) (v : Value) (n : Nat) (x : Nat → Int) (y : Int) (w : World) (h : IntsAt N w v n x) :
    Calls Try.prog 92 #[v, .int .i64 y] w fun e w' => e = .returned (.int .i64 (firstI n fun i => decide (y = x i))) ∧ w' = w := by
  obtain ⟨ao, cap, rfl, hn, hc⟩ := h
  go_enter Try.func92, Try.ntmps92
  go_wp2
  go_loop [8] (fun i => ∃ k : Nat, k ≤ n ∧ i = .int .i64 k ∧ Hid (∀ j, j < k → decide (y = x j) = false)) (fun i => n - (intOf i).toNat)
  case atStart => exact ⟨0, Nat.zero_le _, rfl, fun j hj => absurd hj (Nat.not_lt_zero j)⟩
  case round =>
    obtain ⟨k, hk, rfl, hj⟩ := hrel
    by_cases hkn : k < n
    · obtain ⟨b, off, rfl, _, hr⟩ := hc (by omega)
      obtain ⟨r, hcell, rfl⟩ := hr k hkn
      clear hr hc
      by_cases hxy : y = x k
      · have hb : (y == x k) = true := by simp [hxy]
        have H : Hid (y = x k) := hxy
        clear hxy
        go_wp2
        go_ret
        exact ⟨ret_int (firstI_spec n _ hkn (by simpa using H.out) hj.out).symm, rfl⟩
      · have hb : (y == x k) = false := by simp [hxy]
        have H : Hid (y ≠ x k) := hxy
        clear hxy
        go_wp2
        go_round
        case rel => exact ⟨k + 1, by omega, by go_num, lt_succ hj.out (by simpa using H.out)⟩
        case measure => simp [intOf]; omega
    · have Hk : Hid (k = n) := by show k = n; omega
      go_wp2
      go_ret
      exact ⟨ret_int (firstI_none n _ fun j h => hj.out j (by rw [Hk.out]; exact h)).symm, rfl⟩

set_option maxHeartbeats 400000 in
theorem contains_any (N : Nat) (v : Value) (n : Nat) (x : Nat → Int) (y : Int) (w : World) (h : IntsAt N w v n x) :
    Calls Try.prog 73 #[v, .int .i64 y] w fun e w' => e = .returned (.bool (anyB n fun i => decide (y = x i))) ∧ w' = w := by
  have H : Hid (IntsAt N w v n x) := h
  obtain ⟨ao, cap, rfl, hn, hc⟩ := h
  clear hc
  have hfin := firstI_any n fun i => decide (y = x i)
  have HF : Hid _ := Lib.hid hfin
  clear hfin
  go_enter Try.func73, Try.ntmps73
  go_wp2_with (go_at_call 92; refine (index_any N _ _ _ _ _ H.out).mono ?_; rintro e w' ⟨rfl, rfl⟩)
  go_ret
  exact ⟨ret_bool HF.out, rfl⟩

/-- is a value right, if the real one of the fruit f (of all, if the mark is firm) is x? -/
def right (firm : Bool) (f x : Int) (n : Nat) (c : Nat → Int) (g s : Int) : Bool := if firm || decide (g = f) then decide (s = x) else anyB n fun i => decide (s = c i)

set_option maxHeartbeats 400000 in
theorem closure_any (N pf pp pv pc : Nat) (firm : Bool) (f x : Int) (cv : Value) (n : Nat) (c : Nat → Int) (g s : Int) (w : World)
    (h1 : w.cell? ⟨pf, 0, none⟩ = some (.bool firm)) (h2 : w.cell? ⟨pp, 0, none⟩ = some (.int .i64 f)) (h3 : w.cell? ⟨pv, 0, none⟩ = some (.int .i64 x)) (h4 : w.cell? ⟨pc, 0, none⟩ = some cv) (hi : IntsAt N w cv n c) :
    Calls Try.prog 105 #[.int .i64 g, .int .i64 s, .pointer (some ⟨pf, 0, none⟩), .pointer (some ⟨pp, 0, none⟩), .pointer (some ⟨pv, 0, none⟩), .pointer (some ⟨pc, 0, none⟩)] w
      fun e w' => e = .returned (.bool (right firm f x n c g s)) ∧ w' = w := by
  have HI : Hid _ := Lib.hid hi
  obtain ⟨ao, cap, rfl, hn, hc⟩ := hi
  clear hc
  cases firm with
  | true =>
    go_enter Try.func105, Try.ntmps105
    go_wp2
    go_ret
    exact ⟨ret_bool (by simp [right]; first | rfl | (rw [Bool.eq_iff_iff]; simp)), rfl⟩
  | false =>
    by_cases hg : g = f
    · have hb : (g == f) = true := by simp [hg]
      have HG : Hid (g = f) := hg
      clear hg
      go_enter Try.func105, Try.ntmps105
      go_wp2
      go_ret
      exact ⟨ret_bool (by simp [right, HG.out]; first | rfl | (rw [Bool.eq_iff_iff]; simp)), rfl⟩
    · have hb : (g == f) = false := by simp [hg]
      have HG : Hid (¬ g = f) := hg
      clear hg
      go_enter Try.func105, Try.ntmps105
      go_wp2_with (go_at_call 73; refine (contains_any N _ _ _ _ _ HI.out).mono ?_; rintro e w' ⟨rfl, rfl⟩)
      go_ret
      exact ⟨ret_bool (by simp [right, HG.out]), rfl⟩

end Go.Proofs.Ytopajgnemeodeaa

namespace Go.Proofs.Ytopajgnemeodeaa
open Go.RowKit

/-- what a valid book and valid fruits are -/
structure Good (B : Bk) (R : Fr) : Prop where
  nv : B.nv ≤ 6
  nf : B.nf = B.nv
  V : ∀ i, i < B.nv → 1 ≤ B.V i ∧ B.V i ≤ 5
  F : ∀ i, i < B.nv → B.F i = 0 ∨ B.F i = 1
  ns : B.ns ≤ 8
  nc : ∀ s, s < B.ns → B.nc s = B.nv
  ncc : ∀ s, s < B.ns → ∀ i, i < B.nv → 0 < B.ncc s i
  can : ∀ s, s < B.ns → ∀ i, i < B.nv → okCan (B.ncc s i) (B.can s i) (B.V i) = true
  wr0 : 0 ≤ B.wr
  wr9 : B.wr ≤ 9
  n : R.n ≤ 5
  L : ∀ f, f < R.n → R.L f = B.nv
  X : ∀ f, f < R.n → ∀ i, i < B.nv → R.X f i = -1 ∨ (0 ≤ R.X f i ∧ R.X f i < B.V i)

theorem good_of {B : Bk} {R : Fr} (hb : okBook B = true) (hr : okFruits B R = true) : Good B R := by
  simp only [okBook, okMarks, okSorts, Bool.and_eq_true, decide_eq_true_eq, allB_true] at hb
  obtain ⟨⟨⟨⟨⟨h1, h2⟩, h3⟩, h4, h5⟩, h6⟩, h7⟩ := hb
  simp only [okFruits, Bool.and_eq_true, decide_eq_true_eq, allB_true] at hr
  obtain ⟨g1, g2⟩ := hr
  have hs : ∀ s, s < B.ns → B.nc s = B.nv ∧ ∀ i, i < B.nc s → okCan (B.ncc s i) (B.can s i) (B.V i) = true := fun s hs => by
    have := h5 s hs
    simpa only [okSort, Bool.and_eq_true, decide_eq_true_eq, allB_true] using this
  have hf : ∀ f, f < R.n → R.L f = B.nv ∧ ∀ i, i < R.L f → (R.X f i = -1 ∨ (0 ≤ R.X f i ∧ R.X f i < B.V i)) := fun f hf => by
    have := g2 f hf
    simpa only [okFruit, Bool.and_eq_true, Bool.or_eq_true, decide_eq_true_eq, allB_true] using this
  exact ⟨h1, h2, fun i hi => (h3 i hi).1, fun i hi => by have := (h3 i hi).2; omega, h4, fun s h => (hs s h).1,
    fun s h i hi => by
      have := (hs s h).2 i (by rw [(hs s h).1]; exact hi)
      simp only [okCan, Bool.and_eq_true, decide_eq_true_eq] at this
      exact this.1,
    fun s h i hi => (hs s h).2 i (by rw [(hs s h).1]; exact hi), h6, h7, g1, fun f h => (hf f h).1,
    fun f h i hi => (hf f h).2 i (by rw [(hf f h).1]; exact hi)⟩

/-- a box at work: a book with fruits -/
def BoxAt (N : Nat) (w : World) (v : Value) (B : Bk) (R : Fr) : Prop :=
  N ≤ w.heap.size ∧ ∃ a1 c1 a2 c2 a3 c3 af cf, v = .agg #[.slice a1 B.nv c1, .slice a2 B.nf c2, .slice a3 B.ns c3, .int .i64 B.wr, .slice af R.n cf] ∧
    IntsAt N w (.slice a1 B.nv c1) B.nv B.V ∧ IntsAt N w (.slice a2 B.nf c2) B.nf B.F ∧ SortsAt N w (.slice a3 B.ns c3) B.ns B.nc B.ncc B.can ∧ FruitsAt N w (.slice af R.n cf) R

theorem BoxAt.mono {N N' : Nat} {w w' : World} {v : Value} {B : Bk} {R : Fr} (h : BoxAt N w v B R) (hB : Below N w w') (hN : N ≤ N') (hs : N' ≤ w'.heap.size) : BoxAt N' w' v B R := by
  obtain ⟨_, a1, c1, a2, c2, a3, c3, af, cf, rfl, h1, h2, h3, h4⟩ := h
  exact ⟨hs, a1, c1, a2, c2, a3, c3, af, cf, rfl, h1.mono hB hN, h2.mono hB hN, h3.mono hB hN, RowsAt.mono h4 hB hN⟩
theorem BoxAt.in_alloc {N : Nat} {w : World} {v : Value} {B : Bk} {R : Fr} (h : BoxAt N w v B R) (o : Obj) : BoxAt N (w.alloc o) v B R :=
  h.mono (below_alloc h.1 o) (Nat.le_refl _) (by have := h.1; simp; omega)
theorem BoxAt.chain {N : Nat} {w W : World} {v : Value} {B : Bk} {R : Fr} {o : Obj} (h : BoxAt N w v B R) (ch : Below (w.heap.size + 1) (w.alloc o) W) : BoxAt N W v B R :=
  h.mono ((below_of ch).mono h.1) (Nat.le_refl _) (by have := h.1; have := size_of ch; omega)

/-- so many values of a mark are wrong, in a sort, if the real one of the fruit f is x -/
def mw (B : Bk) (R : Fr) (s : Nat) (f : Int) (m : Nat) (x : Int) : Nat :=
  bad R m (fun g v => right (B.F m == 1) f x (B.ncc s m) (B.can s m) g v) R.n

set_option maxHeartbeats 4000000 in
theorem missesWith_any (N : Nat) (v : Value) (B : Bk) (R : Fr) (s m : Nat) (f x : Int) (w : World) (h : BoxAt N w v B R) (hg : Good B R) (hs : s < B.ns) (hm : m < B.nv) :
    Calls Try.prog 99 #[v, .int .i64 s, .agg #[.int .i64 f, .int .i64 m], .int .i64 x] w fun e w' => e = .returned (.int .i64 (mw B R s f m x)) ∧ Below w.heap.size w w' := by
  have H : Hid (BoxAt N w v B R) := h
  have HG : Hid _ := Lib.hid hg
  obtain ⟨hN, a1, c1, a2, c2, a3, c3, af, cf, rfl, h1, h2, h3, h4⟩ := h
  have hmf : (m : Int) < (B.nf : Int) := by have := hg.nf; omega
  obtain ⟨_, _, e2, _, hc2⟩ := h2
  cases e2
  obtain ⟨b2, off2, rfl, hb2, hr2⟩ := hc2 (by omega)
  obtain ⟨r2, hcell2, rfl⟩ := hr2 m (by omega)
  obtain ⟨_, _, e3, _, hc3⟩ := h3
  cases e3
  obtain ⟨b3, off3, rfl, hb3, hr3⟩ := hc3 (by omega)
  obtain ⟨r3, hcell3, ao, cap, rfl, hnc, hcr⟩ := hr3 s hs
  have hmc : (m : Int) < (B.nc s : Int) := by have := hg.nc s hs; omega
  obtain ⟨b4, off4, rfl, hb4, hr4⟩ := hcr (by omega)
  obtain ⟨r4, hcell4, hints⟩ := hr4 m (by omega)
  obtain ⟨a5, c5, rfl, hn5, hc5⟩ := hints
  have HI : Hid (IntsAt N w (.slice a5 (B.ncc s m) c5) (B.ncc s m) (B.can s m)) := ⟨a5, c5, rfl, hn5, hc5⟩
  have HM : Hid (∀ f, f < R.n → m < R.L f) := fun f hf => by rw [hg.L f hf]; exact hm
  clear hg hc2 hr2 hc3 hr3 hcr hr4 hc5 h1 h4
  have g2 : b2 < w.heap.size := by omega
  have g3 : b3 < w.heap.size := by omega
  have g4 : b4 < w.heap.size := by omega
  go_enter Try.func99, Try.ntmps99
  go_wp2
  obtain ⟨ws, hws⟩ : ∃ ws : World, ((w.alloc (.cells #[.slice a1 B.nv c1, .slice (some ⟨b2, off2, none⟩) B.nf c2, .slice (some ⟨b3, off3, none⟩) B.ns c3, .int .i64 B.wr, .slice af R.n cf] 93)).alloc (.cells #[.int .i64 f, .int .i64 m] 40)).alloc (.cells #[.int .i64 x] 3) = ws := ⟨_, rfl⟩
  have hsz : ws.heap.size = w.heap.size + 3 := by rw [← hws]; simp
  have hB0 : Below w.heap.size w ws := by
    rw [← hws]; exact (((Below.refl _ w).alloc (Nat.le_refl _) _).alloc (by simp) _).alloc (by simp; omega) _
  have q1 : ws.cell? ⟨w.heap.size, 1, none⟩ = some (.slice (some ⟨b2, off2, none⟩) B.nf c2) := by rw [← hws]; simp [go_sem]
  have q2 : ws.cell? ⟨w.heap.size, 2, none⟩ = some (.slice (some ⟨b3, off3, none⟩) B.ns c3) := by rw [← hws]; simp [go_sem]
  have q0 : ws.cell? ⟨w.heap.size, 0, none⟩ = some (.slice a1 B.nv c1) := by rw [← hws]; simp [go_sem]
  have q3 : ws.cell? ⟨w.heap.size, 3, none⟩ = some (.int .i64 B.wr) := by rw [← hws]; simp [go_sem]
  have q4 : ws.cell? ⟨w.heap.size, 4, none⟩ = some (.slice af R.n cf) := by rw [← hws]; simp [go_sem]
  have p0 : ws.cell? ⟨w.heap.size + 1, 0, none⟩ = some (.int .i64 f) := by rw [← hws]; simp [go_sem]
  have p1 : ws.cell? ⟨w.heap.size + 1, 1, none⟩ = some (.int .i64 m) := by rw [← hws]; simp [go_sem]
  have x0 : ws.cell? ⟨w.heap.size + 2, 0, none⟩ = some (.int .i64 x) := by rw [← hws]; simp [go_sem]
  replace hcell2 := (hB0.cell (p := ⟨b2, off2 + m, none⟩) g2).trans hcell2
  replace hcell3 := (hB0.cell (p := ⟨b3, off3 + s, none⟩) g3).trans hcell3
  replace hcell4 := (hB0.cell (p := ⟨b4, off4 + m, none⟩) g4).trans hcell4
  rw [hws]
  clear hws
  have g2' : b2 < ws.heap.size := by omega
  have g3' : b3 < ws.heap.size := by omega
  have g4' : b4 < ws.heap.size := by omega
  have e0 : w.heap.size < ws.heap.size := by omega
  have e1 : w.heap.size + 1 < ws.heap.size := by omega
  have e2 : w.heap.size + 2 < ws.heap.size := by omega
  have HSZ : Hid _ := Lib.hid hsz
  clear hsz
  have F1 : Hid (Below ws.heap.size ws ((ws.alloc (.cells #[.slice a5 (B.ncc s m) c5] 22)).alloc (.cells #[.bool (B.F m == 1)] 4)).drew) := (((Below.refl _ ws).alloc (Nat.le_refl _) _).alloc (by simp) _).drew
  have F2 : Hid (Below w.heap.size w ((ws.alloc (.cells #[.slice a5 (B.ncc s m) c5] 22)).alloc (.cells #[.bool (B.F m == 1)] 4)).drew) := hB0.trans (F1.out.mono (by omega))
  have F3 : Hid (((ws.alloc (.cells #[.slice a5 (B.ncc s m) c5] 22)).alloc (.cells #[.bool (B.F m == 1)] 4)).drew.cell? ⟨ws.heap.size, 0, none⟩ = some (.slice a5 (B.ncc s m) c5)) := by unfold Hid; simp [go_sem]
  have F4 : Hid (((ws.alloc (.cells #[.slice a5 (B.ncc s m) c5] 22)).alloc (.cells #[.bool (B.F m == 1)] 4)).drew.cell? ⟨ws.heap.size + 1, 0, none⟩ = some (.bool (B.F m == 1))) := by unfold Hid; simp [go_sem]
  have F5 : Hid (((ws.alloc (.cells #[.slice a5 (B.ncc s m) c5] 22)).alloc (.cells #[.bool (B.F m == 1)] 4)).drew.heap.size = ws.heap.size + 2) := by unfold Hid; simp [go_sem]
  have HF : Hid (FruitsAt N ((ws.alloc (.cells #[.slice a5 (B.ncc s m) c5] 22)).alloc (.cells #[.bool (B.F m == 1)] 4)).drew (.slice af R.n cf) R) := by
    obtain ⟨_, _, _, _, _, _, _, _, _, e, _, _, _, h4⟩ := H.out
    cases e
    exact RowsAt.mono h4 (F2.out.mono hN) (Nat.le_refl _)
  have HP0 : Hid _ := Lib.hid p0
  have HX0 : Hid _ := Lib.hid x0
  go_region
  go_wp2_with (go_at_call 104; refine (misses_any N m _ _ _ _ _ _ _ R (fun g v => right (B.F m == 1) f x (B.ncc s m) (B.can s m) g v) _ ?c1 ?c2 ?c3 ?c4).mono ?c5)
  case c1 => rw [F5.out]; have := HSZ.out; omega
  case c2 => exact HF.out
  case c3 => exact HM.out
  case c4 =>
    intro W g v hW
    have hsz5 := F5.out
    have hszw := HSZ.out
    exact (closure_any N (ws.heap.size + 1) (w.heap.size + 1) (w.heap.size + 1 + 1) ws.heap.size (B.F m == 1) f x (.slice a5 (B.ncc s m) c5) (B.ncc s m) (B.can s m) g v W
      ((hW.cell (p := ⟨ws.heap.size + 1, 0, none⟩) (by show ws.heap.size + 1 < _; omega)).trans F4.out)
      ((hW.cell (p := ⟨w.heap.size + 1, 0, none⟩) (by show w.heap.size + 1 < _; omega)).trans ((F1.out.cell (p := ⟨w.heap.size + 1, 0, none⟩) (by show w.heap.size + 1 < _; omega)).trans HP0.out))
      ((hW.cell (p := ⟨w.heap.size + 1 + 1, 0, none⟩) (by show w.heap.size + 1 + 1 < _; omega)).trans ((F1.out.cell (p := ⟨w.heap.size + 2, 0, none⟩) (by show w.heap.size + 2 < _; omega)).trans HX0.out))
      ((hW.cell (p := ⟨ws.heap.size, 0, none⟩) (by show ws.heap.size < _; omega)).trans F3.out)
      (HI.out.mono ((F2.out.mono hN).trans (hW.mono (by omega))) (Nat.le_refl _))).mono fun e w' ⟨he, hw⟩ => ⟨he, hw ▸ Below.refl _ _⟩
  case c5 =>
    rintro e w' ⟨rfl, hb⟩
    go_wp2
    go_ret
    exact ⟨rfl, F2.out.trans (hb.mono (by rw [F5.out]; have := HSZ.out; omega))⟩

end Go.Proofs.Ytopajgnemeodeaa

namespace Go.Proofs.Ytopajgnemeodeaa
open Go.RowKit

/-- the least of a and the first n of g -/
def minTo : Nat → (Nat → Nat) → Nat → Nat
  | 0, _, a => a
  | n + 1, g, a => min (minTo n g a) (g n)
def sumTo : Nat → (Nat → Nat) → Nat
  | 0, _ => 0
  | n + 1, g => sumTo n g + g n
theorem minTo_le (n : Nat) (g : Nat → Nat) (a : Nat) : minTo n g a ≤ a := by
  induction n with
  | zero => exact Nat.le_refl _
  | succ n ih => simp only [minTo]; omega
theorem sumTo_le (n : Nat) (g : Nat → Nat) (c : Nat) (h : ∀ i, i < n → g i ≤ c) : sumTo n g ≤ n * c := by
  induction n with
  | zero => simp [sumTo]
  | succ n ih =>
    have h1 := ih fun i hi => h i (by omega)
    have h2 := h n (by omega)
    simp only [sumTo]
    rw [Nat.succ_mul]
    omega

theorem bad_le (R : Fr) (m : Nat) (r : Nat → Int → Bool) (k : Nat) : bad R m r k ≤ k := cnt_le _ _

def lm (B : Bk) (R : Fr) (s m : Nat) : Nat := minTo (B.ncc s m) (fun i => mw B R s 0 m (B.can s m i)) R.n
theorem lm_le (B : Bk) (R : Fr) (s m : Nat) : lm B R s m ≤ R.n := minTo_le _ _ _

theorem okCan_len {n : Nat} {c : Nat → Int} {hi : Int} (h : okCan n c hi = true) (h5 : hi ≤ 5) : n ≤ 5 := by
  simp only [okCan, Bool.and_eq_true, decide_eq_true_eq, allB_true, Bool.or_eq_true] at h
  obtain ⟨_, h2⟩ := h
  have key : ∀ k, k < n → (k : Int) ≤ c k := by
    intro k
    induction k with
    | zero => intro hk; have := (h2 0 hk).1.1; omega
    | succ k ih =>
      intro hk
      have h3 := ih (by omega)
      have h4 := (h2 (k + 1) hk).2
      simp at h4
      omega
  rcases Nat.lt_or_ge 5 n with h6 | h6
  · have h7 := key 5 h6
    have h8 := (h2 5 h6).1.2
    omega
  · exact h6

set_option maxHeartbeats 1000000 in
theorem leastMisses_any (N : Nat) (v : Value) (B : Bk) (R : Fr) (s m : Nat) (w : World) (h : BoxAt N w v B R) (hg : Good B R) (hs : s < B.ns) (hm : m < B.nv) :
    Calls Try.prog 89 #[v, .int .i64 s, .int .i64 m] w fun e w' => e = .returned (.int .i64 (lm B R s m)) ∧ Below w.heap.size w w' := by
  have H : Hid (BoxAt N w v B R) := h
  have HG : Hid _ := Lib.hid hg
  obtain ⟨hN, a1, c1, a2, c2, a3, c3, af, cf, rfl, h1, h2, h3, h4⟩ := h
  have h3' := h3
  obtain ⟨_, _, e3, _, hc3⟩ := h3
  cases e3
  obtain ⟨b3, off3, rfl, hb3, hr3⟩ := hc3 (by omega)
  obtain ⟨r3, hcell3, ao, cap, rfl, hnc, hcr⟩ := hr3 s hs
  have hmc : (m : Int) < (B.nc s : Int) := by have := hg.nc s hs; omega
  obtain ⟨b4, off4, rfl, hb4, hr4⟩ := hcr (by omega)
  obtain ⟨r4, hcell4, a5, c5, rfl, hn5, hc5⟩ := hr4 m (by omega)
  have HC5 : Hid _ := Lib.hid hc5
  have g3 : b3 < w.heap.size := by omega
  have g4 : b4 < w.heap.size := by omega
  have hR5 := hg.n
  clear hg hc3 hr3 hcr hr4 h1 h2 h4 h3' hc5
  go_enter Try.func89, Try.ntmps89
  go_wp2
  go_loopw [7, 24] (fun t i wr => ∃ k : Nat, k ≤ B.ncc s m ∧ i = .int .i64 k ∧ t = .int .i64 (minTo k (fun i => mw B R s 0 m (B.can s m i)) R.n) ∧ Hid (Below (w.heap.size + 1) (w.alloc (.cells #[.slice a1 B.nv c1, .slice a2 B.nf c2, .slice (some ⟨b3, off3, none⟩) B.ns c3, .int .i64 B.wr, .slice af R.n cf] 93)) wr)) (fun _ i _ => B.ncc s m - (intOf i).toNat)
  case atStart => exact ⟨0, Nat.zero_le _, rfl, rfl, Below.refl _ _⟩
  case round =>
    obtain ⟨k, hk, rfl, rfl, hB⟩ := hrel
    by_cases hkn : k < B.ncc s m
    · obtain ⟨b5, off5, rfl, hb5, hr5⟩ := HC5.out (by omega)
      obtain ⟨r5, hcell5, rfl⟩ := hr5 k hkn
      clear hr5
      replace hcell5 := ((below_of hB.out).cell (p := ⟨b5, off5 + k, none⟩) (by show b5 < _; omega)).trans hcell5
      have q0 := box_cell hB.out 0 rfl
      have q1 := box_cell hB.out 1 rfl
      have q2 := box_cell hB.out 2 rfl
      have q3 := box_cell hB.out 3 rfl
      have q4 := box_cell hB.out 4 rfl
      have hle := minTo_le k (fun i => mw B R s 0 m (B.can s m i)) R.n
      have HE : Hid (minTo (k + 1) (fun i => mw B R s 0 m (B.can s m i)) R.n = min (minTo k (fun i => mw B R s 0 m (B.can s m i)) R.n) (mw B R s 0 m (B.can s m k))) := rfl
      generalize minTo k (fun i => mw B R s 0 m (B.can s m i)) R.n = t at *
      go_wp2_with (go_at_call 99; refine (missesWith_any N _ B R s m 0 _ _ (H.out.chain hB.out) HG.out hs hm).mono ?_; rintro e w1 ⟨rfl, hb1⟩)
      go_roundw
      case rel => exact ⟨k + 1, by omega, by go_num, by rw [HE.out]; first | rfl | (congr 1; omega), chain hB.out hb1⟩
      case measure => simp [intOf]; omega
    · have Hk : Hid (k = B.ncc s m) := by show k = _; omega
      go_wp2
      go_ret
      exact ⟨ret_int (congrArg (fun q => ((minTo q (fun i => mw B R s 0 m (B.can s m i)) R.n : Nat) : Int)) Hk.out), below_of hB.out⟩

/-- the least number of wrong values of a sort -/
def wrong (B : Bk) (R : Fr) (s : Nat) : Nat := sumTo B.nv (lm B R s)
theorem wrong_le {B : Bk} {R : Fr} (hg : Good B R) (s : Nat) : wrong B R s ≤ 30 := by
  have h1 := sumTo_le B.nv (lm B R s) 5 fun i _ => Nat.le_trans (lm_le B R s i) hg.n
  have h2 := hg.nv
  unfold wrong; omega

set_option maxHeartbeats 1000000 in
theorem wrong_any (N : Nat) (v : Value) (B : Bk) (R : Fr) (s : Nat) (w : World) (h : BoxAt N w v B R) (hg : Good B R) (hs : s < B.ns) :
    Calls Try.prog 67 #[v, .int .i64 s] w fun e w' => e = .returned (.int .i64 (wrong B R s)) ∧ Below w.heap.size w w' := by
  have H : Hid (BoxAt N w v B R) := h
  have HG : Hid _ := Lib.hid hg
  obtain ⟨hN, a1, c1, a2, c2, a3, c3, af, cf, rfl, h1, h2, h3, h4⟩ := h
  have hn6 := hg.nv
  clear hg h1 h2 h3 h4
  go_enter Try.func67, Try.ntmps67
  go_wp2
  go_loopw [5, 11] (fun t i wr => ∃ k : Nat, k ≤ B.nv ∧ i = .int .i64 k ∧ t = .int .i64 (sumTo k (lm B R s)) ∧ Hid (Below (w.heap.size + 1) (w.alloc (.cells #[.slice a1 B.nv c1, .slice a2 B.nf c2, .slice a3 B.ns c3, .int .i64 B.wr, .slice af R.n cf] 93)) wr)) (fun _ i _ => B.nv - (intOf i).toNat)
  case atStart => exact ⟨0, Nat.zero_le _, rfl, rfl, Below.refl _ _⟩
  case round =>
    obtain ⟨k, hk, rfl, rfl, hB⟩ := hrel
    by_cases hkn : k < B.nv
    · have q0 := box_cell hB.out 0 rfl
      have q1 := box_cell hB.out 1 rfl
      have q2 := box_cell hB.out 2 rfl
      have q3 := box_cell hB.out 3 rfl
      have q4 := box_cell hB.out 4 rfl
      have hle : sumTo k (lm B R s) ≤ 30 := by
        have h1 := sumTo_le k (lm B R s) 5 fun i _ => Nat.le_trans (lm_le B R s i) HG.out.n
        omega
      have hl5 : lm B R s k ≤ 5 := Nat.le_trans (lm_le B R s k) HG.out.n
      have HE : Hid (sumTo (k + 1) (lm B R s) = sumTo k (lm B R s) + lm B R s k) := rfl
      generalize sumTo k (lm B R s) = t at *
      go_wp2_with (go_at_call 89; refine (leastMisses_any N _ B R s k _ (H.out.chain hB.out) HG.out hs hkn).mono ?_; rintro e w1 ⟨rfl, hb1⟩)
      go_roundw
      case rel => exact ⟨k + 1, by omega, by go_num, by rw [HE.out]; go_num, chain hB.out hb1⟩
      case measure => simp [intOf]; omega
    · have Hk : Hid (k = B.nv) := by show k = _; omega
      go_wp2
      go_ret
      exact ⟨ret_int (congrArg (fun q => ((sumTo q (lm B R s) : Nat) : Int)) Hk.out), below_of hB.out⟩

def fewest (B : Bk) (R : Fr) : Nat := minTo B.ns (wrong B R) (wrong B R 0)

set_option maxHeartbeats 1000000 in
theorem fewest_any (N : Nat) (v : Value) (B : Bk) (R : Fr) (w : World) (h : BoxAt N w v B R) (hg : Good B R) (hs : 0 < B.ns) :
    Calls Try.prog 70 #[v] w fun e w' => e = .returned (.int .i64 (fewest B R)) ∧ Below w.heap.size w w' := by
  have H : Hid (BoxAt N w v B R) := h
  have HG : Hid _ := Lib.hid hg
  obtain ⟨hN, a1, c1, a2, c2, a3, c3, af, cf, rfl, h1, h2, h3, h4⟩ := h
  have hn6 := hg.ns
  clear hg h1 h2 h3 h4
  go_enter Try.func70, Try.ntmps70
  go_wp2_with (go_at_call 67; refine (wrong_any N _ B R 0 _ (H.out.in_alloc _) HG.out hs).mono ?_; rintro e w1 ⟨rfl, hb1⟩; have ch1 := chain (chain0 _ _) hb1; have q0 := box_cell ch1 0 rfl; have q1 := box_cell ch1 1 rfl; have q2 := box_cell ch1 2 rfl; have q3 := box_cell ch1 3 rfl; have q4 := box_cell ch1 4 rfl; clear hb1)
  have HC : Hid _ := Lib.hid ch1
  clear ch1 q0 q1 q2 q3 q4
  go_loopw [3, 11] (fun t i wr => ∃ k : Nat, k ≤ B.ns ∧ i = .int .i64 k ∧ t = .int .i64 (minTo k (wrong B R) (wrong B R 0)) ∧ Hid (Below (w.heap.size + 1) (w.alloc (.cells #[.slice a1 B.nv c1, .slice a2 B.nf c2, .slice a3 B.ns c3, .int .i64 B.wr, .slice af R.n cf] 93)) wr)) (fun _ i _ => B.ns - (intOf i).toNat)
  case atStart => exact ⟨0, Nat.zero_le _, rfl, rfl, HC.out⟩
  case round =>
    obtain ⟨k, hk, rfl, rfl, hB⟩ := hrel
    by_cases hkn : k < B.ns
    · have q0 := box_cell hB.out 0 rfl
      have q1 := box_cell hB.out 1 rfl
      have q2 := box_cell hB.out 2 rfl
      have q3 := box_cell hB.out 3 rfl
      have q4 := box_cell hB.out 4 rfl
      have hle : minTo k (wrong B R) (wrong B R 0) ≤ 30 := Nat.le_trans (minTo_le _ _ _) (wrong_le HG.out 0)
      have hl5 : wrong B R k ≤ 30 := wrong_le HG.out k
      have HE : Hid (minTo (k + 1) (wrong B R) (wrong B R 0) = min (minTo k (wrong B R) (wrong B R 0)) (wrong B R k)) := rfl
      generalize minTo k (wrong B R) (wrong B R 0) = t at *
      go_wp2_with (go_at_call 67; refine (wrong_any N _ B R k _ (H.out.chain hB.out) HG.out hkn).mono ?_; rintro e w1 ⟨rfl, hb1⟩)
      go_roundw
      case rel => exact ⟨k + 1, by omega, by go_num, by rw [HE.out]; first | rfl | (congr 1; omega), chain hB.out hb1⟩
      case measure => simp [intOf]; omega
    · have Hk : Hid (k = B.ns) := by show k = _; omega
      go_wp2
      go_ret
      exact ⟨ret_int (congrArg (fun q => ((minTo q (wrong B R) (wrong B R 0) : Nat) : Int)) Hk.out), below_of hB.out⟩

end Go.Proofs.Ytopajgnemeodeaa

namespace Go.Proofs.Ytopajgnemeodeaa
open Go.RowKit

theorem own_below {base : Nat} {e : TypeId} {size : Nat} {v : Value} {n : Nat} {xs : List Value} {w w' : World} (h : w.ownsRow base e size v n xs) (hB : Below w.heap.size w w') : w'.ownsRow base e size v n xs := by
  obtain ⟨h1, h2 | ⟨g, cap, cur, rfl, h3, h4, h5⟩⟩ := h
  · exact ⟨h1, .inl h2⟩
  · exact ⟨h1, .inr ⟨g, cap, cur, rfl, h3, (hB.block g (Array.getElem?_eq_some_iff.1 h4).1).trans h4, h5⟩⟩
theorem own_mono {base base' : Nat} {e : TypeId} {size : Nat} {v : Value} {n : Nat} {xs : List Value} {w : World} (h : w.ownsRow base e size v n xs) (hb : base' ≤ base) : w.ownsRow base' e size v n xs := by
  obtain ⟨h1, h2 | ⟨g, cap, cur, rfl, h3, h4, h5⟩⟩ := h
  · exact ⟨h1, .inl h2⟩
  · exact ⟨h1, .inr ⟨g, cap, cur, rfl, Nat.le_trans hb h3, h4, h5⟩⟩

/-- v is a list of its own (or nil), of the numbers l -/
def OwnI (N : Nat) (w : World) (v : Value) (l : List Int) : Prop := w.ownsRow N 3 1 v l.length (l.map (Value.int .i64))

theorem OwnI.ints {N : Nat} {w : World} {v : Value} {l : List Int} (h : OwnI N w v l) (hl : l.length ≤ 140737488351232) : IntsAt w.heap.size w v l.length (fun i => l.getD i 0) := by
  obtain ⟨h1, ⟨rfl, h2⟩ | ⟨g, cap, cur, rfl, h3, h4, h5, h6, h7, h8⟩⟩ := h
  · exact ⟨none, 0, by rw [h2], hl, fun h0 => by omega⟩
  · refine ⟨_, cap, rfl, hl, fun _ => ⟨g, 0, rfl, (Array.getElem?_eq_some_iff.1 h4).1, fun i hi => ⟨_, ?_, rfl⟩⟩⟩
    have hh := World.ownsRow.cells (w := w) (base := N) (e := 3) (size := 1) (v := .slice (some ⟨g, 0, none⟩) l.length cap) (n := l.length) (xs := l.map (Value.int .i64)) ⟨h1, .inr ⟨g, cap, cur, rfl, h3, h4, h5, h6, h7, h8⟩⟩ rfl i (.int .i64 (l.getD i 0)) (by
      rw [List.getElem?_map, List.getElem?_eq_getElem hi]; simp [List.getD, List.getElem?_eq_getElem hi])
    rw [show (⟨g, 0 + i, none⟩ : Addr) = (⟨g, 0, none⟩ : Addr).add i by simp [Addr.add]]
    exact hh

theorem keep5 {wr w0 w1 : World} {b : Nat} {x0 x1 x2 x3 x4 : Value} (h : w0.cell? ⟨b, 0, none⟩ = some x0 ∧ w0.cell? ⟨b, 1, none⟩ = some x1 ∧ w0.cell? ⟨b, 2, none⟩ = some x2 ∧ w0.cell? ⟨b, 3, none⟩ = some x3 ∧ w0.cell? ⟨b, 4, none⟩ = some x4 ∧ Hid (Below wr.heap.size wr w0)) (hb : b < wr.heap.size) (k : Below w0.heap.size w0 w1) :
    w1.cell? ⟨b, 0, none⟩ = some x0 ∧ w1.cell? ⟨b, 1, none⟩ = some x1 ∧ w1.cell? ⟨b, 2, none⟩ = some x2 ∧ w1.cell? ⟨b, 3, none⟩ = some x3 ∧ w1.cell? ⟨b, 4, none⟩ = some x4 ∧ Hid (Below wr.heap.size wr w1) := by
  obtain ⟨h0, h1, h2, h3, h4, hB⟩ := h
  have hlt : b < w0.heap.size := Nat.lt_of_lt_of_le hb hB.out.size
  exact ⟨(k.cell (p := ⟨b, 0, none⟩) hlt).trans h0, (k.cell (p := ⟨b, 1, none⟩) hlt).trans h1, (k.cell (p := ⟨b, 2, none⟩) hlt).trans h2, (k.cell (p := ⟨b, 3, none⟩) hlt).trans h3, (k.cell (p := ⟨b, 4, none⟩) hlt).trans h4, step hB.out (Nat.le_refl _) k⟩

/-- a call that makes a list -/
def GivesI (N : Nat) (w : World) (l : List Int) (e : Ending) (w' : World) : Prop := ∃ v, e = .returned v ∧ OwnI N w' v l ∧ Below N w w'

/-- the numbers below n with p -/
def sel (p : Nat → Bool) : Nat → List Int
  | 0 => []
  | k + 1 => if p k then sel p k ++ [(k : Int)] else sel p k
theorem sel_len (p : Nat → Bool) (k : Nat) : (sel p k).length ≤ k := by
  induction k with
  | zero => simp [sel]
  | succ k ih =>
    unfold sel; split
    · simp; omega
    · omega
theorem sel_hit {p : Nat → Bool} {k : Nat} (h : p k = true) : sel p (k + 1) = sel p k ++ [(k : Int)] := by simp [sel, h]
theorem sel_miss {p : Nat → Bool} {k : Nat} (h : p k = false) : sel p (k + 1) = sel p k := by simp [sel, h]

theorem Try.infoInt : (Try.prog.info? 3).map (fun i => (i.zero, i.size, i.bytes)) = some (some (.int .i64 0), 1, 8) := by kernel_rfl

def sorts (B : Bk) (R : Fr) : List Int := sel (fun s => decide ((wrong B R s : Int) ≤ B.wr)) B.ns

set_option maxHeartbeats 4000000 in
theorem sorts_any (N : Nat) (v : Value) (B : Bk) (R : Fr) (w : World) (h : BoxAt N w v B R) (hg : Good B R) :
    Calls Try.prog 71 #[v] w (GivesI w.heap.size w (sorts B R)) := by
  have H : Hid (BoxAt N w v B R) := h
  have HG : Hid _ := Lib.hid hg
  obtain ⟨hN, a1, c1, a2, c2, a3, c3, af, cf, rfl, h1, h2, h3, h4⟩ := h
  have hn8 := hg.ns
  obtain ⟨i0, hi, hz0, hz1, hz2⟩ := info_parts Try.infoInt
  clear hg h1 h2 h3 h4
  go_enter Try.func71, Try.ntmps71
  go_wp2
  go_loopw [3, 9] (fun t i wr => ∃ k : Nat, k ≤ B.ns ∧ i = .int .i64 k ∧ Hid (OwnI (w.heap.size + 1) wr t (sel (fun s => decide ((wrong B R s : Int) ≤ B.wr)) k)) ∧ Hid (Below (w.heap.size + 1) (w.alloc (.cells #[.slice a1 B.nv c1, .slice a2 B.nf c2, .slice a3 B.ns c3, .int .i64 B.wr, .slice af R.n cf] 93)) wr)) (fun _ i _ => B.ns - (intOf i).toNat)
  case atStart => exact ⟨0, Nat.zero_le _, rfl, World.ownsRow_nil _ _ _ _, Below.refl _ _⟩
  case round =>
    obtain ⟨k, hk, rfl, ho, hB⟩ := hrel
    by_cases hkn : k < B.ns
    · have q0 := box_cell hB.out 0 rfl
      have q1 := box_cell hB.out 1 rfl
      have q2 := box_cell hB.out 2 rfl
      have q3 := box_cell hB.out 3 rfl
      have q4 := box_cell hB.out 4 rfl
      have hsz := size_of hB.out
      have hS0 : (wr.drew.cell? ⟨w.heap.size, 0, none⟩ = some (.slice a1 B.nv c1) ∧ wr.drew.cell? ⟨w.heap.size, 1, none⟩ = some (.slice a2 B.nf c2) ∧ wr.drew.cell? ⟨w.heap.size, 2, none⟩ = some (.slice a3 B.ns c3) ∧ wr.drew.cell? ⟨w.heap.size, 3, none⟩ = some (.int .i64 B.wr) ∧ wr.drew.cell? ⟨w.heap.size, 4, none⟩ = some (.slice af R.n cf) ∧ Hid (Below wr.heap.size wr wr.drew)) := ⟨q0, q1, q2, q3, q4, (Below.refl _ _).drew⟩
      have HS0 : Hid _ := Lib.hid hS0
      by_cases hp : (wrong B R k : Int) ≤ B.wr
      · have HP : Hid (sel (fun s => decide ((wrong B R s : Int) ≤ B.wr)) (k + 1) = sel (fun s => decide ((wrong B R s : Int) ≤ B.wr)) k ++ [(k : Int)]) := sel_hit (by simpa using hp)
        have hsl := sel_len (fun s => decide ((wrong B R s : Int) ≤ B.wr)) k
        generalize sel (fun s => decide ((wrong B R s : Int) ≤ B.wr)) k = t at *
        go_wp2
        go_region_held3 (fun w' => w'.cell? ⟨w.heap.size, 0, none⟩ = some (.slice a1 B.nv c1) ∧ w'.cell? ⟨w.heap.size, 1, none⟩ = some (.slice a2 B.nf c2) ∧ w'.cell? ⟨w.heap.size, 2, none⟩ = some (.slice a3 B.ns c3) ∧ w'.cell? ⟨w.heap.size, 3, none⟩ = some (.int .i64 B.wr) ∧ w'.cell? ⟨w.heap.size, 4, none⟩ = some (.slice af R.n cf) ∧ Hid (Below wr.heap.size wr w')) (assumption)
          (first | (go_at_call 67; refine (wrong_any N _ B R k _ (H.out.chain (chain hB.out (Below.refl _ _).drew)) HG.out hkn).mono ?_; rintro e w1 ⟨rfl, hb1⟩; have S1 := keep5 HS0.out hsz hb1))
        obtain ⟨_, _, _, _, _, hb2⟩ := S1
        have hown1 := own_below ho.out hb2.out
        have hw1 : w.heap.size + 1 ≤ w1.heap.size := by have := hb2.out.size; omega
        go_wp2_with (at_builtin; refine wpList_append_own _ rfl _ _ 22 rfl (w.heap.size + 1) 3 i0 (.int .i64 0) 1 8 Try.underlying22 hi hz0 hz1 hz2 rfl (by decide) _ _ _ rfl (hown1.alloc _) ⟨w1.heap.size, 0, none⟩ 1 1 [.int .i64 k] rfl rfl (cell_one_new _ _ _) (by simp [Value.oneCell']) (by unfold maxLen; omega) (by omega) (by simp; omega) ?_; intro v' w2 hown2 hgrow _)
        go_roundw
        case rel => exact ⟨k + 1, by omega, by go_num, by rw [HP.out]; unfold Hid OwnI; rw [List.length_append, List.map_append]; exact hown2, (Below.alloc (step hB.out (by simp) hb2.out) hw1 _).grown hgrow (by simp; omega) (fun j e => (hown1.lt j e).1)⟩
        case measure => simp [intOf]; omega
      · have HP : Hid (sel (fun s => decide ((wrong B R s : Int) ≤ B.wr)) (k + 1) = sel (fun s => decide ((wrong B R s : Int) ≤ B.wr)) k) := sel_miss (by simpa using hp)
        have hd : decide ((wrong B R k : Int) ≤ B.wr) = false := by simpa using hp
        clear hp
        generalize sel (fun s => decide ((wrong B R s : Int) ≤ B.wr)) k = t at *
        go_wp2
        go_region_held3 (fun w' => w'.cell? ⟨w.heap.size, 0, none⟩ = some (.slice a1 B.nv c1) ∧ w'.cell? ⟨w.heap.size, 1, none⟩ = some (.slice a2 B.nf c2) ∧ w'.cell? ⟨w.heap.size, 2, none⟩ = some (.slice a3 B.ns c3) ∧ w'.cell? ⟨w.heap.size, 3, none⟩ = some (.int .i64 B.wr) ∧ w'.cell? ⟨w.heap.size, 4, none⟩ = some (.slice af R.n cf) ∧ Hid (Below wr.heap.size wr w')) (assumption)
          (first | (go_at_call 67; refine (wrong_any N _ B R k _ (H.out.chain (chain hB.out (Below.refl _ _).drew)) HG.out hkn).mono ?_; rintro e w1 ⟨rfl, hb1⟩; have S1 := keep5 HS0.out hsz hb1))
        obtain ⟨_, _, _, _, _, hb2⟩ := S1
        have HO1 : Hid _ := Lib.hid (own_below ho.out hb2.out)
        clear hS0
        go_wp2
        go_roundw
        case rel => exact ⟨k + 1, by omega, by go_num, by rw [HP.out]; exact HO1.out, step hB.out (by simp) hb2.out⟩
        case measure => simp [intOf]; omega
    · have Hk : Hid (k = B.ns) := by show k = _; omega
      go_wp2
      go_ret
      exact ⟨_, rfl, by unfold sorts; rw [← Hk.out]; exact own_mono ho.out (Nat.le_succ _), below_of hB.out⟩

end Go.Proofs.Ytopajgnemeodeaa
