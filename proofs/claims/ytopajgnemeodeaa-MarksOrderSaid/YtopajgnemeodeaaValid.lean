/-
  Valid: contracts of the functions that its theorems name.
-/
import Derived.Test.YtopajgnemeodeaaBase
namespace Go.Proofs.Ytopajgnemeodeaa
open Go.RowKit

/-- values that a mark can have: some, ascending, from 0 to hi - 1 -/
def okCan (n : Nat) (c : Nat → Int) (hi : Int) : Bool := decide (0 < n) && allB n fun i => decide (0 ≤ c i) && decide (c i < hi) && (decide (i = 0) || decide (c (i - 1) < c i))
def okMarks (B : Bk) : Bool := decide (B.nv ≤ 6) && decide (B.nf = B.nv) && allB B.nv fun i => decide (1 ≤ B.V i) && decide (B.V i ≤ 5) && (decide (0 ≤ B.F i) && decide (B.F i < 2))
def okSort (B : Bk) (s : Nat) : Bool := decide (B.nc s = B.nv) && allB (B.nc s) fun i => okCan (B.ncc s i) (B.can s i) (B.V i)
def okSorts (B : Bk) : Bool := decide (B.ns ≤ 8) && allB B.ns (okSort B)
def okBook (B : Bk) : Bool := okMarks B && okSorts B && decide (0 ≤ B.wr) && decide (B.wr ≤ 9)
def okFruit (B : Bk) (R : Fr) (f : Nat) : Bool := decide (R.L f = B.nv) && allB (R.L f) fun i => decide (R.X f i = -1) || (decide (0 ≤ R.X f i) && decide (R.X f i < B.V i))
def okFruits (B : Bk) (R : Fr) : Bool := decide (R.n ≤ 5) && allB R.n (okFruit B R)
def chk (B : Bk) (R : Fr) : Int := if okBook B then (if okFruits B R then 0 else 11) else 10

theorem allB_succ_false {n k : Nat} {p : Nat → Bool} (hk : k < n) (h : p k = false) : allB n p = false := allB_false.2 ⟨k, hk, h⟩

set_option maxHeartbeats 400000 in
theorem validCan_any (N : Nat) (v : Value) (n : Nat) (c : Nat → Int) (hi : Int) (w : World) (h : IntsAt N w v n c) :
    Calls Try.prog 98 #[v, .int .i64 hi] w fun e w' => e = .returned (.bool (okCan n c hi)) ∧ w' = w := by
  obtain ⟨ao, cap, rfl, hn, hc⟩ := h
  go_enter Try.func98, Try.ntmps98
  go_wp2
  go_loop [5, 10] (fun l i => ∃ k : Nat, ∃ z : Int, k ≤ n ∧ i = .int .i64 k ∧ l = .int .i64 z ∧ Hid (z = (if k = 0 then -1 else c (k - 1)) ∧ ∀ j, j < k → (decide (0 ≤ c j) && decide (c j < hi) && (decide (j = 0) || decide (c (j - 1) < c j))) = true)) (fun _ i => n - (intOf i).toNat)
  case atStart => exact ⟨0, -1, Nat.zero_le _, rfl, rfl, rfl, fun j hj => absurd hj (Nat.not_lt_zero j)⟩
  case round =>
    obtain ⟨k, z, hk, rfl, rfl, hj⟩ := hrel
    by_cases hkn : k < n
    · obtain ⟨b, off, rfl, _, hr⟩ := hc (by omega)
      obtain ⟨r, hcell, rfl⟩ := hr k hkn
      clear hr hc
      have hz := hj.out.1
      have hpos : Hid (z < c k → 0 ≤ c k) := fun hlt => by
        by_cases h0 : k = 0
        · rw [if_pos h0] at hz; omega
        · rw [if_neg h0] at hz
          have hjj := hj.out.2 (k - 1) (by omega)
          simp only [Bool.and_eq_true, decide_eq_true_eq] at hjj
          have := hjj.1.1
          omega
      have hprev : Hid (z < c k → (k = 0 ∨ c (k - 1) < c k)) := fun hlt => by
        by_cases h0 : k = 0
        · exact .inl h0
        · rw [if_neg h0] at hz
          right; omega
      have hprev2 : Hid (¬ z < c k → (decide (0 ≤ c k) && decide (c k < hi) && (decide (k = 0) || decide (c (k - 1) < c k))) = false) := fun hlt => by
        by_cases h0 : k = 0
        · rw [if_pos h0] at hz
          have : ¬ 0 ≤ c k := by omega
          simp [this]
        · rw [if_neg h0] at hz
          have : ¬ c (k - 1) < c k := by omega
          simp [this, h0]
      clear hz
      by_cases h1 : z < c k
      · by_cases h2 : c k < hi
        · go_wp2
          go_round
          case rel => exact ⟨k + 1, c k, by omega, by go_num, rfl, by simp, lt_succ hj.out.2 (by have a := hpos.out h1; have b := hprev.out h1; simp [a, h2, b])⟩
          case measure => simp [intOf]; omega
        · have h2' : hi ≤ c k := by omega
          go_wp2
          go_ret
          exact ⟨ret_bool (by unfold okCan; rw [allB_succ_false hkn (by have q : ¬ c k < hi := (by omega); simp [q]), Bool.and_false]), rfl⟩
      · have h1' : c k ≤ z := by omega
        go_wp2
        go_ret
        exact ⟨ret_bool (by unfold okCan; rw [allB_succ_false hkn (hprev2.out h1), Bool.and_false]), rfl⟩
    · obtain rfl : k = n := by omega
      have Hn : Hid (allB k (fun i => decide (0 ≤ c i) && decide (c i < hi) && (decide (i = 0) || decide (c (i - 1) < c i))) = true) := allB_true.2 hj.out.2
      go_wp2
      go_ret
      exact ⟨ret_bool (by unfold okCan; rw [Hn.out, Bool.and_true]), rfl⟩

set_option maxHeartbeats 400000 in
theorem misPlace_any (N : Nat) (v u : Value) (B : Bk) (R : Fr) (f m : Int) (w : World) (h : BookAt N w v B) (hf : FruitsAt N w u R) :
    Calls Try.prog 75 #[v, u, .agg #[.int .i64 f, .int .i64 m]] w fun e w' => e = .returned (.bool (inPlace B R f m)) ∧ Below w.heap.size w w' := by
  obtain ⟨_, a1, c1, a2, c2, a3, c3, rfl, h1, h2, h3⟩ := h
  obtain ⟨ao, cap, rfl, hn, hc⟩ := hf
  cases hfb : (decide (0 ≤ f) && decide (f < (R.n : Int))) with
  | true =>
    have HFB : Hid _ := Lib.hid hfb
    clear hfb
    go_enter Try.func75, Try.ntmps75
    go_wp2_with (go_at_call 81; refine (mwithin_any _ _ _).mono ?_; rintro e w' ⟨rfl, rfl⟩; try rw [HFB.out])
    go_ret
    exact ⟨ret_bool (by simp only [inPlace, HFB.out, Bool.true_and]), ((below_alloc (Nat.le_refl _) _).alloc (by simp) _)⟩
  | false =>
    have HFB : Hid _ := Lib.hid hfb
    clear hfb
    go_enter Try.func75, Try.ntmps75
    go_wp2_with (go_at_call 81; refine (mwithin_any _ _ _).mono ?_; rintro e w' ⟨rfl, rfl⟩; try rw [HFB.out])
    go_ret
    exact ⟨ret_bool (by simp only [inPlace, HFB.out, Bool.false_and]), ((below_alloc (Nat.le_refl _) _).alloc (by simp) _)⟩

set_option maxHeartbeats 800000 in
theorem validMarks_any (N : Nat) (v : Value) (B : Bk) (w : World) (h : BookAt N w v B) :
    Calls Try.prog 87 #[v] w fun e w' => e = .returned (.bool (okMarks B)) ∧ Below w.heap.size w w' := by
  obtain ⟨hN, a1, c1, a2, c2, a3, c3, rfl, h1, h2, h3⟩ := h
  have hnv := h1.len
  have hnf := h2.len
  replace h1 := h1.mono (below_alloc hN (.cells #[.slice a1 B.nv c1, .slice a2 B.nf c2, .slice a3 B.ns c3, .int .i64 B.wr] 25)) (Nat.le_refl _)
  replace h2 := h2.mono (below_alloc hN (.cells #[.slice a1 B.nv c1, .slice a2 B.nf c2, .slice a3 B.ns c3, .int .i64 B.wr] 25)) (Nat.le_refl _)
  have HB : Hid (Below w.heap.size w (w.alloc (.cells #[.slice a1 B.nv c1, .slice a2 B.nf c2, .slice a3 B.ns c3, .int .i64 B.wr] 25))) := below_alloc (Nat.le_refl _) _
  by_cases h6 : B.nv ≤ 6
  · by_cases hfv : B.nf = B.nv
    · have h6' : (B.nv : Int) ≤ 6 := by omega
      have hE : ((B.nf : Int) != (B.nv : Int)) = false := by simp; omega
      have HF : Hid (B.nf = B.nv) := hfv
      have H6 : Hid (B.nv ≤ 6) := h6
      clear hfv h6
      go_enter Try.func87, Try.ntmps87
      go_wp2
      go_loop [21] (fun i => ∃ k : Nat, k ≤ B.nv ∧ i = .int .i64 k ∧ Hid (∀ j, j < k → (decide (1 ≤ B.V j) && decide (B.V j ≤ 5) && (decide (0 ≤ B.F j) && decide (B.F j < 2))) = true)) (fun i => B.nv - (intOf i).toNat)
      case atStart => exact ⟨0, Nat.zero_le _, rfl, fun j hj => absurd hj (Nat.not_lt_zero j)⟩
      case round =>
        obtain ⟨k, hk, rfl, hj⟩ := hrel
        by_cases hkn : k < B.nv
        · obtain ⟨_, _, e1, _, hc1⟩ := h1
          cases e1
          obtain ⟨b1, off1, rfl, _, hr1⟩ := hc1 (by omega)
          obtain ⟨r1, hcell1, rfl⟩ := hr1 k hkn
          obtain ⟨_, _, e2, _, hc2⟩ := h2
          cases e2
          obtain ⟨b2, off2, rfl, _, hr2⟩ := hc2 (by have := HF.out; omega)
          obtain ⟨r2, hcell2, rfl⟩ := hr2 k (by have := HF.out; omega)
          clear hr1 hc1 hr2 hc2
          have hkf : (k : Int) < (B.nf : Int) := by have := HF.out; omega
          have fin : Hid ((decide (1 ≤ B.V k) && decide (B.V k ≤ 5) && (decide (0 ≤ B.F k) && decide (B.F k < 2))) = false → okMarks B = false) := fun hf => by
            unfold okMarks; rw [allB_succ_false hkn hf, Bool.and_false]
          by_cases g1 : 1 ≤ B.V k
          · by_cases g2 : B.V k ≤ 5
            · cases hfb : (decide (0 ≤ B.F k) && decide (B.F k < 2)) with
              | true =>
                have HFB : Hid _ := Lib.hid hfb
                clear hfb
                go_wp2_with (first
                  | (go_at_call 81; refine (mwithin_any (B.F k) 2 _).mono ?_; rintro e w' ⟨rfl, rfl⟩; rw [HFB.out]))
                go_round
                case rel => exact ⟨k + 1, by omega, by go_num, lt_succ hj.out (by rw [HFB.out]; simp [g1, g2])⟩
                case measure => simp [intOf]; omega
              | false =>
                have HFB : Hid _ := Lib.hid hfb
                clear hfb
                go_wp2_with (first
                  | (go_at_call 81; refine (mwithin_any (B.F k) 2 _).mono ?_; rintro e w' ⟨rfl, rfl⟩; rw [HFB.out]))
                go_ret
                exact ⟨ret_bool (fin.out (by rw [HFB.out]; simp)).symm, HB.out⟩
            · have g2' : 5 < B.V k := by omega
              go_wp2
              go_ret
              exact ⟨ret_bool (fin.out (by have q : ¬ B.V k ≤ 5 := (by omega); simp [q])).symm, HB.out⟩
          · have g1' : B.V k < 1 := by omega
            go_wp2
            go_ret
            exact ⟨ret_bool (fin.out (by have q : ¬ 1 ≤ B.V k := (by omega); simp [q])).symm, HB.out⟩
        · have Hk : Hid (k = B.nv) := by show k = B.nv; omega
          go_wp2
          go_ret
          exact ⟨ret_bool (by unfold okMarks; rw [allB_true.2 (fun i hi => hj.out i (by rw [Hk.out]; exact hi))]; simp [HF.out, H6.out]), HB.out⟩
    · have h6' : (B.nv : Int) ≤ 6 := by omega
      have hE : ((B.nf : Int) != (B.nv : Int)) = true := by simp; omega
      have HF : Hid (B.nf ≠ B.nv) := hfv
      clear hfv
      go_enter Try.func87, Try.ntmps87
      go_wp2
      go_ret
      exact ⟨ret_bool (by simp [okMarks, HF.out]), HB.out⟩
  · have h6' : 6 < (B.nv : Int) := by omega
    have HF : Hid (¬ B.nv ≤ 6) := h6
    clear h6
    go_enter Try.func87, Try.ntmps87
    go_wp2
    go_ret
    exact ⟨ret_bool (by simp [okMarks, HF.out]), HB.out⟩

end Go.Proofs.Ytopajgnemeodeaa

namespace Go.Proofs.Ytopajgnemeodeaa
open Go.RowKit

/-- a cell of a block that was made, in a later world -/
theorem box_cell {w wr : World} {cs : Array Value} {t : TypeId} (hB : Below (w.heap.size + 1) (w.alloc (.cells cs t)) wr) (i : Nat) {x : Value} (hx : cs[i]? = some x) : wr.cell? ⟨w.heap.size, i, none⟩ = some x :=
  (hB.cell (p := ⟨w.heap.size, i, none⟩) (Nat.lt_succ_self _)).trans (by rw [World.cell?_alloc_new]; exact hx)

theorem below_of {w wr : World} {o : Obj} (hB : Below (w.heap.size + 1) (w.alloc o) wr) : Below w.heap.size w wr :=
  (below_alloc (Nat.le_refl _) o).trans (hB.mono (Nat.le_succ _))

set_option maxHeartbeats 800000 in
theorem validSorts_any (N : Nat) (v : Value) (B : Bk) (w : World) (h : BookAt N w v B) (hm : okMarks B = true) :
    Calls Try.prog 88 #[v] w fun e w' => e = .returned (.bool (okSorts B)) ∧ Below w.heap.size w w' := by
  obtain ⟨hN, a1, c1, a2, c2, a3, c3, rfl, h1, h2, h3⟩ := h
  have hns := h3.len
  have hnv := h1.len
  have HB : Hid (Below w.heap.size w (w.alloc (.cells #[.slice a1 B.nv c1, .slice a2 B.nf c2, .slice a3 B.ns c3, .int .i64 B.wr] 25))) := below_alloc (Nat.le_refl _) _
  have H1 : Hid _ := Lib.hid h1
  have H3 : Hid _ := Lib.hid h3
  clear h1 h2 h3 hm
  by_cases h8 : B.ns ≤ 8
  · have h8' : (B.ns : Int) ≤ 8 := by omega
    have H8 : Hid (B.ns ≤ 8) := h8
    clear h8
    go_enter Try.func88, Try.ntmps88
    go_wp2
    go_loopw [14] (fun i wr => ∃ k : Nat, k ≤ B.ns ∧ i = .int .i64 k ∧ Hid (∀ j, j < k → okSort B j = true) ∧ Below (w.heap.size + 1) (w.alloc (.cells #[.slice a1 B.nv c1, .slice a2 B.nf c2, .slice a3 B.ns c3, .int .i64 B.wr] 25)) wr) (fun i _ => B.ns - (intOf i).toNat)
    case atStart => exact ⟨0, Nat.zero_le _, rfl, fun j hj => absurd hj (Nat.not_lt_zero j), Below.refl _ _⟩
    case round =>
      obtain ⟨k, hk, rfl, hj, hBel⟩ := hrel
      have hwo := below_of hBel
      by_cases hkn : k < B.ns
      · have h3' := SortsAt.mono H3.out (hwo.mono hN) (Nat.le_refl _)
        have h1' := IntsAt.mono H1.out (hwo.mono hN) (Nat.le_refl _)
        have hb0 := box_cell hBel 0 rfl
        have hb2 := box_cell hBel 2 rfl
        have hsz : w.heap.size < wr.heap.size := by have := hBel.size; simp at this; omega
        obtain ⟨_, _, e3, _, hc3⟩ := h3'
        cases e3
        obtain ⟨b3, off3, rfl, hb3, hr3⟩ := hc3 (by omega)
        obtain ⟨r3, hcell3, hrows⟩ := hr3 k hkn
        obtain ⟨ao, cap, rfl, hnc, hcr⟩ := hrows
        clear hc3 hr3
        have hfin : Hid (Below (w.heap.size + 1) (w.alloc (.cells #[.slice a1 B.nv c1, .slice a2 B.nf c2, .slice (some ⟨b3, off3, none⟩) B.ns c3, .int .i64 B.wr] 25)) (wr.alloc (.cells #[.slice ao (B.nc k) cap] 73))) := hBel.alloc (by omega) _
        have HW : Hid (Below w.heap.size w wr) := Lib.hid hwo
        have Hhj := hj
        clear hBel hwo hj
        by_cases hc : B.nc k = B.nv
        · have hE : ((B.nc k : Int) != (B.nv : Int)) = false := by simp; omega
          have HC : Hid (B.nc k = B.nv) := hc
          clear hc
          go_wp2
          obtain ⟨wo, HWO⟩ : ∃ wo, Hid (wo = wr.alloc (.cells #[.slice ao (B.nc k) cap] 73)) := ⟨_, rfl⟩
          go_loop [28] (fun i => ∃ m : Nat, m ≤ B.nc k ∧ i = .int .i64 m ∧ Hid (∀ j, j < m → okCan (B.ncc k j) (B.can k j) (B.V j) = true)) (fun i => B.nc k - (intOf i).toNat)
          case atStart => exact ⟨0, Nat.zero_le _, rfl, fun j hj => absurd hj (Nat.not_lt_zero j)⟩
          case round =>
            obtain ⟨m, hm, rfl, hj2⟩ := hrel
            by_cases hmn : m < B.nc k
            · obtain ⟨b4, off4, rfl, hb4, hr4⟩ := hcr (by omega)
              obtain ⟨r4, hcell4, hints⟩ := hr4 m hmn
              obtain ⟨_, _, e1, _, hc1⟩ := h1'
              cases e1
              obtain ⟨b1, off1, rfl, hb1, hr1⟩ := hc1 (by have := HC.out; omega)
              obtain ⟨r1, hcell1, rfl⟩ := hr1 m (by have := HC.out; omega)
              have hmv : (m : Int) < (B.nv : Int) := by have := HC.out; omega
              clear hr4 hcr hc1 hr1
              have hints2 : Hid (IntsAt N (wr.alloc (.cells #[.slice (some ⟨b4, off4, none⟩) (B.nc k) cap] 73)) r4 (B.ncc k m) (B.can k m)) := hints.mono (below_alloc (by omega) _) (Nat.le_refl _)
              clear hints
              have hlt1 : b1 < wr.heap.size := by omega
              have hlt4 : b4 < wr.heap.size := by omega
              cases hok : okCan (B.ncc k m) (B.can k m) (B.V m) with
              | true =>
                have HOK : Hid _ := Lib.hid hok
                clear hok
                go_wp2_with (go_at_call 98; refine (validCan_any N _ _ _ _ _ hints2.out).mono ?_; rintro e w' ⟨rfl, rfl⟩; rw [HOK.out])
                go_round
                case rel => exact ⟨m + 1, by omega, by go_num, lt_succ hj2.out HOK.out⟩
                case measure => simp [intOf]; omega
              | false =>
                have HOK : Hid _ := Lib.hid hok
                clear hok
                go_wp2_with (go_at_call 98; refine (validCan_any N _ _ _ _ _ hints2.out).mono ?_; rintro e w' ⟨rfl, rfl⟩; rw [HOK.out])
                go_ret
                exact ⟨ret_bool (by unfold okSorts; rw [allB_succ_false (k := k) hkn (by unfold okSort; rw [allB_succ_false hmn HOK.out, Bool.and_false]), Bool.and_false]), below_of hfin.out⟩
            · have Hm : Hid (m = B.nc k) := by show m = _; omega
              go_wp2
              go_roundw
              case rel => exact ⟨k + 1, by omega, by go_num, lt_succ Hhj.out (by unfold okSort; rw [allB_true.2 (fun i hi => hj2.out i (by rw [Hm.out]; exact hi))]; simp [HC.out]), hfin.out⟩
              case measure => simp [intOf]; omega
        · have hE : ((B.nc k : Int) != (B.nv : Int)) = true := by simp; omega
          have HC : Hid (¬ B.nc k = B.nv) := hc
          clear hc
          go_wp2
          go_ret
          exact ⟨ret_bool (by unfold okSorts; rw [allB_succ_false (k := k) hkn (by unfold okSort; simp [HC.out]), Bool.and_false]), below_of hfin.out⟩
      · have Hk : Hid (k = B.ns) := by show k = _; omega
        have HW : Hid _ := Lib.hid hwo
        clear hwo hBel
        go_wp2
        go_ret
        exact ⟨ret_bool (by unfold okSorts; rw [allB_true.2 (fun i hi => hj.out i (by rw [Hk.out]; exact hi))]; simp [H8.out]), HW.out⟩
  · have h8' : 8 < (B.ns : Int) := by omega
    have H8 : Hid (¬ B.ns ≤ 8) := h8
    clear h8
    go_enter Try.func88, Try.ntmps88
    go_wp2
    go_ret
    exact ⟨ret_bool (by simp [okSorts, H8.out]), HB.out⟩

end Go.Proofs.Ytopajgnemeodeaa

namespace Go.Proofs.Ytopajgnemeodeaa
open Go.RowKit

set_option maxHeartbeats 800000 in
theorem validFruits_any (N : Nat) (v u : Value) (B : Bk) (R : Fr) (w : World) (h : BookAt N w v B) (hf : FruitsAt N w u R) :
    Calls Try.prog 63 #[v, u] w fun e w' => e = .returned (.bool (okFruits B R)) ∧ Below w.heap.size w w' := by
  obtain ⟨hN, a1, c1, a2, c2, a3, c3, rfl, h1, h2, h3⟩ := h
  have hnv := h1.len
  have HB : Hid (Below w.heap.size w (w.alloc (.cells #[.slice a1 B.nv c1, .slice a2 B.nf c2, .slice a3 B.ns c3, .int .i64 B.wr] 25))) := below_alloc (Nat.le_refl _) _
  obtain ⟨_, cf1, e1, _, hc1⟩ := h1
  cases e1
  obtain ⟨af, cf, rfl, hnf, hcf⟩ := hf
  clear h2 h3
  by_cases h5 : R.n ≤ 5
  · have h5' : (R.n : Int) ≤ 5 := by omega
    have H5 : Hid (R.n ≤ 5) := h5
    clear h5
    go_enter Try.func63, Try.ntmps63
    go_wp2
    go_loop [14] (fun i => ∃ k : Nat, k ≤ R.n ∧ i = .int .i64 k ∧ Hid (∀ j, j < k → okFruit B R j = true)) (fun i => R.n - (intOf i).toNat)
    case atStart => exact ⟨0, Nat.zero_le _, rfl, fun j hj => absurd hj (Nat.not_lt_zero j)⟩
    case round =>
      obtain ⟨k, hk, rfl, hj⟩ := hrel
      by_cases hkn : k < R.n
      · obtain ⟨b3, off3, rfl, hb3, hr3⟩ := hcf (by omega)
        obtain ⟨r3, hcell3, ao, cap, rfl, hL, hcr⟩ := hr3 k hkn
        clear hcf hr3
        have hb3' : b3 < w.heap.size := by omega
        by_cases hc : R.L k = B.nv
        · have hE : ((R.L k : Int) != (B.nv : Int)) = false := by simp; omega
          have HC : Hid (R.L k = B.nv) := hc
          clear hc
          go_wp2
          go_loop [26] (fun i => ∃ m : Nat, m ≤ R.L k ∧ i = .int .i64 m ∧ Hid (∀ j, j < m → (decide (R.X k j = -1) || (decide (0 ≤ R.X k j) && decide (R.X k j < B.V j))) = true)) (fun i => R.L k - (intOf i).toNat)
          case atStart => exact ⟨0, Nat.zero_le _, rfl, fun j hj => absurd hj (Nat.not_lt_zero j)⟩
          case round =>
            obtain ⟨m, hm, rfl, hj2⟩ := hrel
            by_cases hmn : m < R.L k
            · obtain ⟨b4, off4, rfl, hb4, hr4⟩ := hcr (by omega)
              obtain ⟨r4, hcell4, rfl⟩ := hr4 m hmn
              obtain ⟨b1, off1, rfl, hb1, hr1⟩ := hc1 (by have := HC.out; omega)
              obtain ⟨r1, hcell1, rfl⟩ := hr1 m (by have := HC.out; omega)
              have hmv : (m : Int) < (B.nv : Int) := by have := HC.out; omega
              have hb4' : b4 < w.heap.size := by omega
              have hb1' : b1 < w.heap.size := by omega
              clear hr4 hcr hc1 hr1
              by_cases hx : R.X k m = -1
              · have hxe : (R.X k m != -1) = false := by simp [hx]
                have HX : Hid (R.X k m = -1) := hx
                clear hx
                go_wp2
                go_round
                case rel => exact ⟨m + 1, by omega, by go_num, lt_succ hj2.out (by simp [HX.out])⟩
                case measure => simp [intOf]; omega
              · have hxe : (R.X k m != -1) = true := by simp [hx]
                have HX : Hid (R.X k m ≠ -1) := hx
                clear hx
                cases hok : (decide (0 ≤ R.X k m) && decide (R.X k m < B.V m)) with
                | true =>
                  have HOK : Hid _ := Lib.hid hok
                  clear hok
                  go_wp2_with (go_at_call 81; refine (mwithin_any _ _ _).mono ?_; rintro e w' ⟨rfl, rfl⟩; rw [HOK.out])
                  go_round
                  case rel => exact ⟨m + 1, by omega, by go_num, lt_succ hj2.out (by rw [HOK.out, Bool.or_true])⟩
                  case measure => simp [intOf]; omega
                | false =>
                  have HOK : Hid _ := Lib.hid hok
                  clear hok
                  go_wp2_with (go_at_call 81; refine (mwithin_any _ _ _).mono ?_; rintro e w' ⟨rfl, rfl⟩; rw [HOK.out])
                  go_ret
                  exact ⟨ret_bool (by unfold okFruits; rw [allB_succ_false (k := k) hkn (by unfold okFruit; rw [allB_succ_false hmn (by rw [HOK.out]; simp [HX.out]), Bool.and_false]), Bool.and_false]), HB.out⟩
            · have Hm : Hid (m = R.L k) := by show m = _; omega
              go_wp2
              go_round
              case rel => exact ⟨k + 1, by omega, by go_num, lt_succ hj.out (by unfold okFruit; rw [allB_true.2 (fun i hi => hj2.out i (by rw [Hm.out]; exact hi))]; simp [HC.out])⟩
              case measure => simp [intOf]; omega
        · have hE : ((R.L k : Int) != (B.nv : Int)) = true := by simp; omega
          have HC : Hid (¬ R.L k = B.nv) := hc
          clear hc
          go_wp2
          go_ret
          exact ⟨ret_bool (by unfold okFruits; rw [allB_succ_false (k := k) hkn (by unfold okFruit; simp [HC.out]), Bool.and_false]), HB.out⟩
      · have Hk : Hid (k = R.n) := by show k = _; omega
        go_wp2
        go_ret
        exact ⟨ret_bool (by unfold okFruits; rw [allB_true.2 (fun i hi => hj.out i (by rw [Hk.out]; exact hi))]; simp [H5.out]), HB.out⟩
  · have h5' : 5 < (R.n : Int) := by omega
    have H5 : Hid (¬ R.n ≤ 5) := h5
    clear h5
    go_enter Try.func63, Try.ntmps63
    go_wp2
    go_ret
    exact ⟨ret_bool (by simp [okFruits, H5.out]), HB.out⟩

theorem BookAt.in_alloc {N : Nat} {w : World} {v : Value} {B : Bk} (h : BookAt N w v B) (o : Obj) : BookAt N (w.alloc o) v B :=
  h.mono (below_alloc h.1 o) (Nat.le_refl _) (by have := h.1; simp; omega)

/-- the world behind one call more -/
theorem step {n : Nat} {a b c : World} (h : Below n a b) (hn : n ≤ a.heap.size) (k : Below b.heap.size b c) : Below n a c :=
  h.trans (k.mono (Nat.le_trans hn h.size))
theorem size_of {w W : World} {o : Obj} (ch : Below (w.heap.size + 1) (w.alloc o) W) : w.heap.size < W.heap.size := by
  have := ch.size; simp at this; omega
theorem chain0 (w : World) (o : Obj) : Below (w.heap.size + 1) (w.alloc o) (w.alloc o) := Below.refl _ _
theorem chain {w W W' : World} {o : Obj} (ch : Below (w.heap.size + 1) (w.alloc o) W) (k : Below W.heap.size W W') : Below (w.heap.size + 1) (w.alloc o) W' :=
  step ch (by simp) k
theorem chain_alloc {w W : World} {o : Obj} (ch : Below (w.heap.size + 1) (w.alloc o) W) (o' : Obj) : Below (w.heap.size + 1) (w.alloc o) (W.alloc o') :=
  ch.alloc (size_of ch) o'
theorem BookAt.chain {N : Nat} {w W : World} {v : Value} {B : Bk} {o : Obj} (h : BookAt N w v B) (ch : Below (w.heap.size + 1) (w.alloc o) W) : BookAt N W v B :=
  h.mono ((below_of ch).mono h.1) (Nat.le_refl _) (by have := h.1; have := size_of ch; omega)
theorem RowsAt.chain {N : Nat} {w W : World} {v : Value} {n : Nat} {L : Nat → Nat} {x : Nat → Nat → Int} {o : Obj} (h : RowsAt N w v n L x) (hN : N ≤ w.heap.size) (ch : Below (w.heap.size + 1) (w.alloc o) W) : RowsAt N W v n L x :=
  RowsAt.mono h ((below_of ch).mono hN) (Nat.le_refl _)

set_option maxHeartbeats 800000 in
theorem validBook_any (N : Nat) (v : Value) (B : Bk) (w : World) (h : BookAt N w v B) :
    Calls Try.prog 62 #[v] w fun e w' => e = .returned (.bool (okBook B)) ∧ Below w.heap.size w w' := by
  have H : Hid (BookAt N w v B) := h
  obtain ⟨_, a1, c1, a2, c2, a3, c3, rfl, h1, h2, h3⟩ := h
  clear h1 h2 h3
  cases hm : okMarks B with
  | true =>
    have HM : Hid (okMarks B = true) := Lib.hid hm
    clear hm
    cases hs : okSorts B with
    | true =>
      have HS : Hid (okSorts B = true) := Lib.hid hs
      clear hs
      by_cases g1 : 0 ≤ B.wr
      · have G1 : Hid _ := Lib.hid g1
        go_enter Try.func62, Try.ntmps62
        go_wp2_with (first
          | (go_at_call 87; refine (validMarks_any N _ B _ (H.out.in_alloc _)).mono ?_; rintro e w1 ⟨rfl, hb1⟩; rw [HM.out]; have ch1 := chain (chain0 _ _) hb1; have q0 := box_cell ch1 0 rfl; have q1 := box_cell ch1 1 rfl; have q2 := box_cell ch1 2 rfl; have q3 := box_cell ch1 3 rfl; clear hb1)
          | (go_at_call 88; refine (validSorts_any N _ B _ (H.out.chain (by assumption)) HM.out).mono ?_; rintro e w2 ⟨rfl, hb2⟩; rw [HS.out]; have ch2 := chain (by assumption) hb2; have q0 := box_cell ch2 0 rfl; have q1 := box_cell ch2 1 rfl; have q2 := box_cell ch2 2 rfl; have q3 := box_cell ch2 3 rfl; clear hb2))
        go_ret
        exact ⟨ret_bool (by simp [okBook, HM.out, HS.out, G1.out]), below_of ch2⟩
      · have G1 : Hid _ := Lib.hid g1
        have g1' : B.wr < 0 := by omega
        clear g1
        go_enter Try.func62, Try.ntmps62
        go_wp2_with (first
          | (go_at_call 87; refine (validMarks_any N _ B _ (H.out.in_alloc _)).mono ?_; rintro e w1 ⟨rfl, hb1⟩; rw [HM.out]; have ch1 := chain (chain0 _ _) hb1; have q0 := box_cell ch1 0 rfl; have q1 := box_cell ch1 1 rfl; have q2 := box_cell ch1 2 rfl; have q3 := box_cell ch1 3 rfl; clear hb1)
          | (go_at_call 88; refine (validSorts_any N _ B _ (H.out.chain (by assumption)) HM.out).mono ?_; rintro e w2 ⟨rfl, hb2⟩; rw [HS.out]; have ch2 := chain (by assumption) hb2; have q0 := box_cell ch2 0 rfl; have q1 := box_cell ch2 1 rfl; have q2 := box_cell ch2 2 rfl; have q3 := box_cell ch2 3 rfl; clear hb2))
        go_ret
        exact ⟨ret_bool (by have q : ¬ 0 ≤ B.wr := (by have := G1.out; omega); simp [okBook, HM.out, HS.out, q]), below_of ch2⟩
    | false =>
      have HS : Hid (okSorts B = false) := Lib.hid hs
      clear hs
      go_enter Try.func62, Try.ntmps62
      go_wp2_with (first
        | (go_at_call 87; refine (validMarks_any N _ B _ (H.out.in_alloc _)).mono ?_; rintro e w1 ⟨rfl, hb1⟩; rw [HM.out]; have ch1 := chain (chain0 _ _) hb1; have q0 := box_cell ch1 0 rfl; have q1 := box_cell ch1 1 rfl; have q2 := box_cell ch1 2 rfl; have q3 := box_cell ch1 3 rfl; clear hb1)
        | (go_at_call 88; refine (validSorts_any N _ B _ (H.out.chain (by assumption)) HM.out).mono ?_; rintro e w2 ⟨rfl, hb2⟩; rw [HS.out]; have ch2 := chain (by assumption) hb2; have q0 := box_cell ch2 0 rfl; have q1 := box_cell ch2 1 rfl; have q2 := box_cell ch2 2 rfl; have q3 := box_cell ch2 3 rfl; clear hb2))
      go_ret
      exact ⟨ret_bool (by simp [okBook, HM.out, HS.out]), below_of ch2⟩
  | false =>
    have HM : Hid (okMarks B = false) := Lib.hid hm
    clear hm
    go_enter Try.func62, Try.ntmps62
    go_wp2_with (go_at_call 87; refine (validMarks_any N _ B _ (H.out.in_alloc _)).mono ?_; rintro e w1 ⟨rfl, hb1⟩; rw [HM.out]; have ch1 := chain (chain0 _ _) hb1; have q0 := box_cell ch1 0 rfl; have q1 := box_cell ch1 1 rfl; have q2 := box_cell ch1 2 rfl; have q3 := box_cell ch1 3 rfl; clear hb1)
    go_ret
    exact ⟨ret_bool (by simp [okBook, HM.out]), below_of ch1⟩

set_option maxHeartbeats 800000 in
theorem mCheck_any (N : Nat) (v u : Value) (B : Bk) (R : Fr) (w : World) (h : BookAt N w v B) (hf : FruitsAt N w u R) :
    Calls Try.prog 18 #[v, u] w fun e w' => e = .returned (.int .i64 (chk B R)) ∧ Below w.heap.size w w' := by
  have H : Hid (BookAt N w v B) := h
  have HF : Hid (FruitsAt N w u R) := hf
  obtain ⟨hN, a1, c1, a2, c2, a3, c3, rfl, h1, h2, h3⟩ := h
  clear h1 h2 h3 hf
  cases hm : okBook B with
  | true =>
    have HM : Hid (okBook B = true) := Lib.hid hm
    clear hm
    cases hs : okFruits B R with
    | true =>
      have HS : Hid (okFruits B R = true) := Lib.hid hs
      clear hs
      go_enter Try.func18, Try.ntmps18
      go_wp2_with (first
        | (go_at_call 62; refine (validBook_any N _ B _ (H.out.in_alloc _)).mono ?_; rintro e w1 ⟨rfl, hb1⟩; rw [HM.out]; have ch1 := chain (chain0 _ _) hb1; have q0 := box_cell ch1 0 rfl; have q1 := box_cell ch1 1 rfl; have q2 := box_cell ch1 2 rfl; have q3 := box_cell ch1 3 rfl; clear hb1)
        | (go_at_call 63; refine (validFruits_any N _ _ B R _ (H.out.chain (by assumption)) (RowsAt.chain HF.out hN (by assumption))).mono ?_; rintro e w2 ⟨rfl, hb2⟩; rw [HS.out]; have ch2 := chain (by assumption) hb2; clear hb2))
      go_ret
      exact ⟨ret_int (by simp [chk, HM.out, HS.out]), below_of ch2⟩
    | false =>
      have HS : Hid (okFruits B R = false) := Lib.hid hs
      clear hs
      go_enter Try.func18, Try.ntmps18
      go_wp2_with (first
        | (go_at_call 62; refine (validBook_any N _ B _ (H.out.in_alloc _)).mono ?_; rintro e w1 ⟨rfl, hb1⟩; rw [HM.out]; have ch1 := chain (chain0 _ _) hb1; have q0 := box_cell ch1 0 rfl; have q1 := box_cell ch1 1 rfl; have q2 := box_cell ch1 2 rfl; have q3 := box_cell ch1 3 rfl; clear hb1)
        | (go_at_call 63; refine (validFruits_any N _ _ B R _ (H.out.chain (by assumption)) (RowsAt.chain HF.out hN (by assumption))).mono ?_; rintro e w2 ⟨rfl, hb2⟩; rw [HS.out]; have ch2 := chain (by assumption) hb2; clear hb2))
      go_ret
      exact ⟨ret_int (by simp [chk, HM.out, HS.out]), below_of ch2⟩
  | false =>
    have HM : Hid (okBook B = false) := Lib.hid hm
    clear hm
    go_enter Try.func18, Try.ntmps18
    go_wp2_with (go_at_call 62; refine (validBook_any N _ B _ (H.out.in_alloc _)).mono ?_; rintro e w1 ⟨rfl, hb1⟩; rw [HM.out]; have ch1 := chain (chain0 _ _) hb1; clear hb1)
    go_ret
    exact ⟨ret_int (by simp [chk, HM.out]), below_of ch1⟩

end Go.Proofs.Ytopajgnemeodeaa
