/-
  Base: how lists of numbers, of rows and of sorts lie in a world.
-/
import Derived.Test.YtopajgnemeodeaaProg
import Derived.WalkKit
import Derived.WalkSpells
import Derived.WalkLawsBesides
import Derived.Lib.Hide
import Derived.BigQuiet
import Derived.Deep.QuietTactic
import Derived.IntWalk
namespace Go.Proofs.Ytopajgnemeodeaa
open Go.RowKit

/-- v is a list of n elements, whose cells lie below block N; the i-th one is r with E i r. -/
def ListAt (N : Nat) (w : World) (E : Nat → Value → Prop) (v : Value) (n : Nat) : Prop :=
  ∃ ao cap, v = .slice ao n cap ∧ n ≤ 140737488351232 ∧ (0 < n → ∃ b off, ao = some ⟨b, off, none⟩ ∧ b < N ∧ ∀ i, i < n → ∃ r, w.cell? ⟨b, off + i, none⟩ = some r ∧ E i r)

def IntsAt (N : Nat) (w : World) (v : Value) (n : Nat) (x : Nat → Int) : Prop := ListAt N w (fun i r => r = .int .i64 (x i)) v n

def RowsAt (N : Nat) (w : World) (v : Value) (n : Nat) (L : Nat → Nat) (x : Nat → Nat → Int) : Prop := ListAt N w (fun i r => IntsAt N w r (L i) (x i)) v n

def SortsAt (N : Nat) (w : World) (v : Value) (n : Nat) (L : Nat → Nat) (M : Nat → Nat → Nat) (x : Nat → Nat → Nat → Int) : Prop := ListAt N w (fun i r => RowsAt N w r (L i) (M i) (x i)) v n

theorem ListAt.mono {N N' : Nat} {w w' : World} {E E' : Nat → Value → Prop} {v : Value} {n : Nat} (h : ListAt N w E v n) (hB : Below N w w') (hN : N ≤ N') (hE : ∀ i r, i < n → E i r → E' i r) : ListAt N' w' E' v n := by
  obtain ⟨ao, cap, rfl, hn, hc⟩ := h
  refine ⟨ao, cap, rfl, hn, fun h0 => ?_⟩
  obtain ⟨b, off, rfl, hb, hr⟩ := hc h0
  refine ⟨b, off, rfl, by omega, fun i hi => ?_⟩
  obtain ⟨r, h1, h2⟩ := hr i hi
  exact ⟨r, (hB.cell (p := ⟨b, off + i, none⟩) hb).trans h1, hE i r hi h2⟩

theorem IntsAt.mono {N N' : Nat} {w w' : World} {v : Value} {n : Nat} {x : Nat → Int} (h : IntsAt N w v n x) (hB : Below N w w') (hN : N ≤ N') : IntsAt N' w' v n x :=
  ListAt.mono h hB hN (fun _ _ _ h => h)
theorem RowsAt.mono {N N' : Nat} {w w' : World} {v : Value} {n : Nat} {L : Nat → Nat} {x : Nat → Nat → Int} (h : RowsAt N w v n L x) (hB : Below N w w') (hN : N ≤ N') : RowsAt N' w' v n L x :=
  ListAt.mono h hB hN (fun _ _ _ h => IntsAt.mono h hB hN)
theorem SortsAt.mono {N N' : Nat} {w w' : World} {v : Value} {n : Nat} {L : Nat → Nat} {M : Nat → Nat → Nat} {x : Nat → Nat → Nat → Int} (h : SortsAt N w v n L M x) (hB : Below N w w') (hN : N ≤ N') : SortsAt N' w' v n L M x :=
  ListAt.mono h hB hN (fun _ _ _ h => RowsAt.mono h hB hN)

/-- is there an i below n with p i? -/
def anyB (n : Nat) (p : Nat → Bool) : Bool := (List.range n).any p
def allB (n : Nat) (p : Nat → Bool) : Bool := (List.range n).all p

theorem anyB_true {n : Nat} {p : Nat → Bool} : anyB n p = true ↔ ∃ i, i < n ∧ p i = true := by simp [anyB]
theorem anyB_false {n : Nat} {p : Nat → Bool} : anyB n p = false ↔ ∀ i, i < n → p i = false := by simp [anyB]
theorem allB_true {n : Nat} {p : Nat → Bool} : allB n p = true ↔ ∀ i, i < n → p i = true := by simp [allB]
theorem allB_false {n : Nat} {p : Nat → Bool} : allB n p = false ↔ ∃ i, i < n ∧ p i = false := by simp [allB]

theorem ret_bool {a b : Bool} (h : a = b) : Ending.returned (.bool a) = .returned (.bool b) := by rw [h]
theorem ret_int {k : IntKind} {a b : Int} (h : a = b) : Ending.returned (.int k a) = .returned (.int k b) := by rw [h]

end Go.Proofs.Ytopajgnemeodeaa

namespace Go.Proofs.Ytopajgnemeodeaa
open Go.RowKit

set_option maxHeartbeats 400000 in
theorem within_any (a b c : Int) (w : World) :
    Calls Try.prog 86 #[.int .i64 a, .int .i64 b, .int .i64 c] w fun e w' => e = .returned (.bool (decide (b ≤ a) && decide (a ≤ c))) ∧ w' = w := by
  by_cases h1 : b ≤ a
  all_goals
    go_enter Try.func86, Try.ntmps86
    go_wp2
    go_ret
    exact ⟨ret_bool (by first | (simp [h1]; done) | (simp; omega)), rfl⟩

set_option maxHeartbeats 400000 in
theorem in_any (N : Nat) (v : Value) (n : Nat) (x : Nat → Int) (y : Int) (w : World) (h : IntsAt N w v n x) :
    Calls Try.prog 48 #[v, .int .i64 y] w fun e w' => e = .returned (.bool (anyB n fun i => decide (x i = y))) ∧ w' = w := by
  obtain ⟨ao, cap, rfl, hn, hc⟩ := h
  go_enter Try.func48, Try.ntmps48
  go_wp2
  go_loop [5] (fun i => ∃ k : Nat, k ≤ n ∧ i = .int .i64 k ∧ Hid (∀ j, j < k → x j ≠ y)) (fun i => n - (intOf i).toNat)
  case atStart => exact ⟨0, Nat.zero_le _, rfl, fun j hj => absurd hj (Nat.not_lt_zero j)⟩
  case round =>
    obtain ⟨k, hk, rfl, hj⟩ := hrel
    by_cases hkn : k < n
    · obtain ⟨b, off, rfl, _, hr⟩ := hc (by omega)
      obtain ⟨r, hcell, rfl⟩ := hr k hkn
      clear hr hc
      by_cases hxy : x k = y
      · have hb : (x k == y) = true := by simp [hxy]
        have H : Hid (x k = y) := hxy
        clear hxy
        go_wp2
        go_ret
        exact ⟨ret_bool (Eq.symm (anyB_true.2 ⟨k, hkn, by simp [H.out]⟩)), rfl⟩
      · have hb : (x k == y) = false := by simp [hxy]
        have H : Hid (x k ≠ y) := hxy
        clear hxy
        go_wp2
        go_round
        case rel => exact ⟨k + 1, by omega, by go_num, fun j hjk => by
          rcases Nat.lt_succ_iff_lt_or_eq.1 hjk with h | h
          · exact hj.out j h
          · rw [h]; exact H.out⟩
        case measure => simp [intOf]; omega
    · go_wp2
      go_ret
      exact ⟨ret_bool (Eq.symm (anyB_false.2 fun i hi => by simp [hj.out i (by omega)])), rfl⟩

end Go.Proofs.Ytopajgnemeodeaa

namespace Go.Proofs.Ytopajgnemeodeaa
open Go.RowKit

/-- the same lists of numbers? -/
def sameI (n : Nat) (x : Nat → Int) (m : Nat) (y : Nat → Int) : Bool := decide (n = m) && allB n fun i => decide (x i = y i)

set_option maxHeartbeats 400000 in
theorem sameInts_any (N : Nat) (v u : Value) (n m : Nat) (x y : Nat → Int) (w : World) (h1 : IntsAt N w v n x) (h2 : IntsAt N w u m y) :
    Calls Try.prog 30 #[v, u] w fun e w' => e = .returned (.bool (sameI n x m y)) ∧ ∃ q, w' = w.drewN q := by
  obtain ⟨ao1, cap1, rfl, hn1, hc1⟩ := h1
  obtain ⟨ao2, cap2, rfl, hn2, hc2⟩ := h2
  by_cases hnm : n = m
  · subst hnm
    go_enter Try.func30, Try.ntmps30
    go_wp2
    go_loopw [5] (fun i wr => ∃ k : Nat, k ≤ n ∧ i = .int .i64 k ∧ Hid (∀ j, j < k → x j = y j) ∧ ∃ q, wr = w.drewN q) (fun i _ => n - (intOf i).toNat)
    case atStart => exact ⟨0, Nat.zero_le _, rfl, fun j hj => absurd hj (Nat.not_lt_zero j), 0, rfl⟩
    case round =>
      obtain ⟨k, hk, rfl, hj, q, rfl⟩ := hrel
      by_cases hkn : k < n
      · obtain ⟨b1, off1, rfl, _, hr1⟩ := hc1 (by omega)
        obtain ⟨r1, hcell1, rfl⟩ := hr1 k hkn
        obtain ⟨b2, off2, rfl, _, hr2⟩ := hc2 (by omega)
        obtain ⟨r2, hcell2, rfl⟩ := hr2 k hkn
        clear hr1 hr2 hc1 hc2
        by_cases hxy : x k = y k
        · have hb : (x k != y k) = false := by simp [hxy]
          have H : Hid (x k = y k) := hxy
          clear hxy
          go_wp2
          go_quiet (fail)
          go_wp2
          go_roundw
          case rel => exact ⟨k + 1, by omega, by go_num, fun j hjk => by
            rcases Nat.lt_succ_iff_lt_or_eq.1 hjk with h | h
            · exact hj.out j h
            · rw [h]; exact H.out, _, rfl⟩
          case measure => simp [intOf]; omega
        · have hb : (x k != y k) = true := by simp [hxy]
          have H : Hid (x k ≠ y k) := hxy
          clear hxy
          go_wp2
          go_quiet (fail)
          go_wp2
          go_ret
          exact ⟨ret_bool (Eq.symm (by simp only [sameI, decide_true, Bool.true_and]; exact allB_false.2 ⟨k, hkn, by simp [H.out]⟩)), _, World.drewN_drewN _ _ _⟩
      · go_wp2
        go_ret
        exact ⟨ret_bool (Eq.symm (by simp only [sameI, decide_true, Bool.true_and]; exact allB_true.2 fun i hi => by simp [hj.out i (by omega)])), _, rfl⟩
  · have hne : ((n : Int) != (m : Int)) = true := by simp; omega
    have H : Hid (n ≠ m) := hnm
    clear hnm
    go_enter Try.func30, Try.ntmps30
    go_wp2
    go_ret
    exact ⟨ret_bool (by simp [sameI, H.out]), 0, rfl⟩

end Go.Proofs.Ytopajgnemeodeaa

namespace Go.Proofs.Ytopajgnemeodeaa
open Go.RowKit

theorem lt_succ {k : Nat} {P : Nat → Prop} (h : ∀ j, j < k → P j) (hk : P k) : ∀ j, j < k + 1 → P j := fun j hj => by
  rcases Nat.lt_succ_iff_lt_or_eq.1 hj with h' | h'
  · exact h j h'
  · rw [h']; exact hk

/-- so many i below n with p i -/
def cnt : Nat → (Nat → Bool) → Nat
  | 0, _ => 0
  | n + 1, p => cnt n p + (if p n then 1 else 0)
theorem cnt_le (n : Nat) (p : Nat → Bool) : cnt n p ≤ n := by
  induction n with
  | zero => simp [cnt]
  | succ n ih => simp only [cnt]; split <;> omega
theorem cnt_hit {n : Nat} {p : Nat → Bool} (h : p n = true) : cnt (n + 1) p = cnt n p + 1 := by simp [cnt, h]
theorem cnt_miss {n : Nat} {p : Nat → Bool} (h : p n = false) : cnt (n + 1) p = cnt n p := by simp [cnt, h]

set_option maxHeartbeats 400000 in
theorem longLists_any (N : Nat) (v : Value) (n : Nat) (L : Nat → Nat) (x : Nat → Nat → Int) (w : World) (h : RowsAt N w v n L x) :
    Calls Try.prog 45 #[v] w fun e w' => e = .returned (.bool (decide (40 < n) || anyB n fun i => decide (40 < L i))) ∧ w' = w := by
  obtain ⟨ao, cap, rfl, hn, hc⟩ := h
  by_cases h40 : 40 < n
  · have H : Hid (40 < n) := h40
    have h40' : (40 : Int) < (n : Int) := by omega
    clear h40
    go_enter Try.func45, Try.ntmps45
    go_wp2
    go_ret
    exact ⟨ret_bool (by simp [H.out]), rfl⟩
  · have H : Hid (¬ 40 < n) := h40
    have h40' : (n : Int) ≤ 40 := by omega
    clear h40
    go_enter Try.func45, Try.ntmps45
    go_wp2
    go_loop [3] (fun i => ∃ k : Nat, k ≤ n ∧ i = .int .i64 k ∧ Hid (∀ j, j < k → ¬ 40 < L j)) (fun i => n - (intOf i).toNat)
    case atStart => exact ⟨0, Nat.zero_le _, rfl, fun j hj => absurd hj (Nat.not_lt_zero j)⟩
    case round =>
      obtain ⟨k, hk, rfl, hj⟩ := hrel
      by_cases hkn : k < n
      · obtain ⟨b, off, rfl, _, hr⟩ := hc (by omega)
        obtain ⟨r, hcell, ao2, cap2, rfl, hL, _⟩ := hr k hkn
        clear hr hc
        by_cases hxy : 40 < L k
        · have hb : (40 : Int) < (L k : Int) := by omega
          have H2 : Hid (40 < L k) := hxy
          clear hxy
          go_wp2
          go_ret
          exact ⟨ret_bool (by simp only [Bool.or_eq_true, decide_eq_true_eq, H.out, decide_false, Bool.false_or]; exact (anyB_true.2 ⟨k, hkn, by simp [H2.out]⟩).symm), rfl⟩
        · have hb : (L k : Int) ≤ 40 := by omega
          have H2 : Hid (¬ 40 < L k) := hxy
          clear hxy
          go_wp2
          go_round
          case rel => exact ⟨k + 1, by omega, by go_num, lt_succ hj.out H2.out⟩
          case measure => simp [intOf]; omega
      · go_wp2
        go_ret
        exact ⟨ret_bool (by simp only [H.out, decide_false, Bool.false_or]; exact (anyB_false.2 fun i hi => by simpa using hj.out i (by omega)).symm), rfl⟩

set_option maxHeartbeats 400000 in
theorem seen_any (N : Nat) (v : Value) (n : Nat) (x : Nat → Int) (w : World) (h : IntsAt N w v n x) :
    Calls Try.prog 52 #[v] w fun e w' => e = .returned (.int .i64 (cnt n fun i => decide (x i ≠ -1))) ∧ w' = w := by
  obtain ⟨ao, cap, rfl, hn, hc⟩ := h
  go_enter Try.func52, Try.ntmps52
  go_wp2
  go_loop [3, 4] (fun t i => ∃ k : Nat, k ≤ n ∧ i = .int .i64 k ∧ t = .int .i64 (cnt k fun i => decide (x i ≠ -1))) (fun _ i => n - (intOf i).toNat)
  case atStart => exact ⟨0, Nat.zero_le _, rfl, rfl⟩
  case round =>
    obtain ⟨k, hk, rfl, rfl⟩ := hrel
    have hle := cnt_le k fun i => decide (x i ≠ -1)
    by_cases hkn : k < n
    · obtain ⟨b, off, rfl, _, hr⟩ := hc (by omega)
      obtain ⟨r, hcell, rfl⟩ := hr k hkn
      clear hr hc
      by_cases hxy : x k = -1
      · have H : Hid (cnt (k + 1) (fun i => decide (x i ≠ -1)) = cnt k (fun i => decide (x i ≠ -1))) := cnt_miss (by simp [hxy])
        have hb : (x k != -1) = false := by simp [hxy]
        clear hxy
        generalize cnt k (fun i => decide (x i ≠ -1)) = c at *
        go_wp2
        go_round
        case rel => exact ⟨k + 1, by omega, by go_num, by rw [H.out]⟩
        case measure => simp [intOf]; omega
      · have H : Hid (cnt (k + 1) (fun i => decide (x i ≠ -1)) = cnt k (fun i => decide (x i ≠ -1)) + 1) := cnt_hit (by simp [hxy])
        have hb : (x k != -1) = true := by simp [hxy]
        clear hxy
        generalize cnt k (fun i => decide (x i ≠ -1)) = c at *
        go_wp2
        go_round
        case rel => exact ⟨k + 1, by omega, by go_num, by rw [H.out]; go_num⟩
        case measure => simp [intOf]; omega
    · obtain rfl : k = n := by omega
      go_wp2
      go_ret
      exact ⟨rfl, rfl⟩

end Go.Proofs.Ytopajgnemeodeaa

namespace Go.Proofs.Ytopajgnemeodeaa
open Go.RowKit

/-- what a book says: so many values, numbers of Firm, sorts; of a sort so many lists; of a list so many values -/
structure Bk where
  nv : Nat
  V : Nat → Int
  nf : Nat
  F : Nat → Int
  ns : Nat
  nc : Nat → Nat
  ncc : Nat → Nat → Nat
  can : Nat → Nat → Nat → Int
  wr : Int

structure Fr where
  n : Nat
  L : Nat → Nat
  X : Nat → Nat → Int

def FruitsAt (N : Nat) (w : World) (v : Value) (R : Fr) : Prop := RowsAt N w v R.n R.L R.X

def BookAt (N : Nat) (w : World) (v : Value) (B : Bk) : Prop :=
  N ≤ w.heap.size ∧ ∃ a1 c1 a2 c2 a3 c3, v = .agg #[.slice a1 B.nv c1, .slice a2 B.nf c2, .slice a3 B.ns c3, .int .i64 B.wr] ∧
    IntsAt N w (.slice a1 B.nv c1) B.nv B.V ∧ IntsAt N w (.slice a2 B.nf c2) B.nf B.F ∧ SortsAt N w (.slice a3 B.ns c3) B.ns B.nc B.ncc B.can

theorem BookAt.mono {N N' : Nat} {w w' : World} {v : Value} {B : Bk} (h : BookAt N w v B) (hB : Below N w w') (hN : N ≤ N') (hs : N' ≤ w'.heap.size) : BookAt N' w' v B := by
  obtain ⟨_, a1, c1, a2, c2, a3, c3, rfl, h1, h2, h3⟩ := h
  exact ⟨hs, a1, c1, a2, c2, a3, c3, rfl, h1.mono hB hN, h2.mono hB hN, h3.mono hB hN⟩

theorem below_alloc {N : Nat} {w : World} (h : N ≤ w.heap.size) (o : Obj) : Below N w (w.alloc o) := (Below.refl N w).alloc h o

theorem IntsAt.len {N : Nat} {w : World} {v : Value} {n : Nat} {x : Nat → Int} (h : IntsAt N w v n x) : n ≤ 140737488351232 := by
  obtain ⟨_, _, _, hn, _⟩ := h; exact hn
theorem RowsAt.len {N : Nat} {w : World} {v : Value} {n : Nat} {L : Nat → Nat} {x : Nat → Nat → Int} (h : RowsAt N w v n L x) : n ≤ 140737488351232 := by
  obtain ⟨_, _, _, hn, _⟩ := h; exact hn
theorem SortsAt.len {N : Nat} {w : World} {v : Value} {n : Nat} {L : Nat → Nat} {M : Nat → Nat → Nat} {x : Nat → Nat → Nat → Int} (h : SortsAt N w v n L M x) : n ≤ 140737488351232 := by
  obtain ⟨_, _, _, hn, _⟩ := h; exact hn

set_option maxHeartbeats 400000 in
theorem mwithin_any (a b : Int) (w : World) :
    Calls Try.prog 81 #[.int .i64 a, .int .i64 b] w fun e w' => e = .returned (.bool (decide (0 ≤ a) && decide (a < b))) ∧ w' = w := by
  by_cases h1 : 0 ≤ a
  all_goals
    go_enter Try.func81, Try.ntmps81
    go_wp2
    go_ret
    exact ⟨ret_bool (by first | (simp [h1]; done) | (simp; omega)), rfl⟩

set_option maxHeartbeats 400000 in
theorem isFruit_any (N : Nat) (v : Value) (R : Fr) (y : Int) (w : World) (h : FruitsAt N w v R) :
    Calls Try.prog 60 #[v, .int .i64 y] w fun e w' => e = .returned (.bool (decide (0 ≤ y) && decide (y < R.n))) ∧ w' = w := by
  obtain ⟨ao, cap, rfl, hn, hc⟩ := h
  go_enter Try.func60, Try.ntmps60
  go_wp2_with (go_at_call 86; refine (within_any _ _ _ _).mono ?_; rintro e w' ⟨rfl, rfl⟩)
  go_ret
  exact ⟨ret_bool (by rw [Bool.eq_iff_iff]; simp; omega), rfl⟩

set_option maxHeartbeats 400000 in
theorem isSort_any (N : Nat) (v : Value) (B : Bk) (y : Int) (w : World) (h : BookAt N w v B) :
    Calls Try.prog 54 #[v, .int .i64 y] w fun e w' => e = .returned (.bool (decide (0 ≤ y) && decide (y < B.ns))) ∧ Below w.heap.size w w' := by
  obtain ⟨_, a1, c1, a2, c2, a3, c3, rfl, h1, h2, h3⟩ := h
  have hl := h3.len
  go_enter Try.func54, Try.ntmps54
  go_wp2_with (go_at_call 86; refine (within_any _ _ _ _).mono ?_; rintro e w' ⟨rfl, rfl⟩)
  go_ret
  exact ⟨ret_bool (by rw [Bool.eq_iff_iff]; simp; omega), below_alloc (Nat.le_refl _) _⟩

set_option maxHeartbeats 400000 in
theorem isMark_any (N : Nat) (v : Value) (B : Bk) (y : Int) (w : World) (h : BookAt N w v B) :
    Calls Try.prog 53 #[v, .int .i64 y] w fun e w' => e = .returned (.bool (decide (0 ≤ y) && decide (y < B.nv))) ∧ Below w.heap.size w w' := by
  obtain ⟨_, a1, c1, a2, c2, a3, c3, rfl, h1, h2, h3⟩ := h
  have hl := h1.len
  go_enter Try.func53, Try.ntmps53
  go_wp2_with (go_at_call 86; refine (within_any _ _ _ _).mono ?_; rintro e w' ⟨rfl, rfl⟩)
  go_ret
  exact ⟨ret_bool (by rw [Bool.eq_iff_iff]; simp; omega), below_alloc (Nat.le_refl _) _⟩

set_option maxHeartbeats 400000 in
theorem misSort_any (N : Nat) (v : Value) (B : Bk) (y : Int) (w : World) (h : BookAt N w v B) :
    Calls Try.prog 66 #[v, .int .i64 y] w fun e w' => e = .returned (.bool (decide (0 ≤ y) && decide (y < B.ns))) ∧ Below w.heap.size w w' := by
  obtain ⟨_, a1, c1, a2, c2, a3, c3, rfl, h1, h2, h3⟩ := h
  have hl := h3.len
  go_enter Try.func66, Try.ntmps66
  go_wp2_with (go_at_call 81; refine (mwithin_any _ _ _).mono ?_; rintro e w' ⟨rfl, rfl⟩)
  go_ret
  exact ⟨rfl, below_alloc (Nat.le_refl _) _⟩

def inPlace (B : Bk) (R : Fr) (f m : Int) : Bool := decide (0 ≤ f) && decide (f < R.n) && (decide (0 ≤ m) && decide (m < B.nv))

set_option maxHeartbeats 400000 in
theorem isPlace_any (N : Nat) (v u : Value) (B : Bk) (R : Fr) (f m : Int) (w : World) (h : BookAt N w v B) (hf : FruitsAt N w u R) :
    Calls Try.prog 49 #[v, u, .agg #[.int .i64 f, .int .i64 m]] w fun e w' => e = .returned (.bool (inPlace B R f m)) ∧ Below w.heap.size w w' := by
  have hN := h.1
  have hbk : ∀ o o', BookAt N ((w.alloc o).alloc o') v B := fun o o' => h.mono ((below_alloc hN o).alloc (by simp; omega) o') (Nat.le_refl _) (by simp; omega)
  have hfr : ∀ o o', FruitsAt N ((w.alloc o).alloc o') u R := fun o o' => RowsAt.mono hf ((below_alloc hN o).alloc (by simp; omega) o') (Nat.le_refl _)
  obtain ⟨_, a1, c1, a2, c2, a3, c3, rfl, h1, h2, h3⟩ := h
  have HB : Hid _ := Lib.hid hbk
  have HF : Hid _ := Lib.hid hfr
  clear hbk hfr
  have fin : ∀ b : Bool, Hid ((decide (0 ≤ f) && decide (f < (R.n : Int))) = b) → True := fun _ _ => trivial
  cases hfb : (decide (0 ≤ f) && decide (f < (R.n : Int))) with
  | true =>
    have HFB : Hid _ := Lib.hid hfb
    clear hfb
    go_enter Try.func49, Try.ntmps49
    go_wp2_with (first
      | (go_at_call 60; refine (isFruit_any N _ R _ _ (HF.out _ _)).mono ?_; rintro e w' ⟨rfl, rfl⟩; rw [HFB.out])
      | (go_at_call 53; refine (isMark_any N _ B _ _ (HB.out _ _)).mono ?_; rintro e w' ⟨rfl, hb⟩))
    go_ret
    exact ⟨ret_bool (by simp only [inPlace, HFB.out, Bool.true_and]), ((below_alloc (Nat.le_refl _) _).alloc (by simp) _).trans (Below.mono (by assumption) (by simp; omega))⟩
  | false =>
    have HFB : Hid _ := Lib.hid hfb
    clear hfb
    go_enter Try.func49, Try.ntmps49
    go_wp2_with (first
      | (go_at_call 60; refine (isFruit_any N _ R _ _ (HF.out _ _)).mono ?_; rintro e w' ⟨rfl, rfl⟩; rw [HFB.out]))
    go_ret
    exact ⟨ret_bool (by simp only [inPlace, HFB.out, Bool.false_and]), ((below_alloc (Nat.le_refl _) _).alloc (by simp) _)⟩

end Go.Proofs.Ytopajgnemeodeaa
