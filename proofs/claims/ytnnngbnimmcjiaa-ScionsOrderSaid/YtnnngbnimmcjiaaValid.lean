/-
  Valid: the checks of package scions.
-/
import Derived.Test.YtnnngbnimmcjiaaBase
import Derived.Laws.StructEq
import Derived.Laws.Tables
import Derived.Laws.Cover2
namespace Go.Proofs.Ytnnngbnimmcjiaa
open Go.RowKit

/-- the first i below n with p i, or -1 -/
def firstI (n : Nat) (p : Nat → Bool) : Int := match (List.range n).find? p with | some i => i | none => -1

theorem firstI_spec (n : Nat) (p : Nat → Bool) {k : Nat} (hk : k < n) (h : p k = true) (hb : ∀ j, j < k → p j = false) : firstI n p = k := by
  have : (List.range n).find? p = some k := List.find?_range_eq_some.2 ⟨h, List.mem_range.2 hk, fun j hj => by simp [hb j hj]⟩
  simp [firstI, this]
theorem firstI_none (n : Nat) (p : Nat → Bool) (hb : ∀ j, j < n → p j = false) : firstI n p = -1 := by
  have : (List.range n).find? p = none := List.find?_range_eq_none.2 fun j hj => by simp [hb j hj]
  simp [firstI, this]
theorem firstI_any (n : Nat) (p : Nat → Bool) : decide (0 ≤ firstI n p) = anyB n p := by
  unfold firstI anyB
  rw [Bool.eq_iff_iff]
  cases h : (List.range n).find? p with
  | none =>
    simp only [List.find?_eq_none] at h
    simp only [List.any_eq_true]
    constructor
    · intro h2; simp at h2
    · rintro ⟨x, hx, hp⟩; exact absurd hp (h x hx)
  | some i =>
    have h1 := List.mem_of_find?_eq_some h
    have h2 := List.find?_some h
    simp only [List.any_eq_true]
    constructor
    · intro _; exact ⟨i, h1, h2⟩
    · intro _; simp

def outC (x : Int) : Bool := !(decide (0 ≤ x) && decide (x ≤ 4))
theorem eqWant (a b c d : Int) (w : World) : (Op.equalIn 10000 43 (.agg #[.int .i64 a, .int .i64 b]) (.agg #[.int .i64 c, .int .i64 d])).run Try.prog w = .ok (decide (a = c) && decide (b = d)) w := by
  rw [show (10000 : Nat) = 9999 + 1 from rfl, run_equalIn_struct w 9999 43 _ _ (by kernel_rfl) (by kernel_rfl)]
  have e : (Try.prog.fieldsOf 43).toList = [{ name := "Garden", embedded := false, type := 3, tag := "", pkgPath := "", offset := 0, byteOffset := 0 }, { name := "Sort", embedded := false, type := 3, tag := "", pkgPath := "", offset := 1, byteOffset := 8 }] := by kernel_rfl
  rw [e]
  go_simp
  by_cases h0 : a = c <;> by_cases h1 : b = d <;> simp [h0, h1]

set_option maxHeartbeats 400000 in
theorem tooMany_any (x : Int) (w : World) :
    Calls Try.prog 80 #[.int .i64 x] w fun e w' => e = .returned (.bool (outC x)) ∧ w' = w := by
  go_enter Try.func80, Try.ntmps80
  go_wp2_with (go_at_call 81; refine (kupTo_any _ _ _).mono ?_; rintro e w' ⟨rfl, rfl⟩)
  go_ret
  exact ⟨ret_bool (by simp [outC]), rfl⟩

set_option maxHeartbeats 800000 in
theorem validGarden_any (p f : Int) (w : World) :
    Calls Try.prog 83 #[.agg #[.int .i64 p, .int .i64 f]] w fun e w' => e = .returned (.bool (okGd 4 p f)) ∧ Below w.heap.size w w' := by
  obtain ⟨ws, hws, HB, hsz, hblk⟩ := box1 w (.cells #[.int .i64 p, .int .i64 f] 49)
  have q0 := cell_blk hblk 0 rfl
  have q1 := cell_blk hblk 1 rfl
  clear hblk
  cases h1 : (decide (0 ≤ p) && decide (p ≤ 4)) with
  | true =>
    have H1 := Lib.hid h1
    clear h1
    go_enter Try.func83, Try.ntmps83
    go_wp2_with (first
      | (go_at_call 81; refine (kupTo_eq _ _ _ _ H1.out).mono ?_; rintro e w' ⟨rfl, rfl⟩)
      | (go_at_call 62; refine (kwithin_any _ _ _).mono ?_; rintro e w' ⟨rfl, rfl⟩))
    go_ret
    exact ⟨ret_bool (by unfold okGd; have := H1.out; simp only [Bool.and_eq_true, decide_eq_true_eq] at this; simp [this.1, this.2]), HB.out⟩
  | false =>
    have H1 := Lib.hid h1
    clear h1
    go_enter Try.func83, Try.ntmps83
    go_wp2_with (first
      | (go_at_call 81; refine (kupTo_eq _ _ _ _ H1.out).mono ?_; rintro e w' ⟨rfl, rfl⟩))
    go_ret
    exact ⟨ret_bool (by unfold okGd; have := H1.out; rw [show ((4 : Nat) : Int) = 4 from rfl, this]; rfl), HB.out⟩

set_option maxHeartbeats 800000 in
theorem wrongGarden_any (p f : Int) (w : World) :
    Calls Try.prog 82 #[.agg #[.int .i64 p, .int .i64 f]] w fun e w' => e = .returned (.bool (!okGd 4 p f)) ∧ Below w.heap.size w w' := by
  obtain ⟨ws, hws, HB, hsz, hblk⟩ := box1 w (.cells #[.int .i64 p, .int .i64 f] 49)
  have q0 := cell_blk hblk 0 rfl
  have q1 := cell_blk hblk 1 rfl
  clear hblk
  go_enter Try.func82, Try.ntmps82
  go_wp2_with (go_at_call 83; refine (validGarden_any _ _ _).mono ?_; rintro e w' ⟨rfl, hb⟩)
  go_ret
  exact ⟨rfl, fin HB.out hb⟩

set_option maxHeartbeats 400000 in
theorem indexInts_any (N : Nat) (v : Value) (n : Nat) (x : Nat → Int) (w : World) (h : IntsAt N w v n x) :
    Calls Try.prog 92 #[v, .func (.func 80) #[] #[]] w fun e w' => e = .returned (.int .i64 (firstI n fun i => outC (x i))) ∧ w' = w := by
  obtain ⟨ao, cap, rfl, hn, hc⟩ := h
  go_enter Try.func92, Try.ntmps92
  go_wp2
  go_loop [8] (fun i => ∃ k : Nat, k ≤ n ∧ i = .int .i64 k ∧ Hid (∀ j, j < k → outC (x j) = false)) (fun i => n - (intOf i).toNat)
  case atStart => exact ⟨0, Nat.zero_le _, rfl, fun j hj => absurd hj (Nat.not_lt_zero j)⟩
  case round =>
    obtain ⟨k, hk, rfl, hj⟩ := hrel
    by_cases hkn : k < n
    · obtain ⟨b1, off, rfl, _, hr⟩ := hc (by omega)
      obtain ⟨r, hcell, rfl⟩ := hr k hkn
      clear hr hc
      cases hxy : outC (x k) with
      | true =>
        have HX : Hid _ := Lib.hid hxy
        clear hxy
        go_wp2_with (go_at_call 80; refine (tooMany_any _ _).mono ?_; rintro e w' ⟨rfl, rfl⟩; rw [HX.out])
        go_ret
        exact ⟨ret_int (firstI_spec n _ hkn HX.out hj.out).symm, rfl⟩
      | false =>
        have HX : Hid _ := Lib.hid hxy
        clear hxy
        go_wp2_with (go_at_call 80; refine (tooMany_any _ _).mono ?_; rintro e w' ⟨rfl, rfl⟩; rw [HX.out])
        go_round
        case rel => exact ⟨k + 1, by omega, by go_num, lt_succ hj.out HX.out⟩
        case measure => simp [intOf]; omega
    · have Hk : Hid (k = n) := by show k = n; omega
      go_wp2
      go_ret
      exact ⟨ret_int (firstI_none n _ fun j h => hj.out j (by rw [Hk.out]; exact h)).symm, rfl⟩

set_option maxHeartbeats 400000 in
theorem containsInts_any (N : Nat) (v : Value) (n : Nat) (x : Nat → Int) (w : World) (h : IntsAt N w v n x) :
    Calls Try.prog 84 #[v, .func (.func 80) #[] #[]] w fun e w' => e = .returned (.bool (anyB n fun i => outC (x i))) ∧ w' = w := by
  have H : Hid (IntsAt N w v n x) := h
  obtain ⟨ao, cap, rfl, hn, hc⟩ := h
  clear hc
  have hfin := firstI_any n fun i => outC (x i)
  have HF : Hid _ := Lib.hid hfin
  clear hfin
  go_enter Try.func84, Try.ntmps84
  go_wp2_with (go_at_call 92; refine (indexInts_any N _ _ _ _ H.out).mono ?_; rintro e w' ⟨rfl, rfl⟩)
  go_ret
  exact ⟨ret_bool HF.out, rfl⟩

set_option maxHeartbeats 800000 in
theorem indexGardens_any (N : Nat) (v : Value) (n : Nat) (x y : Nat → Int) (w : World) (h : PairsAt N w v n x y) (hN : N ≤ w.heap.size) :
    Calls Try.prog 93 #[v, .func (.func 82) #[] #[]] w fun e w' => e = .returned (.int .i64 (firstI n fun i => !okGd 4 (x i) (y i))) ∧ Below w.heap.size w w' := by
  have HP := Lib.hid h
  have HN := Lib.hid hN
  obtain ⟨ao, cap, rfl, hn, _, hc⟩ := h
  clear hc hN
  have HB0 : Hid (Below w.heap.size w w) := Below.refl _ _
  go_enter Try.func93, Try.ntmps93
  go_wp2
  go_loopw [8] (fun i wr => ∃ k : Nat, k ≤ n ∧ i = .int .i64 k ∧ Hid (∀ j, j < k → (!okGd 4 (x j) (y j)) = false) ∧ Hid (Below w.heap.size w wr)) (fun i _ => n - (intOf i).toNat)
  case atStart => exact ⟨0, Nat.zero_le _, rfl, fun j hj => absurd hj (Nat.not_lt_zero j), HB0⟩
  case round =>
    obtain ⟨k, hk, rfl, hj, HBr⟩ := hrel
    by_cases hkn : k < n
    · obtain ⟨b1, off, rfl, _, hr⟩ := (HP.out.go HN.out HBr.out).cells (by omega)
      obtain ⟨c0, c1⟩ := hr k hkn
      clear hr
      cases hxy : (!okGd 4 (x k) (y k)) with
      | true =>
        have HX : Hid _ := Lib.hid hxy
        clear hxy
        go_wp2_with (go_at_call 82; refine (wrongGarden_any _ _ _).mono ?_; rintro e w' ⟨rfl, hb⟩; rw [HX.out])
        go_ret
        exact ⟨ret_int (firstI_spec n _ hkn HX.out hj.out).symm, bel HBr.out hb⟩
      | false =>
        have HX : Hid _ := Lib.hid hxy
        clear hxy
        go_wp2_with (go_at_call 82; refine (wrongGarden_any _ _ _).mono ?_; rintro e w' ⟨rfl, hb⟩; rw [HX.out])
        go_roundw
        case rel => exact ⟨k + 1, by omega, by go_num, lt_succ hj.out HX.out, bel HBr.out hb⟩
        case measure => simp [intOf]; omega
    · have Hk : Hid (k = n) := by show k = n; omega
      go_wp2
      go_ret
      exact ⟨ret_int (firstI_none n _ fun j h => hj.out j (by rw [Hk.out]; exact h)).symm, HBr.out⟩

set_option maxHeartbeats 400000 in
theorem containsGardens_any (N : Nat) (v : Value) (n : Nat) (x y : Nat → Int) (w : World) (h : PairsAt N w v n x y) (hN : N ≤ w.heap.size) :
    Calls Try.prog 85 #[v, .func (.func 82) #[] #[]] w fun e w' => e = .returned (.bool (anyB n fun i => !okGd 4 (x i) (y i))) ∧ Below w.heap.size w w' := by
  have H := Lib.hid h
  have HN := Lib.hid hN
  obtain ⟨ao, cap, rfl, hn, _, hc⟩ := h
  clear hc hN
  have hfin := firstI_any n fun i => !okGd 4 (x i) (y i)
  have HF : Hid _ := Lib.hid hfin
  clear hfin
  go_enter Try.func85, Try.ntmps85
  go_wp2_with (go_at_call 93; refine (indexGardens_any N _ _ _ _ _ H.out HN.out).mono ?_; rintro e w' ⟨rfl, hb⟩)
  go_ret
  exact ⟨ret_bool HF.out, hb⟩

set_option maxHeartbeats 800000 in
theorem indexWants_any (N : Nat) (v : Value) (n : Nat) (x y : Nat → Int) (a b : Int) (w : World) (h : PairsAt N w v n x y) (hN : N ≤ w.heap.size) :
    Calls Try.prog 96 #[v, .agg #[.int .i64 a, .int .i64 b]] w fun e w' => e = .returned (.int .i64 (firstI n fun i => decide (x i = a) && decide (y i = b))) ∧ Below w.heap.size w w' := by
  obtain ⟨ao, cap, rfl, hn, _⟩ := id h
  obtain ⟨ws, hws, HB, hsz, hblk⟩ := box1 w (.cells #[.int .i64 a, .int .i64 b] 43)
  have q0 := cell_blk hblk 0 rfl
  have q1 := cell_blk hblk 1 rfl
  have HP := Lib.hid (h.go hN HB.out)
  clear hblk h hN
  go_enter Try.func96, Try.ntmps96
  go_wp2
  clear hws
  go_loopw [8] (fun i wr => ∃ k : Nat, k ≤ n ∧ i = .int .i64 k ∧ Hid (∀ j, j < k → (decide (x j = a) && decide (y j = b)) = false) ∧ Hid (Drawn ws wr)) (fun i _ => n - (intOf i).toNat)
  case atStart => exact ⟨0, Nat.zero_le _, rfl, fun j hj => absurd hj (Nat.not_lt_zero j), Drawn.refl _⟩
  case round =>
    obtain ⟨k, hk, rfl, hj, HD⟩ := hrel
    by_cases hkn : k < n
    · obtain ⟨b1, off, rfl, _, hr⟩ := HP.out.cells (by omega)
      obtain ⟨c0, c1⟩ := hr k hkn
      replace q0 := HD.out.cell q0
      replace q1 := HD.out.cell q1
      replace c0 := HD.out.cell c0
      replace c1 := HD.out.cell c1
      clear hr
      cases hxy : (decide (x k = a) && decide (y k = b)) with
      | true =>
        have HX : Hid ((decide (x k = a) && decide (y k = b)) = true) := Lib.hid hxy
        have heq : ∀ w, (Op.equalIn 10000 43 (.agg #[.int .i64 a, .int .i64 b]) (.agg #[.int .i64 (x k), .int .i64 (y k)])).run Try.prog w = .ok true w := fun w => by rw [eqWant, ← hxy]; congr 2 <;> exact decide_eq_decide.2 eq_comm
        clear hxy
        go_wp2
        go_quiet (fail)
        go_wp2
        go_ret
        exact ⟨ret_int (firstI_spec n _ hkn HX.out hj.out).symm, fin HB.out (HD.out.more _ |>.below _)⟩
      | false =>
        have HX : Hid ((decide (x k = a) && decide (y k = b)) = false) := Lib.hid hxy
        have heq : ∀ w, (Op.equalIn 10000 43 (.agg #[.int .i64 a, .int .i64 b]) (.agg #[.int .i64 (x k), .int .i64 (y k)])).run Try.prog w = .ok false w := fun w => by rw [eqWant, ← hxy]; congr 2 <;> exact decide_eq_decide.2 eq_comm
        clear hxy
        go_wp2
        go_quiet (fail)
        go_wp2
        go_roundw
        case rel => exact ⟨k + 1, by omega, by go_num, lt_succ hj.out HX.out, HD.out.more _⟩
        case measure => simp [intOf]; omega
    · have Hk : Hid (k = n) := by show k = n; omega
      go_wp2
      go_ret
      exact ⟨ret_int (firstI_none n _ fun j h => hj.out j (by rw [Hk.out]; exact h)).symm, fin HB.out (HD.out.below _)⟩

set_option maxHeartbeats 400000 in
theorem containsWants_any (N : Nat) (v : Value) (n : Nat) (x y : Nat → Int) (a b : Int) (w : World) (h : PairsAt N w v n x y) (hN : N ≤ w.heap.size) :
    Calls Try.prog 94 #[v, .agg #[.int .i64 a, .int .i64 b]] w fun e w' => e = .returned (.bool (anyB n fun i => decide (x i = a) && decide (y i = b))) ∧ Below w.heap.size w w' := by
  obtain ⟨ao, cap, rfl, hn, _⟩ := id h
  obtain ⟨ws, hws, HB, hsz, hblk⟩ := box1 w (.cells #[.int .i64 a, .int .i64 b] 43)
  have q0 := cell_blk hblk 0 rfl
  have q1 := cell_blk hblk 1 rfl
  have HP := Lib.hid (h.go hN HB.out)
  have HN := Lib.hid (Nat.le_trans hN HB.out.size)
  clear hblk h hN
  have hfin := firstI_any n fun i => decide (x i = a) && decide (y i = b)
  have HF : Hid _ := Lib.hid hfin
  clear hfin
  go_enter Try.func94, Try.ntmps94
  go_wp2_with (go_at_call 96; refine (indexWants_any N _ _ _ _ _ _ _ HP.out HN.out).mono ?_; rintro e w' ⟨rfl, hb⟩)
  go_ret
  exact ⟨ret_bool HF.out, fin HB.out hb⟩

end Go.Proofs.Ytnnngbnimmcjiaa
