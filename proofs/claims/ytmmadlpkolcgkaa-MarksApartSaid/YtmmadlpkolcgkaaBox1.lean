import Derived.Test.YtmmadlpkolcgkaaMiss2
import Derived.RegionTactic
import Derived.ChangeAlike
namespace Go.Proofs.Ytmmadlpkolcgkaa
open Go.RowKit

/-- the first i below n with p i, or -1 -/
def firstI (n : Nat) (p : Nat → Bool) : Int := match (List.range n).find? p with | some i => i | none => -1

theorem firstI_spec (n : Nat) (p : Nat → Bool) {k : Nat} (hk : k < n) (h : p k = true) (hb : ∀ j, j < k → p j = false) : firstI n p = k := by
  have : (List.range n).find? p = some k := List.find?_range_eq_some.2 ⟨h, List.mem_range.2 hk, fun j hj => by simp [hb j hj]⟩
  simp [firstI, this]
theorem firstI_none (n : Nat) (p : Nat → Bool) (hb : ∀ j, j < n → p j = false) : firstI n p = -1 := by
  have : (List.range n).find? p = none := List.find?_range_eq_none.2 fun j hj => by simp [hb j hj]
  simp [firstI, this]
theorem firstI_any (n : Nat) (p : Nat → Bool) : decide (0 ≤ firstI n p) = anyB n p := by
  unfold firstI anyB
  rw [Bool.eq_iff_iff]
  cases h : (List.range n).find? p with
  | none =>
    simp only [List.find?_eq_none] at h
    simp only [List.any_eq_true]
    constructor
    · intro h2; simp at h2
    · rintro ⟨x, hx, hp⟩; exact absurd hp (h x hx)
  | some i =>
    have h1 := List.mem_of_find?_eq_some h
    have h2 := List.find?_some h
    simp only [List.any_eq_true]
    constructor
    · intro _; exact ⟨i, h1, h2⟩
    · intro _; simp

set_option maxHeartbeats 400000 in
theorem index_any (N : Nat) (v : Value) (n : Nat) (x : Nat → Int) (y : Int) (w : World) (h : IntsAt N w v n x) :
    Calls Try.prog 92 #[v, .int .i64 y] w fun e w' => e = .returned (.int .i64 (firstI n fun i => decide (y = x i))) ∧ w' = w := by
  obtain ⟨ao, cap, rfl, hn, hc⟩ := h
  go_enter Try.func92, Try.ntmps92
  go_wp2
  go_loop [8] (fun i => ∃ k : Nat, k ≤ n ∧ i = .int .i64 k ∧ Hid (∀ j, j < k → decide (y = x j) = false)) (fun i => n - (intOf i).toNat)
  case atStart => exact ⟨0, Nat.zero_le _, rfl, fun j hj => absurd hj (Nat.not_lt_zero j)⟩
  case round =>
    obtain ⟨k, hk, rfl, hj⟩ := hrel
    by_cases hkn : k < n
    · obtain ⟨b, off, rfl, _, hr⟩ := hc (by omega)
      obtain ⟨r, hcell, rfl⟩ := hr k hkn
      clear hr hc
      by_cases hxy : y = x k
      · have hb : (y == x k) = true := by simp [hxy]
        have H : Hid (y = x k) := hxy
        clear hxy
        go_wp2
        go_ret
        exact ⟨ret_int (firstI_spec n _ hkn (by simpa using H.out) hj.out).symm, rfl⟩
      · have hb : (y == x k) = false := by simp [hxy]
        have H : Hid (y ≠ x k) := hxy
        clear hxy
        go_wp2
        go_round
        case rel => exact ⟨k + 1, by omega, by go_num, lt_succ hj.out (by simpa using H.out)⟩
        case measure => simp [intOf]; omega
    · have Hk : Hid (k = n) := by show k = n; omega
      go_wp2
      go_ret
      exact ⟨ret_int (firstI_none n _ fun j h => hj.out j (by rw [Hk.out]; exact h)).symm, rfl⟩

set_option maxHeartbeats 400000 in
theorem contains_any (N : Nat) (v : Value) (n : Nat) (x : Nat → Int) (y : Int) (w : World) (h : IntsAt N w v n x) :
    Calls Try.prog 73 #[v, .int .i64 y] w fun e w' => e = .returned (.bool (anyB n fun i => decide (y = x i))) ∧ w' = w := by
  have H : Hid (IntsAt N w v n x) := h
  obtain ⟨ao, cap, rfl, hn, hc⟩ := h
  clear hc
  have hfin := firstI_any n fun i => decide (y = x i)
  have HF : Hid _ := Lib.hid hfin
  clear hfin
  go_enter Try.func73, Try.ntmps73
  go_wp2_with (go_at_call 92; refine (index_any N _ _ _ _ _ H.out).mono ?_; rintro e w' ⟨rfl, rfl⟩)
  go_ret
  exact ⟨ret_bool HF.out, rfl⟩

/-- is a value right, if the real one of the fruit f (of all, if the mark is firm) is x? -/
def right (firm : Bool) (f x : Int) (n : Nat) (c : Nat → Int) (g s : Int) : Bool := if firm || decide (g = f) then decide (s = x) else anyB n fun i => decide (s = c i)

set_option maxHeartbeats 400000 in
theorem closure_any (N pf pp pv pc : Nat) (firm : Bool) (f x : Int) (cv : Value) (n : Nat) (c : Nat → Int) (g s : Int) (w : World)
    (h1 : w.cell? ⟨pf, 0, none⟩ = some (.bool firm)) (h2 : w.cell? ⟨pp, 0, none⟩ = some (.int .i64 f)) (h3 : w.cell? ⟨pv, 0, none⟩ = some (.int .i64 x)) (h4 : w.cell? ⟨pc, 0, none⟩ = some cv) (hi : IntsAt N w cv n c) :
    Calls Try.prog 105 #[.int .i64 g, .int .i64 s, .pointer (some ⟨pf, 0, none⟩), .pointer (some ⟨pp, 0, none⟩), .pointer (some ⟨pv, 0, none⟩), .pointer (some ⟨pc, 0, none⟩)] w
      fun e w' => e = .returned (.bool (right firm f x n c g s)) ∧ w' = w := by
  have HI : Hid _ := Lib.hid hi
  obtain ⟨ao, cap, rfl, hn, hc⟩ := hi
  clear hc
  cases firm with
  | true =>
    go_enter Try.func105, Try.ntmps105
    go_wp2
    go_ret
    exact ⟨ret_bool (by simp [right]; first | rfl | (rw [Bool.eq_iff_iff]; simp)), rfl⟩
  | false =>
    by_cases hg : g = f
    · have hb : (g == f) = true := by simp [hg]
      have HG : Hid (g = f) := hg
      clear hg
      go_enter Try.func105, Try.ntmps105
      go_wp2
      go_ret
      exact ⟨ret_bool (by simp [right, HG.out]; first | rfl | (rw [Bool.eq_iff_iff]; simp)), rfl⟩
    · have hb : (g == f) = false := by simp [hg]
      have HG : Hid (¬ g = f) := hg
      clear hg
      go_enter Try.func105, Try.ntmps105
      go_wp2_with (go_at_call 73; refine (contains_any N _ _ _ _ _ HI.out).mono ?_; rintro e w' ⟨rfl, rfl⟩)
      go_ret
      exact ⟨ret_bool (by simp [right, HG.out]), rfl⟩

end Go.Proofs.Ytmmadlpkolcgkaa
