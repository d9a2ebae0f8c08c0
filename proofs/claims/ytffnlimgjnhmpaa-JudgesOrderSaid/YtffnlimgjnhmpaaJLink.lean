/-
  JLink: a show whose points are all in: what is known is so.
-/
import Derived.Test.YtffnlimgjnhmpaaJWord
import Derived.Test.YtffnlimgjnhmpaaJKM
import Derived.Test.YtffnlimgjnhmpaaJKP
namespace Go.Proofs.Ytffnlimgjnhmpaa

theorem allIn_iff {S : JB} : allIn S = true ↔ ∀ i, i < S.np → ∀ x, x ∈ S.pts i → x ≠ -1 := by
  unfold allIn
  rw [allB_true]
  constructor
  · intro h i hi x hx e
    have := h i hi
    rw [Bool.not_eq_true', List.any_eq_false] at this
    exact this x hx (by rw [e]; rfl)
  · intro h i hi
    rw [Bool.not_eq_true', List.any_eq_false]
    intro x hx
    have := h i hi x hx
    simpa using this
theorem placeN_congr {t t' s : Nat → Int} {np i : Nat} (hi : t i = t' i) (h : ∀ j, j < np → t j = t' j) : placeN t s np i = placeN t' s np i := by
  unfold placeN
  rw [cnt_range, cnt_range]
  congr 1
  refine cnt_congr fun j hj => ?_
  rw [btr_bet, btr_bet, hi, h j hj]
theorem in_lo {S : JB} (h : allIn S = true) {i : Nat} (hi : i < S.np) : loT S i = totI S i := by
  unfold loT totI; rw [fil_in (allIn_iff.1 h i hi)]
theorem in_hi {S : JB} (h : allIn S = true) {i : Nat} (hi : i < S.np) : hiT S i = totI S i := by
  unfold hiT totI; rw [fil_in (allIn_iff.1 h i hi)]
theorem in_plHi {S : JB} (h : allIn S = true) {i : Nat} (hi : i < S.np) : plHi S i = plc S i := by
  unfold plHi plc
  refine placeN_congr (by rw [upd_at, in_lo h hi]) fun j hj => ?_
  by_cases e : j = i
  · subst e; rw [upd_at, in_lo h hj]
  · rw [upd_ne e, in_hi h hj]
theorem in_plLo {S : JB} (h : allIn S = true) {i : Nat} (hi : i < S.np) : plLo S i = plc S i := by
  unfold plLo plc
  refine placeN_congr (by rw [upd_at, in_hi h hi]) fun j hj => ?_
  by_cases e : j = i
  · subst e; rw [upd_at, in_hi h hj]
  · rw [upd_ne e, in_lo h hj]
theorem in_prz {S : JB} (h : allIn S = true) {i : Nat} (hi : i < S.np) : prz S i = if gotP S i then 1 else 2 := by
  unfold prz gotP
  rw [in_plHi h hi, in_plLo h hi]
  by_cases e : (plc S i : Int) ≤ S.Z
  · rw [if_pos e, decide_eq_true e]; rfl
  · rw [if_neg e, if_pos (by omega), decide_eq_false e]; rfl
theorem in_prL {S : JB} (h : allIn S = true) : prL S 1 S.np = getL S := by
  unfold prL getL
  refine sel_congr fun i hi => ?_
  rw [in_prz h hi]
  cases gotP S i <;> rfl
theorem in_with {S : JB} (h : allIn S = true) (q k : Nat) {x : Int} (hx : 0 ≤ x) : allIn (withP S q k x) = true := by
  rw [allIn_iff] at h ⊢
  intro i hi y hy
  change y ∈ (if i = q then (S.pts i).set k x else S.pts i) at hy
  split at hy
  · rcases List.mem_or_eq_of_mem_set hy with h1 | h1
    · exact h i hi y h1
    · omega
  · exact h i hi y hy
theorem in_without {S : JB} (h : allIn S = true) (k : Nat) : allIn (withoutJ S k) = true := by
  rw [allIn_iff] at h ⊢
  intro i hi y hy
  exact h i hi y (List.mem_of_mem_eraseIdx hy)
theorem eq_with {S : JB} (h : allIn S = true) (q k m : Nat) : (prL (withP S q k m) 1 S.np = prL S 1 S.np) = (getL (withP S q k m) = getL S) := by
  rw [← in_prL h, ← in_prL (in_with h q k (x := (m : Int)) (by omega))]; rfl
theorem eq_without {S : JB} (h : allIn S = true) (k : Nat) : (prL (withoutJ S k) 1 S.np = prL S 1 S.np) = (getL (withoutJ S k) = getL S) := by
  rw [← in_prL h, ← in_prL (in_without h k)]; rfl
theorem room_bd {S : JB} {q k : Nat} (h : 0 ≤ (S.pts q).getD k 0 ∧ (S.pts q).getD k 0 ≤ 20) {m : Nat} (hm : m ≤ 21) : 0 ≤ (room S q k m).1 ∧ (room S q k m).1 ≤ 20 ∧ 0 ≤ (room S q k m).2 ∧ (room S q k m).2 ≤ 20 := by
  induction m with
  | zero => exact ⟨h.1, h.2, h.1, h.2⟩
  | succ m ih =>
    have := ih (by omega)
    unfold room
    split
    · simp only; omega
    · exact this

end Go.Proofs.Ytffnlimgjnhmpaa
