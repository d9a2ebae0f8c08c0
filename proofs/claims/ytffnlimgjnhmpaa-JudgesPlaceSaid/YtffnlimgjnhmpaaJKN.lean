/-
  JKN: slices.Equal, slices.Clone of plates, slices.Delete of one number; a jury with other points, or without a judge.
-/
import Derived.Test.YtffnlimgjnhmpaaJKF
namespace Go.Proofs.Ytffnlimgjnhmpaa
open Go.RowKit

set_option maxHeartbeats 1600000 in
set_option maxRecDepth 100000 in
theorem equal_any (N M : Nat) (v u : Value) (l m : List Int) (w : World) (h : LI N w v l) (hu : LI M w u m) :
    Calls Try.prog 99 #[v, u] w fun e w' => e = .returned (.bool (decide (l = m))) ∧ ∃ q, w' = w.drewN q := by
  obtain ⟨a, c, rfl⟩ := h.form
  obtain ⟨b, d, rfl⟩ := hu.form
  have hl1 := h.len
  have hl2 := hu.len
  by_cases hnm : l.length = m.length
  · have HL := Lib.hid h
    have HU := Lib.hid hu
    obtain ⟨n, hn⟩ : ∃ n, l.length = n := ⟨_, rfl⟩
    have HN := Lib.hid hn
    have HM : Hid (m.length = n) := by rw [← hn]; exact hnm.symm
    rw [← hnm] at HU ⊢
    rw [hn] at HL HU hl1 ⊢
    clear hl2 h hu hn hnm
    have hne : ((n : Int) != (n : Int)) = false := by simp
    go_enter Try.func99, Try.ntmps99
    go_wp2_with fail
    go_loopw [13] (fun i wr => ∃ k : Nat, k ≤ n ∧ i = .int .i64 k ∧ Hid (∀ j, j < k → l.getD j 0 = m.getD j 0) ∧ Hid (∃ q, wr = w.drewN q)) (fun i _ => n - (intOf i).toNat)
    case atStart => exact ⟨0, Nat.zero_le _, rfl, fun j hj => absurd hj (Nat.not_lt_zero j), 0, rfl⟩
    case round =>
      obtain ⟨k, hk, rfl, HK, hw⟩ := hrel
      obtain ⟨q, rfl⟩ := hw
      by_cases hkn : k < n
      · obtain ⟨b1, o1, rfl, _, hr1⟩ := HL.out.cell (by rw [HN.out]; omega)
        obtain ⟨b2, o2, rfl, _, hr2⟩ := HU.out.cell (by rw [HM.out]; omega)
        have c1 := hr1 k (by rw [HN.out]; exact hkn)
        have c2 := hr2 k (by rw [HM.out]; exact hkn)
        obtain ⟨x, hx⟩ : ∃ x, l.getD k 0 = x := ⟨_, rfl⟩
        obtain ⟨y, hy⟩ : ∃ y, m.getD k 0 = y := ⟨_, rfl⟩
        have HXY := Lib.hid (And.intro hx hy)
        rw [hx] at c1
        rw [hy] at c2
        have hki : (k : Int) < (n : Int) := by omega
        clear hr1 hr2 hx hy
        by_cases hxy : x = y
        · have hb : (x != y) = false := by simp [hxy]
          have H := Lib.hid hxy
          clear hxy
          go_wp2_with fail
          go_quiet (fail)
          go_wp2_with fail
          go_roundw
          case rel => exact ⟨k + 1, by omega, by go_num, fun j hj => by
            rcases Nat.lt_succ_iff_lt_or_eq.1 hj with h1 | h1
            · exact HK.out j h1
            · rw [h1, HXY.out.1, HXY.out.2]; exact H.out, _, rfl⟩
          case measure => simp [intOf]; omega
        · have hb : (x != y) = true := by simp [hxy]
          have H := Lib.hid hxy
          have HE : Hid (decide (l = m) = false) := decide_eq_false fun e => H.out (by rw [← HXY.out.1, ← HXY.out.2, e])
          clear hxy
          go_wp2_with fail
          go_quiet (fail)
          go_wp2_with fail
          go_ret
          exact ⟨ret_bool HE.out.symm, _, World.drewN_drewN _ _ _⟩
      · have HE : Hid (decide (l = m) = true) := decide_eq_true (List.ext_getElem (by rw [HN.out, HM.out]) fun i h1 h2 => by
          have := HK.out i (by rw [HN.out] at h1; omega)
          rw [getD_at h1, getD_at h2] at this
          exact this)
        have hki : ¬ (k : Int) < (n : Int) := by omega
        go_wp2_with fail
        go_ret
        exact ⟨ret_bool HE.out.symm, _, rfl⟩
  · have hne : (((l.length : Nat) : Int) != ((m.length : Nat) : Int)) = true := by simp; omega
    have HE : Hid (decide (l = m) = false) := decide_eq_false fun e => hnm (by rw [e])
    clear h hu hnm
    go_enter Try.func99, Try.ntmps99
    go_wp2_with fail
    go_ret
    exact ⟨ret_bool HE.out.symm, 0, rfl⟩

set_option maxHeartbeats 1600000 in
set_option maxRecDepth 100000 in
theorem kcloneP_any (N : Nat) (ao : Option Addr) (np c : Nat) (x : Nat → Int) (y : Nat → Value) (w : World) (hN : N ≤ w.heap.size) (h40 : np ≤ 1000)
    (hc : 0 < np → ∃ b off, ao = some ⟨b, off, none⟩ ∧ b < N ∧ ∀ i, i < np → w.cell? ⟨b, off + i * 2, none⟩ = some (.int .i64 (x i)) ∧ w.cell? ⟨b, off + i * 2 + 1, none⟩ = some (y i)) :
    Calls Try.prog 97 #[.slice ao np c] w fun e w' => ∃ v', e = .returned v' ∧ PK w.heap.size w' v' np x y ∧ Below w.heap.size w w' := by
  have q22 : ∀ (w : World) (a : Option Addr) (n c n' c' : Nat), (binOp .eql 22 (.slice a n c) (.slice none n' c')).run Try.prog w = .ok (.bool a.isNone) w := fun w a n c n' c' => Lib.run_eql_slice_nil w _ _ a n c n' c' Try.underlying22
  cases ao with
  | none =>
    have h0 : np = 0 := by
      rcases Nat.eq_zero_or_pos np with h0 | h0
      · exact h0
      · obtain ⟨b, off, e, _⟩ := hc h0; cases e
    subst h0
    clear hc
    go_enter Try.func97, Try.ntmps97
    go_wp2_with fail
    go_ret
    exact ⟨_, rfl, .inl ⟨rfl, none, 0, rfl⟩, Below.refl _ _⟩
  | some ad =>
    have HC : Hid (∀ W, Below w.heap.size w W → 0 < np → ∃ b off, some ad = some ⟨b, off, none⟩ ∧ b < N ∧ ∀ i, i < np → W.cell? ⟨b, off + i * 2, none⟩ = some (.int .i64 (x i)) ∧ W.cell? ⟨b, off + i * 2 + 1, none⟩ = some (y i)) := fun W hW h0 => by
      obtain ⟨b, off, e, hb, hr⟩ := hc h0
      exact ⟨b, off, e, hb, fun i hi => ⟨(hW.cell (p := ⟨b, off + i * 2, none⟩) (by show b < _; omega)).trans (hr i hi).1, (hW.cell (p := ⟨b, off + i * 2 + 1, none⟩) (by show b < _; omega)).trans (hr i hi).2⟩⟩
    clear hc
    go_enter Try.func97, Try.ntmps97
    go_wp2_with (at_builtin; go_must (refine wpList_cloneP _ rfl _ _ rfl rfl N w.heap.size _ np _ x y rfl rfl (HC.out _ (below_alloc (Nat.le_refl _) _)) (by simp; omega) (by omega) ?_); intro v' w1 hi1 hb1)
    go_ret
    exact ⟨_, rfl, hi1.lower (by simp), (below_alloc (Nat.le_refl _) _).trans (hb1.mono (by simp))⟩

end Go.Proofs.Ytffnlimgjnhmpaa
