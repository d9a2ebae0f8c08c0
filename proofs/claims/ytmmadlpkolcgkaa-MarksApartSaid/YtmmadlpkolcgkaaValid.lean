import Derived.Test.YtmmadlpkolcgkaaBook
namespace Go.Proofs.Ytmmadlpkolcgkaa
open Go.RowKit

/-- values that a mark can have: some, ascending, from 0 to hi - 1 -/
def okCan (n : Nat) (c : Nat → Int) (hi : Int) : Bool := decide (0 < n) && allB n fun i => decide (0 ≤ c i) && decide (c i < hi) && (decide (i = 0) || decide (c (i - 1) < c i))
def okMarks (B : Bk) : Bool := decide (B.nv ≤ 6) && decide (B.nf = B.nv) && allB B.nv fun i => decide (1 ≤ B.V i) && decide (B.V i ≤ 5) && (decide (0 ≤ B.F i) && decide (B.F i < 2))
def okSort (B : Bk) (s : Nat) : Bool := decide (B.nc s = B.nv) && allB (B.nc s) fun i => okCan (B.ncc s i) (B.can s i) (B.V i)
def okSorts (B : Bk) : Bool := decide (B.ns ≤ 8) && allB B.ns (okSort B)
def okBook (B : Bk) : Bool := okMarks B && okSorts B && decide (0 ≤ B.wr) && decide (B.wr ≤ 9)
def okFruit (B : Bk) (R : Fr) (f : Nat) : Bool := decide (R.L f = B.nv) && allB (R.L f) fun i => decide (R.X f i = -1) || (decide (0 ≤ R.X f i) && decide (R.X f i < B.V i))
def okFruits (B : Bk) (R : Fr) : Bool := decide (R.n ≤ 5) && allB R.n (okFruit B R)
def chk (B : Bk) (R : Fr) : Int := if okBook B then (if okFruits B R then 0 else 11) else 10

theorem allB_succ_false {n k : Nat} {p : Nat → Bool} (hk : k < n) (h : p k = false) : allB n p = false := allB_false.2 ⟨k, hk, h⟩

set_option maxHeartbeats 400000 in
theorem validCan_any (N : Nat) (v : Value) (n : Nat) (c : Nat → Int) (hi : Int) (w : World) (h : IntsAt N w v n c) :
    Calls Try.prog 98 #[v, .int .i64 hi] w fun e w' => e = .returned (.bool (okCan n c hi)) ∧ w' = w := by
  obtain ⟨ao, cap, rfl, hn, hc⟩ := h
  go_enter Try.func98, Try.ntmps98
  go_wp2
  go_loop [5, 10] (fun l i => ∃ k : Nat, ∃ z : Int, k ≤ n ∧ i = .int .i64 k ∧ l = .int .i64 z ∧ Hid (z = (if k = 0 then -1 else c (k - 1)) ∧ ∀ j, j < k → (decide (0 ≤ c j) && decide (c j < hi) && (decide (j = 0) || decide (c (j - 1) < c j))) = true)) (fun _ i => n - (intOf i).toNat)
  case atStart => exact ⟨0, -1, Nat.zero_le _, rfl, rfl, rfl, fun j hj => absurd hj (Nat.not_lt_zero j)⟩
  case round =>
    obtain ⟨k, z, hk, rfl, rfl, hj⟩ := hrel
    by_cases hkn : k < n
    · obtain ⟨b, off, rfl, _, hr⟩ := hc (by omega)
      obtain ⟨r, hcell, rfl⟩ := hr k hkn
      clear hr hc
      have hz := hj.out.1
      have hpos : Hid (z < c k → 0 ≤ c k) := fun hlt => by
        by_cases h0 : k = 0
        · rw [if_pos h0] at hz; omega
        · rw [if_neg h0] at hz
          have hjj := hj.out.2 (k - 1) (by omega)
          simp only [Bool.and_eq_true, decide_eq_true_eq] at hjj
          have := hjj.1.1
          omega
      have hprev : Hid (z < c k → (k = 0 ∨ c (k - 1) < c k)) := fun hlt => by
        by_cases h0 : k = 0
        · exact .inl h0
        · rw [if_neg h0] at hz
          right; omega
      have hprev2 : Hid (¬ z < c k → (decide (0 ≤ c k) && decide (c k < hi) && (decide (k = 0) || decide (c (k - 1) < c k))) = false) := fun hlt => by
        by_cases h0 : k = 0
        · rw [if_pos h0] at hz
          have : ¬ 0 ≤ c k := by omega
          simp [this]
        · rw [if_neg h0] at hz
          have : ¬ c (k - 1) < c k := by omega
          simp [this, h0]
      clear hz
      by_cases h1 : z < c k
      · by_cases h2 : c k < hi
        · go_wp2
          go_round
          case rel => exact ⟨k + 1, c k, by omega, by go_num, rfl, by simp, lt_succ hj.out.2 (by have a := hpos.out h1; have b := hprev.out h1; simp [a, h2, b])⟩
          case measure => simp [intOf]; omega
        · have h2' : hi ≤ c k := by omega
          go_wp2
          go_ret
          exact ⟨ret_bool (by unfold okCan; rw [allB_succ_false hkn (by have q : ¬ c k < hi := (by omega); simp [q]), Bool.and_false]), rfl⟩
      · have h1' : c k ≤ z := by omega
        go_wp2
        go_ret
        exact ⟨ret_bool (by unfold okCan; rw [allB_succ_false hkn (hprev2.out h1), Bool.and_false]), rfl⟩
    · obtain rfl : k = n := by omega
      have Hn : Hid (allB k (fun i => decide (0 ≤ c i) && decide (c i < hi) && (decide (i = 0) || decide (c (i - 1) < c i))) = true) := allB_true.2 hj.out.2
      go_wp2
      go_ret
      exact ⟨ret_bool (by unfold okCan; rw [Hn.out, Bool.and_true]), rfl⟩

set_option maxHeartbeats 400000 in
theorem misPlace_any (N : Nat) (v u : Value) (B : Bk) (R : Fr) (f m : Int) (w : World) (h : BookAt N w v B) (hf : FruitsAt N w u R) :
    Calls Try.prog 75 #[v, u, .agg #[.int .i64 f, .int .i64 m]] w fun e w' => e = .returned (.bool (inPlace B R f m)) ∧ Below w.heap.size w w' := by
  obtain ⟨_, a1, c1, a2, c2, a3, c3, rfl, h1, h2, h3⟩ := h
  obtain ⟨ao, cap, rfl, hn, hc⟩ := hf
  cases hfb : (decide (0 ≤ f) && decide (f < (R.n : Int))) with
  | true =>
    have HFB : Hid _ := Lib.hid hfb
    clear hfb
    go_enter Try.func75, Try.ntmps75
    go_wp2_with (go_at_call 81; refine (mwithin_any _ _ _).mono ?_; rintro e w' ⟨rfl, rfl⟩; try rw [HFB.out])
    go_ret
    exact ⟨ret_bool (by simp only [inPlace, HFB.out, Bool.true_and]), ((below_alloc (Nat.le_refl _) _).alloc (by simp) _)⟩
  | false =>
    have HFB : Hid _ := Lib.hid hfb
    clear hfb
    go_enter Try.func75, Try.ntmps75
    go_wp2_with (go_at_call 81; refine (mwithin_any _ _ _).mono ?_; rintro e w' ⟨rfl, rfl⟩; try rw [HFB.out])
    go_ret
    exact ⟨ret_bool (by simp only [inPlace, HFB.out, Bool.false_and]), ((below_alloc (Nat.le_refl _) _).alloc (by simp) _)⟩

set_option maxHeartbeats 800000 in
theorem validMarks_any (N : Nat) (v : Value) (B : Bk) (w : World) (h : BookAt N w v B) :
    Calls Try.prog 87 #[v] w fun e w' => e = .returned (.bool (okMarks B)) ∧ Below w.heap.size w w' := by
  obtain ⟨hN, a1, c1, a2, c2, a3, c3, rfl, h1, h2, h3⟩ := h
  have hnv := h1.len
  have hnf := h2.len
  replace h1 := h1.mono (below_alloc hN (.cells #[.slice a1 B.nv c1, .slice a2 B.nf c2, .slice a3 B.ns c3, .int .i64 B.wr] 25)) (Nat.le_refl _)
  replace h2 := h2.mono (below_alloc hN (.cells #[.slice a1 B.nv c1, .slice a2 B.nf c2, .slice a3 B.ns c3, .int .i64 B.wr] 25)) (Nat.le_refl _)
  have HB : Hid (Below w.heap.size w (w.alloc (.cells #[.slice a1 B.nv c1, .slice a2 B.nf c2, .slice a3 B.ns c3, .int .i64 B.wr] 25))) := below_alloc (Nat.le_refl _) _
  by_cases h6 : B.nv ≤ 6
  · by_cases hfv : B.nf = B.nv
    · have h6' : (B.nv : Int) ≤ 6 := by omega
      have hE : ((B.nf : Int) != (B.nv : Int)) = false := by simp; omega
      have HF : Hid (B.nf = B.nv) := hfv
      have H6 : Hid (B.nv ≤ 6) := h6
      clear hfv h6
      go_enter Try.func87, Try.ntmps87
      go_wp2
      go_loop [21] (fun i => ∃ k : Nat, k ≤ B.nv ∧ i = .int .i64 k ∧ Hid (∀ j, j < k → (decide (1 ≤ B.V j) && decide (B.V j ≤ 5) && (decide (0 ≤ B.F j) && decide (B.F j < 2))) = true)) (fun i => B.nv - (intOf i).toNat)
      case atStart => exact ⟨0, Nat.zero_le _, rfl, fun j hj => absurd hj (Nat.not_lt_zero j)⟩
      case round =>
        obtain ⟨k, hk, rfl, hj⟩ := hrel
        by_cases hkn : k < B.nv
        · obtain ⟨_, _, e1, _, hc1⟩ := h1
          cases e1
          obtain ⟨b1, off1, rfl, _, hr1⟩ := hc1 (by omega)
          obtain ⟨r1, hcell1, rfl⟩ := hr1 k hkn
          obtain ⟨_, _, e2, _, hc2⟩ := h2
          cases e2
          obtain ⟨b2, off2, rfl, _, hr2⟩ := hc2 (by have := HF.out; omega)
          obtain ⟨r2, hcell2, rfl⟩ := hr2 k (by have := HF.out; omega)
          clear hr1 hc1 hr2 hc2
          have hkf : (k : Int) < (B.nf : Int) := by have := HF.out; omega
          have fin : Hid ((decide (1 ≤ B.V k) && decide (B.V k ≤ 5) && (decide (0 ≤ B.F k) && decide (B.F k < 2))) = false → okMarks B = false) := fun hf => by
            unfold okMarks; rw [allB_succ_false hkn hf, Bool.and_false]
          by_cases g1 : 1 ≤ B.V k
          · by_cases g2 : B.V k ≤ 5
            · cases hfb : (decide (0 ≤ B.F k) && decide (B.F k < 2)) with
              | true =>
                have HFB : Hid _ := Lib.hid hfb
                clear hfb
                go_wp2_with (first
                  | (go_at_call 81; refine (mwithin_any (B.F k) 2 _).mono ?_; rintro e w' ⟨rfl, rfl⟩; rw [HFB.out]))
                go_round
                case rel => exact ⟨k + 1, by omega, by go_num, lt_succ hj.out (by rw [HFB.out]; simp [g1, g2])⟩
                case measure => simp [intOf]; omega
              | false =>
                have HFB : Hid _ := Lib.hid hfb
                clear hfb
                go_wp2_with (first
                  | (go_at_call 81; refine (mwithin_any (B.F k) 2 _).mono ?_; rintro e w' ⟨rfl, rfl⟩; rw [HFB.out]))
                go_ret
                exact ⟨ret_bool (fin.out (by rw [HFB.out]; simp)).symm, HB.out⟩
            · have g2' : 5 < B.V k := by omega
              go_wp2
              go_ret
              exact ⟨ret_bool (fin.out (by have q : ¬ B.V k ≤ 5 := (by omega); simp [q])).symm, HB.out⟩
          · have g1' : B.V k < 1 := by omega
            go_wp2
            go_ret
            exact ⟨ret_bool (fin.out (by have q : ¬ 1 ≤ B.V k := (by omega); simp [q])).symm, HB.out⟩
        · have Hk : Hid (k = B.nv) := by show k = B.nv; omega
          go_wp2
          go_ret
          exact ⟨ret_bool (by unfold okMarks; rw [allB_true.2 (fun i hi => hj.out i (by rw [Hk.out]; exact hi))]; simp [HF.out, H6.out]), HB.out⟩
    · have h6' : (B.nv : Int) ≤ 6 := by omega
      have hE : ((B.nf : Int) != (B.nv : Int)) = true := by simp; omega
      have HF : Hid (B.nf ≠ B.nv) := hfv
      clear hfv
      go_enter Try.func87, Try.ntmps87
      go_wp2
      go_ret
      exact ⟨ret_bool (by simp [okMarks, HF.out]), HB.out⟩
  · have h6' : 6 < (B.nv : Int) := by omega
    have HF : Hid (¬ B.nv ≤ 6) := h6
    clear h6
    go_enter Try.func87, Try.ntmps87
    go_wp2
    go_ret
    exact ⟨ret_bool (by simp [okMarks, HF.out]), HB.out⟩

end Go.Proofs.Ytmmadlpkolcgkaa
