/-
  JKC: slices.Sort of a few numbers, slices.Clone.
  JKE: scores and how they are compared.
-/
import Derived.Test.YtffnlimgjnhmpaaJMem
namespace Go.Proofs.Ytffnlimgjnhmpaa
open Go.RowKit

/-- only the number's kind is of interest -/
def SomeI (w : World) (e : Ending) (w' : World) : Prop := ∃ m : Int, e = .returned (.int .i64 m) ∧ w' = w
set_option maxHeartbeats 1600000 in
set_option maxRecDepth 100000 in
theorem len64_any (k : Nat) (hk : k ≤ 5) (w : World) : Calls Try.prog 126 #[.int .u64 k] w (SomeI w) := by
  have h : k = 0 ∨ k = 1 ∨ k = 2 ∨ k = 3 ∨ k = 4 ∨ k = 5 := by omega
  rcases h with rfl | rfl | rfl | rfl | rfl | rfl
  all_goals
    go_enter Try.func126, Try.ntmps126
    go_wp2
    go_ret
    exact ⟨_, rfl, rfl⟩
set_option maxHeartbeats 800000 in
theorem len_any (k : Nat) (hk : k ≤ 5) (w : World) : Calls Try.prog 109 #[.int .u64 k] w (SomeI w) := by
  go_enter Try.func109, Try.ntmps109
  go_wp2_with (go_at_call 126; refine (len64_any k hk _).mono ?_; rintro e w1 ⟨m, rfl, hw1⟩; rw [hw1]; clear hw1)
  go_ret
  exact ⟨_, rfl, rfl⟩
set_option maxHeartbeats 400000 in
theorem isNaN_any (a : Int) (w : World) : Calls Try.prog 115 #[.int .i64 a] w fun e w' => e = .returned (.bool false) ∧ w' = w := by
  have h : (a != a) = false := by simp
  go_enter Try.func115, Try.ntmps115
  go_wp2
  go_ret
  exact ⟨rfl, rfl⟩
set_option maxHeartbeats 400000 in
theorem less_any (a b : Int) (w : World) : Calls Try.prog 122 #[.int .i64 a, .int .i64 b] w fun e w' => e = .returned (.bool (decide (a < b))) ∧ w' = w := by
  go_enter Try.func122, Try.ntmps122
  go_wp2_with (go_at_call 115; refine (isNaN_any _ _).mono ?_; rintro e w1 ⟨rfl, hw1⟩; rw [hw1]; clear hw1)
  go_ret
  exact ⟨rfl, rfl⟩

theorem less_eq (a b : Int) (v : Bool) (w : World) (h : decide (a < b) = v) : Calls Try.prog 122 #[.int .i64 a, .int .i64 b] w fun e w' => e = .returned (.bool v) ∧ w' = w := by
  rw [← h]; exact less_any a b w
/-- the first i + 1 are in order but for the one at j, which is not greater than those behind it -/
def Ins (i j : Nat) (L : List Int) : Prop := ∀ a b, a < b → b ≤ i → b ≠ j → L.getD a 0 ≤ L.getD b 0
/-- the first i are in order -/
def Ord (i : Nat) (L : List Int) : Prop := ∀ a b, a < b → b < i → L.getD a 0 ≤ L.getD b 0
theorem ins_start {i : Nat} {L : List Int} (h : Ord i L) : Ins i i L := fun a b h1 h2 h3 => h a b h1 (by omega)
theorem ins_swp {i j : Nat} {L : List Int} (h : Ins i (j + 1) L) (hj : j + 1 ≤ i) (hi : i < L.length) (hl : L.getD (j + 1) 0 < L.getD j 0) : Ins i j (swp L (j + 1) j) := by
  intro a b h1 h2 h3
  rw [swp_at (by omega) (by omega), swp_at (by omega) (by omega), if_neg h3]
  by_cases hb : b = j + 1
  · rw [if_pos hb]
    by_cases ha : a = j
    · rw [if_pos ha]; omega
    · rw [if_neg ha, if_neg (by omega)]
      exact h a j (by omega) (by omega) (by omega)
  · rw [if_neg hb]
    by_cases ha : a = j
    · rw [if_pos ha]; exact h (j + 1) b (by omega) h2 hb
    · rw [if_neg ha]
      by_cases ha2 : a = j + 1
      · rw [if_pos ha2]; exact h j b (by omega) h2 hb
      · rw [if_neg ha2]; exact h a b h1 h2 hb
theorem ins_zero {i : Nat} {L : List Int} (h : Ins i 0 L) : Ord (i + 1) L := fun a b h1 h2 => h a b h1 (by omega) (by omega)
theorem ins_stop {i j : Nat} {L : List Int} (h : Ins i (j + 1) L) (hj : j + 1 ≤ i) (hl : ¬ L.getD (j + 1) 0 < L.getD j 0) : Ord (i + 1) L := by
  intro a b h1 h2
  by_cases hb : b = j + 1
  · subst hb
    by_cases ha : a = j
    · subst ha; omega
    · have := h a j (by omega) (by omega) (by omega)
      omega
  · exact h a b h1 (by omega) hb
theorem ord_done {L M : List Int} (h : Ord L.length L) (hp : L.Perm M) : L = srt M := up_done (fun a b _ h2 h3 => h a b h2 h3) hp

set_option maxHeartbeats 6400000 in
set_option maxRecDepth 100000 in
theorem insOrd_any (lo : Nat) (v : Value) (l : List Int) (n : Nat) (w : World) (h : RI lo w v l) (hn : l.length = n) (hl : n ≤ 5) (hlo : lo ≤ w.heap.size) :
    Calls Try.prog 116 #[v, .int .i64 0, .int .i64 n] w fun e w' => (∃ r, e = .returned r) ∧ RI lo w' v (srt l) ∧ Below lo w w' := by
  obtain ⟨a1, c1, rfl⟩ := h.form
  rw [hn] at h ⊢
  have HR := Lib.hid h
  have HLN := Lib.hid hn
  clear h hn
  go_enter Try.func116, Try.ntmps116
  go_wp2_with fail
  go_loopw [6, 7] (fun i j wr => ∃ k : Nat, k ≤ n + 1 ∧ 1 ≤ k ∧ i = .int .i64 k ∧ Hid (∃ L, L.Perm l ∧ Ord (min k n) L ∧ RI lo wr (.slice a1 n c1) L ∧ Below lo w wr)) (fun i _ _ => n + 1 - (intOf i).toNat)
  case atStart => exact ⟨1, by omega, by omega, by go_num, l, List.Perm.refl _, fun a b h1 h2 => by omega, HR.out, Below.refl _ _⟩
  case round =>
    obtain ⟨k, hk, hk1, rfl, hI⟩ := hrel
    obtain ⟨L, hp, hu, hr, hb⟩ := hI
    have HL := Lib.hid (And.intro hp (And.intro hu (And.intro hr hb)))
    clear hp hu hr hb
    by_cases hkn : k < n
    · have hki : (k : Int) < (n : Int) := by omega
      go_wp2_with fail
      obtain ⟨wo, hwo⟩ : ∃ wo, wo = wr := ⟨_, rfl⟩
      subst hwo
      go_loopw [7] (fun j wr => ∃ m : Nat, m ≤ k ∧ j = .int .i64 m ∧ Hid (∃ L, L.Perm l ∧ Ins k m L ∧ RI lo wr (.slice a1 n c1) L ∧ Below lo w wr)) (fun j _ => (intOf j).toNat)
      case atStart => exact ⟨k, Nat.le_refl _, rfl, L, HL.out.1, ins_start (by have := HL.out.2.1; rw [Nat.min_eq_left (by omega)] at this; exact this), HL.out.2.2.1, HL.out.2.2.2⟩
      case round =>
        obtain ⟨m, hm, rfl, hI⟩ := hrel
        obtain ⟨M, hp, hs, hr, hb⟩ := hI
        have hlen : M.length = n := hp.length_eq.trans HLN.out
        by_cases hm0 : m = 0
        · have hmd : decide ((0 : Int) < (m : Int)) = false := decide_eq_false (by omega)
          have hmdn : decide (0 < m) = false := decide_eq_false (by omega)
          have HM := Lib.hid (And.intro hp (And.intro (ins_zero (hm0 ▸ hs)) (And.intro hr hb)))
          have hmi : ¬ (0 : Int) < (m : Int) := by omega
          clear hp hs hr hb hlen hm0
          go_wp2_with fail
          go_quiet (fail)
          go_wp2_with fail
          go_roundw
          case rel => exact ⟨k + 1, by omega, by omega, by go_num, M, HM.out.1, by rw [Nat.min_eq_left (by omega)]; exact HM.out.2.1, HM.out.2.2.1.keep fun _ _ _ _ => rfl, HM.out.2.2.2.trans (below_drewN (Below.refl _ _) _)⟩
          case measure => simp [intOf]; omega
        · obtain ⟨q, hqm⟩ : ∃ q, m = q + 1 := ⟨m - 1, by omega⟩
          obtain ⟨g, rfl, hq⟩ := hr.addr (by omega)
          clear hq
          obtain ⟨hgw, hlg, hcl, hfr, cur, hcur⟩ := hr.at (by omega)
          obtain ⟨x, hx⟩ : ∃ x, M.getD q 0 = x := ⟨_, rfl⟩
          obtain ⟨y, hy⟩ : ∃ y, M.getD m 0 = y := ⟨_, rfl⟩
          have cq := hcl q (by omega)
          have cm := hcl m (by omega)
          rw [hx] at cq
          rw [hy] at cm
          have fq := hfr q
          have fm := hfr m
          have HM := Lib.hid (And.intro hp (And.intro hs (And.intro hr hb)))
          have HXY := Lib.hid (And.intro hx hy)
          have HLE := Lib.hid hlen
          have HQM := Lib.hid hqm
          have hqi : (q : Int) < (n : Int) := by omega
          have hq0 : (0 : Int) ≤ (q : Int) := by omega
          have hmi : (m : Int) < (n : Int) := by omega
          have hqn : q < n := by omega
          have hmn : m < n := by omega
          have hpd : decide ((0 : Int) < (m : Int)) = true := decide_eq_true (by omega)
          have hpdn : decide (0 < m) = true := decide_eq_true (by omega)
          have hw1 : IntKind.i64.wrap ((m : Int) - 1) = (q : Int) := by rw [show (m : Int) - 1 = (q : Int) by omega]; exact IntWalk.i64_in _ (by omega)
          clear hp hs hr hb hx hy hlen hcl hfr hcur hm0 hqm
          by_cases hxy : y < x
          · have HXY2 := Lib.hid hxy
            have HLS : Hid (decide (y < x) = true) := decide_eq_true hxy
            clear hxy
            go_upto_region 4 with fail
            go_quiet ((go_at_call 122; exact Calls.quiet_of_same (less_eq _ _ _ _ HLS.out)))
            go_upto_region 6 with fail
            refine wp_region_held_drew (S := fun _ => True) (by kernel_rfl) trivial (fun hHeld => ?_)
            (refine wpAnyH_take (i := 0) (v := ?_) rfl (by kernel_rfl) (by kernel_rfl) (by kernel_rfl) (fun _ _ _ h => h) (Or.inl ⟨by rfl, ?_⟩) (by assumption) ?_; rotate_left; (focus (intro w hSw; (try dsimp only at hSw); go_simp; (try with_reducible rfl))); (try simp only [List.getElem_toArray, List.getElem_cons_zero, List.getElem_cons_succ, Act.put, List.setIfInBounds_toArray, List.set_cons_zero, List.set_cons_succ])); (refine wpAnyH_take (i := 1) (v := ?_) rfl (by kernel_rfl) (by kernel_rfl) (by kernel_rfl) (fun _ _ _ h => h) (Or.inl ⟨by rfl, ?_⟩) (by assumption) ?_; rotate_left; (focus (intro w hSw; (try dsimp only at hSw); go_simp; (try with_reducible rfl))); (try simp only [List.getElem_toArray, List.getElem_cons_zero, List.getElem_cons_succ, Act.put, List.setIfInBounds_toArray, List.set_cons_zero, List.set_cons_succ])); (refine wpAnyH_take (i := 2) (v := ?_) rfl (by kernel_rfl) (by kernel_rfl) (by kernel_rfl) (fun _ _ _ h => h) (Or.inl ⟨by rfl, ?_⟩) (by assumption) ?_; rotate_left; (focus (intro w hSw; (try dsimp only at hSw); go_simp; (try with_reducible rfl))); (try simp only [List.getElem_toArray, List.getElem_cons_zero, List.getElem_cons_succ, Act.put, List.setIfInBounds_toArray, List.set_cons_zero, List.set_cons_succ])); (refine wpAnyH_take (i := 3) (v := ?_) rfl (by kernel_rfl) (by kernel_rfl) (by kernel_rfl) (fun _ _ _ h => h) (Or.inl ⟨by rfl, ?_⟩) (by assumption) ?_; rotate_left; (focus (intro w hSw; (try dsimp only at hSw); go_simp; (try with_reducible rfl))); (try simp only [List.getElem_toArray, List.getElem_cons_zero, List.getElem_cons_succ, Act.put, List.setIfInBounds_toArray, List.set_cons_zero, List.set_cons_succ])); (refine wpAnyH_take (i := 4) (v := ?_) rfl (by kernel_rfl) (by kernel_rfl) (by kernel_rfl) (fun _ _ _ h => h) (Or.inl ⟨by rfl, ?_⟩) (by assumption) ?_; rotate_left; (focus (intro w hSw; (try dsimp only at hSw); go_simp; (try with_reducible rfl))); (try simp only [List.getElem_toArray, List.getElem_cons_zero, List.getElem_cons_succ, Act.put, List.setIfInBounds_toArray, List.set_cons_zero, List.set_cons_succ])); (refine wpAnyH_take (i := 5) (v := ?_) rfl (by kernel_rfl) (by kernel_rfl) (by kernel_rfl) (fun _ _ _ h => h) (Or.inl ⟨by rfl, ?_⟩) (by assumption) ?_; rotate_left; (focus (intro w hSw; (try dsimp only at hSw); go_simp; (try with_reducible rfl))); (try simp only [List.getElem_toArray, List.getElem_cons_zero, List.getElem_cons_succ, Act.put, List.setIfInBounds_toArray, List.set_cons_zero, List.set_cons_succ])); (refine wpAnyH_take (i := 6) (v := ?_) rfl (by kernel_rfl) (by kernel_rfl) (by kernel_rfl) (fun _ _ _ h => h) (Or.inl ⟨by rfl, ?_⟩) (by assumption) ?_; rotate_left; (focus (intro w hSw; (try dsimp only at hSw); go_simp; (try with_reducible rfl))); (try simp only [List.getElem_toArray, List.getElem_cons_zero, List.getElem_cons_succ, Act.put, List.setIfInBounds_toArray, List.set_cons_zero, List.set_cons_succ])); (refine wpAnyH_take (i := 7) (v := ?_) rfl (by kernel_rfl) (by kernel_rfl) (by kernel_rfl) (fun _ _ _ h => h) (Or.inl ⟨by rfl, ?_⟩) (by assumption) ?_; rotate_left; (focus (intro w hSw; (try dsimp only at hSw); go_simp; (try with_reducible rfl))); (try simp only [List.getElem_toArray, List.getElem_cons_zero, List.getElem_cons_succ, Act.put, List.setIfInBounds_toArray, List.set_cons_zero, List.set_cons_succ])); (refine wpAnyH_take (i := 8) (v := ?_) rfl (by kernel_rfl) (by kernel_rfl) (by kernel_rfl) (fun _ _ _ h => h) (Or.inl ⟨by rfl, ?_⟩) (by assumption) ?_; rotate_left; (focus (intro w hSw; (try dsimp only at hSw); go_simp; (try with_reducible rfl))); (try simp only [List.getElem_toArray, List.getElem_cons_zero, List.getElem_cons_succ, Act.put, List.setIfInBounds_toArray, List.set_cons_zero, List.set_cons_succ]))
            (refine wpAnyH_take (i := 10) (v := ?_) rfl (by kernel_rfl) (by kernel_rfl) (by kernel_rfl) (fun _ _ _ h => h) (Or.inl ⟨by rfl, ?_⟩) (by assumption) ?_; rotate_left; (focus (intro w hSw; (try dsimp only at hSw); go_simp; (try with_reducible rfl))); (try simp only [List.getElem_toArray, List.getElem_cons_zero, List.getElem_cons_succ, Act.put, List.setIfInBounds_toArray, List.set_cons_zero, List.set_cons_succ])); (refine wpAnyH_take (i := 11) (v := ?_) rfl (by kernel_rfl) (by kernel_rfl) (by kernel_rfl) (fun _ _ _ h => h) (Or.inl ⟨by rfl, ?_⟩) (by assumption) ?_; rotate_left; (focus (intro w hSw; (try dsimp only at hSw); go_simp; (try with_reducible rfl))); (try simp only [List.getElem_toArray, List.getElem_cons_zero, List.getElem_cons_succ, Act.put, List.setIfInBounds_toArray, List.set_cons_zero, List.set_cons_succ])); (refine wpAnyH_take (i := 12) (v := ?_) rfl (by kernel_rfl) (by kernel_rfl) (by kernel_rfl) (fun _ _ _ h => h) (Or.inl ⟨by rfl, ?_⟩) (by assumption) ?_; rotate_left; (focus (intro w hSw; (try dsimp only at hSw); go_simp; (try with_reducible rfl))); (try simp only [List.getElem_toArray, List.getElem_cons_zero, List.getElem_cons_succ, Act.put, List.setIfInBounds_toArray, List.set_cons_zero, List.set_cons_succ]))
            refine wpAnyH_ready (rs := [9, 13]) (by kernel_rfl) (by simp) ?_; refine AllReadyH.cons rfl (fun K hK => ?_) (AllReadyH.cons rfl (fun K hK => ?_) AllReadyH.nil)
            rotate_left
            ·
              go_simp
              refine hK.out _ _ trivial (fun hHeld => ?_)
              clear hK K
              (try simp only [List.getElem_toArray, List.getElem_cons_zero, List.getElem_cons_succ, Act.put, List.setIfInBounds_toArray, List.set_cons_zero, List.set_cons_succ])
              refine wpAnyH_ready (rs := [9]) (by kernel_rfl) (by simp) ?_; refine AllReadyH.cons rfl (fun K hK => ?_) AllReadyH.nil; go_simp
              go_simp
              refine hK.out _ _ trivial (fun hHeld => ?_)
              clear hK K
              (try simp only [List.getElem_toArray, List.getElem_cons_zero, List.getElem_cons_succ, Act.put, List.setIfInBounds_toArray, List.set_cons_zero, List.set_cons_succ])
              (refine wpAnyH_take (i := 14) (v := ?_) rfl (by kernel_rfl) (by kernel_rfl) (by kernel_rfl) (fun _ _ _ h => h) (Or.inl ⟨by rfl, ?_⟩) (by assumption) ?_; rotate_left; (focus (intro w hSw; (try dsimp only at hSw); go_simp; (try with_reducible rfl))); (try simp only [List.getElem_toArray, List.getElem_cons_zero, List.getElem_cons_succ, Act.put, List.setIfInBounds_toArray, List.set_cons_zero, List.set_cons_succ]))
              refine wpAnyH_ready (rs := [15]) (by kernel_rfl) (by simp) ?_; refine AllReadyH.cons rfl (fun K hK => ?_) AllReadyH.nil; go_simp
              go_simp
              obtain ⟨w5, hw5⟩ : ∃ w5, (wr.drewN (nq + 1)).setCell ⟨g, m, none⟩ (.int .i64 x) = w5 := ⟨_, rfl⟩
              rw [hw5]
              have HR5 : Hid (RI lo w5 (.slice (some ⟨g, 0, none⟩) n c1) (M.set m x)) := by rw [← hw5]; exact RI.set (HM.out.2.2.1.keep fun _ _ _ _ => rfl) (by have := HLE.out; omega) x
              have HB5 : Hid (Below lo w w5) := by rw [← hw5]; exact (HM.out.2.2.2.trans (below_drewN (Below.refl _ _) _)).setCell (p := ⟨g, m, none⟩) hlg _
              obtain ⟨hg5, _, hcl5, hfr5, cur5, hcur5⟩ := HR5.out.at (by have := HLE.out; simp; omega)
              have f5 := hfr5 q
              have c5 := hcl5 q (by have := HLE.out; simp; omega)
              clear hcl5 hfr5 hcur5 hw5 fm fq cq cm
              refine hK.out _ _ trivial (fun hHeld => ?_)
              clear hK K
              (try simp only [List.getElem_toArray, List.getElem_cons_zero, List.getElem_cons_succ, Act.put, List.setIfInBounds_toArray, List.set_cons_zero, List.set_cons_succ])
              (refine wpAnyH_take (i := 16) (v := ?_) rfl (by kernel_rfl) (by kernel_rfl) (by kernel_rfl) (fun _ _ _ h => h) (Or.inl ⟨by rfl, ?_⟩) (by assumption) ?_; rotate_left; (focus (intro w hSw; (try dsimp only at hSw); go_simp; (try with_reducible rfl))); (try simp only [List.getElem_toArray, List.getElem_cons_zero, List.getElem_cons_succ, Act.put, List.setIfInBounds_toArray, List.set_cons_zero, List.set_cons_succ]))
              refine wpAnyH_ready (rs := [17]) (by kernel_rfl) (by simp) ?_; refine AllReadyH.cons rfl (fun K hK => ?_) AllReadyH.nil; go_simp
              go_simp
              obtain ⟨w6, hw6⟩ : ∃ w6, w5.setCell ⟨g, q, none⟩ (.int .i64 y) = w6 := ⟨_, rfl⟩
              rw [hw6]
              have HR6 : Hid (RI lo w6 (.slice (some ⟨g, 0, none⟩) n c1) (swp M m q)) := by
                unfold swp
                rw [HXY.out.1, HXY.out.2, ← hw6]
                exact RI.set HR5.out (by have := HLE.out; simp; omega) y
              have HB6 : Hid (Below lo w w6) := by rw [← hw6]; exact HB5.out.setCell (p := ⟨g, q, none⟩) hlg _
              clear hw6 f5 c5
              refine hK.out _ _ trivial (fun hHeld => ?_)
              clear hK K
              (try simp only [List.getElem_toArray, List.getElem_cons_zero, List.getElem_cons_succ, Act.put, List.setIfInBounds_toArray, List.set_cons_zero, List.set_cons_succ])
              refine wpAnyH_done (by kernel_rfl) ?_ _; clear hHeld
              go_wp2
              go_roundw
              case rel => exact ⟨q, by have := HQM.out; omega, by first | rfl | go_num, swp M m q, (swp_perm (by have := HLE.out; omega) (by have := HLE.out; omega)).trans HM.out.1, by
                have e := HQM.out
                have h1 := HM.out.2.1
                have h2 := HXY2.out
                rw [← HXY.out.1, ← HXY.out.2] at h2
                rw [e] at h1 h2 ⊢
                exact ins_swp h1 (by omega) (by have := HLE.out; omega) h2, HR6.out, HB6.out⟩
              case measure => have := HQM.out; simp [intOf]; omega
            ·
              go_simp
              refine hK.out _ _ trivial (fun hHeld => ?_)
              clear hK K
              (try simp only [List.getElem_toArray, List.getElem_cons_zero, List.getElem_cons_succ, Act.put, List.setIfInBounds_toArray, List.set_cons_zero, List.set_cons_succ])
              refine wpAnyH_ready (rs := [13]) (by kernel_rfl) (by simp) ?_; refine AllReadyH.cons rfl (fun K hK => ?_) AllReadyH.nil; go_simp
              go_simp
              refine hK.out _ _ trivial (fun hHeld => ?_)
              clear hK K
              (try simp only [List.getElem_toArray, List.getElem_cons_zero, List.getElem_cons_succ, Act.put, List.setIfInBounds_toArray, List.set_cons_zero, List.set_cons_succ])
              (refine wpAnyH_take (i := 14) (v := ?_) rfl (by kernel_rfl) (by kernel_rfl) (by kernel_rfl) (fun _ _ _ h => h) (Or.inl ⟨by rfl, ?_⟩) (by assumption) ?_; rotate_left; (focus (intro w hSw; (try dsimp only at hSw); go_simp; (try with_reducible rfl))); (try simp only [List.getElem_toArray, List.getElem_cons_zero, List.getElem_cons_succ, Act.put, List.setIfInBounds_toArray, List.set_cons_zero, List.set_cons_succ]))
              refine wpAnyH_ready (rs := [15]) (by kernel_rfl) (by simp) ?_; refine AllReadyH.cons rfl (fun K hK => ?_) AllReadyH.nil; go_simp
              go_simp
              obtain ⟨w5, hw5⟩ : ∃ w5, (wr.drewN (nq + 1)).setCell ⟨g, m, none⟩ (.int .i64 x) = w5 := ⟨_, rfl⟩
              rw [hw5]
              have HR5 : Hid (RI lo w5 (.slice (some ⟨g, 0, none⟩) n c1) (M.set m x)) := by rw [← hw5]; exact RI.set (HM.out.2.2.1.keep fun _ _ _ _ => rfl) (by have := HLE.out; omega) x
              have HB5 : Hid (Below lo w w5) := by rw [← hw5]; exact (HM.out.2.2.2.trans (below_drewN (Below.refl _ _) _)).setCell (p := ⟨g, m, none⟩) hlg _
              obtain ⟨hg5, _, hcl5, hfr5, cur5, hcur5⟩ := HR5.out.at (by have := HLE.out; simp; omega)
              have f5 := hfr5 q
              have c5 := hcl5 q (by have := HLE.out; simp; omega)
              clear hcl5 hfr5 hcur5 hw5 fm fq cq cm
              refine hK.out _ _ trivial (fun hHeld => ?_)
              clear hK K
              (try simp only [List.getElem_toArray, List.getElem_cons_zero, List.getElem_cons_succ, Act.put, List.setIfInBounds_toArray, List.set_cons_zero, List.set_cons_succ])
              (refine wpAnyH_take (i := 16) (v := ?_) rfl (by kernel_rfl) (by kernel_rfl) (by kernel_rfl) (fun _ _ _ h => h) (Or.inl ⟨by rfl, ?_⟩) (by assumption) ?_; rotate_left; (focus (intro w hSw; (try dsimp only at hSw); go_simp; (try with_reducible rfl))); (try simp only [List.getElem_toArray, List.getElem_cons_zero, List.getElem_cons_succ, Act.put, List.setIfInBounds_toArray, List.set_cons_zero, List.set_cons_succ]))
              refine wpAnyH_ready (rs := [17]) (by kernel_rfl) (by simp) ?_; refine AllReadyH.cons rfl (fun K hK => ?_) AllReadyH.nil; go_simp
              go_simp
              obtain ⟨w6, hw6⟩ : ∃ w6, w5.setCell ⟨g, q, none⟩ (.int .i64 y) = w6 := ⟨_, rfl⟩
              rw [hw6]
              have HR6 : Hid (RI lo w6 (.slice (some ⟨g, 0, none⟩) n c1) (swp M m q)) := by
                unfold swp
                rw [HXY.out.1, HXY.out.2, ← hw6]
                exact RI.set HR5.out (by have := HLE.out; simp; omega) y
              have HB6 : Hid (Below lo w w6) := by rw [← hw6]; exact HB5.out.setCell (p := ⟨g, q, none⟩) hlg _
              clear hw6 f5 c5
              refine hK.out _ _ trivial (fun hHeld => ?_)
              clear hK K
              (try simp only [List.getElem_toArray, List.getElem_cons_zero, List.getElem_cons_succ, Act.put, List.setIfInBounds_toArray, List.set_cons_zero, List.set_cons_succ])
              refine wpAnyH_done (by kernel_rfl) ?_ _; clear hHeld
              go_wp2
              go_roundw
              case rel => exact ⟨q, by have := HQM.out; omega, by first | rfl | go_num, swp M m q, (swp_perm (by have := HLE.out; omega) (by have := HLE.out; omega)).trans HM.out.1, by
                have e := HQM.out
                have h1 := HM.out.2.1
                have h2 := HXY2.out
                rw [← HXY.out.1, ← HXY.out.2] at h2
                rw [e] at h1 h2 ⊢
                exact ins_swp h1 (by omega) (by have := HLE.out; omega) h2, HR6.out, HB6.out⟩
              case measure => have := HQM.out; simp [intOf]; omega
          · have HXY2 := Lib.hid hxy
            have HLS : Hid (decide (y < x) = false) := decide_eq_false hxy
            clear hxy
            go_upto_region 4 with fail
            go_quiet ((go_at_call 122; exact Calls.quiet_of_same (less_eq _ _ _ _ HLS.out)))
            go_wp2_with fail
            go_roundw
            case rel => exact ⟨k + 1, by omega, by omega, by go_num, M, HM.out.1, by
              rw [Nat.min_eq_left (by omega)]
              have e := HQM.out
              have h1 := HM.out.2.1
              have h2 := HXY2.out
              rw [← HXY.out.1, ← HXY.out.2] at h2
              rw [e] at h1 h2
              exact ins_stop h1 (by omega) (by omega), HM.out.2.2.1.keep fun _ _ _ _ => rfl, HM.out.2.2.2.trans (below_drewN (Below.refl _ _) _)⟩
            case measure => simp [intOf]; omega
    · have hki : ¬ (k : Int) < (n : Int) := by omega
      have hlen : L.length = n := HL.out.1.length_eq.trans HLN.out
      have HS : Hid (L = srt l) := ord_done (by have := HL.out.2.1; rw [Nat.min_eq_right (by omega)] at this; rw [hlen]; exact this) HL.out.1
      have HRS : Hid (RI lo wr (.slice a1 n c1) (srt l)) := HS.out ▸ HL.out.2.2.1
      have HBS := Lib.hid HL.out.2.2.2
      clear hlen
      go_wp2_with fail
      exact bodyPost_end (v := .tuple #[]) (by simp [results, Try.results116, go_sem]) rfl ⟨⟨_, rfl⟩, HRS.out, HBS.out⟩

set_option maxHeartbeats 1600000 in
set_option maxRecDepth 100000 in
theorem pdq_any (lo : Nat) (v : Value) (l : List Int) (n : Nat) (m : Int) (w : World) (h : RI lo w v l) (hn : l.length = n) (hl : n ≤ 5) (hlo : lo ≤ w.heap.size) :
    Calls Try.prog 108 #[v, .int .i64 0, .int .i64 n, .int .i64 m] w fun e w' => (∃ r, e = .returned r) ∧ RI lo w' v (srt l) ∧ Below lo w w' := by
  have HR := Lib.hid h
  have HLN := Lib.hid hn
  have HLO := Lib.hid hlo
  clear h hn hlo
  go_enter Try.func108, Try.ntmps108
  go_wp2_with fail
  refine wp_loop_rounds 1 ?_
  rw [rounds_succ]
  go_wp2_with (go_at_call 116; refine (insOrd_any lo _ l n _ HR.out HLN.out hl HLO.out).mono ?_; rintro e w1 ⟨⟨r, rfl⟩, hr1, hb1⟩)
  exact bodyPost_ret (v := .tuple #[]) (by simp [results, Try.results108, go_sem]) rfl ⟨⟨_, rfl⟩, hr1, hb1⟩

set_option maxHeartbeats 1600000 in
set_option maxRecDepth 100000 in
theorem sort_any (lo : Nat) (v : Value) (l : List Int) (w : World) (h : RI lo w v l) (hl : l.length ≤ 5) (hlo : lo ≤ w.heap.size) :
    Calls Try.prog 96 #[v] w fun e w' => (∃ r, e = .returned r) ∧ RI lo w' v (srt l) ∧ Below lo w w' := by
  obtain ⟨a1, c1, rfl⟩ := h.form
  obtain ⟨n, hn⟩ : ∃ n, l.length = n := ⟨_, rfl⟩
  rw [hn] at h hl ⊢
  have HR := Lib.hid h
  have HLN := Lib.hid hn
  have HLO := Lib.hid hlo
  clear h hn hlo
  go_enter Try.func96, Try.ntmps96
  go_wp2_with (first
    | (go_at_call 109; refine (len_any n hl _).mono ?_; rintro e w1 ⟨m, rfl, hw1⟩; rw [hw1]; clear hw1)
    | (go_at_call 108; refine (pdq_any lo _ l n _ _ HR.out HLN.out hl HLO.out).mono ?_; rintro e w1 ⟨⟨r, rfl⟩, hr1, hb1⟩))
  exact bodyPost_end (v := .tuple #[]) (by simp [results, Try.results96, go_sem]) rfl ⟨⟨_, rfl⟩, hr1, hb1⟩

set_option maxHeartbeats 1600000 in
set_option maxRecDepth 100000 in
theorem kcloneI_any (N : Nat) (v : Value) (l : List Int) (w : World) (h : LI N w v l) (hN : N ≤ w.heap.size) (hl : l.length ≤ 40) :
    Calls Try.prog 95 #[v] w fun e w' => ∃ v', e = .returned v' ∧ RI w.heap.size w' v' l ∧ Below w.heap.size w w' := by
  obtain ⟨ao, c, rfl⟩ := h.form
  obtain ⟨n, hn⟩ : ∃ n, l.length = n := ⟨_, rfl⟩
  rw [hn] at h hl ⊢
  have q22 : ∀ (w : World) (a : Option Addr) (n c n' c' : Nat), (binOp .eql 25 (.slice a n c) (.slice none n' c')).run Try.prog w = .ok (.bool a.isNone) w := fun w a n c n' c' => Lib.run_eql_slice_nil w _ _ a n c n' c' Try.underlying25
  cases ao with
  | none =>
    have h0 : l = [] := by
      rcases Nat.eq_zero_or_pos l.length with h0 | h0
      · exact List.length_eq_zero_iff.1 h0
      · obtain ⟨b, off, e, _⟩ := h.cell h0; cases e
    have H0 := Lib.hid h0
    clear h h0 hn
    go_enter Try.func95, Try.ntmps95
    go_wp2
    go_ret
    exact ⟨_, rfl, .inl ⟨H0.out, none, 0, rfl⟩, Below.refl _ _⟩
  | some ad =>
    have HLI := Lib.hid h
    have HLN := Lib.hid hn
    clear h hn
    go_enter Try.func95, Try.ntmps95
    go_wp2_with (at_builtin; go_must (refine wpList_cloneI _ rfl _ _ rfl rfl N w.heap.size _ n _ l HLN.out.symm rfl rfl (LI.go1 HLI.out hN) (by simp; omega) (by omega) ?_); intro v' w1 hi1 hb1)
    go_ret
    exact ⟨_, rfl, hi1.lower (by simp), (below_alloc (Nat.le_refl _) _).trans (hb1.mono (by simp))⟩

end Go.Proofs.Ytffnlimgjnhmpaa

namespace Go.Proofs.Ytffnlimgjnhmpaa
open Go.RowKit

def cmp3 (a b : Int) : Int := if a < b then -1 else if b < a then 1 else 0
set_option maxHeartbeats 800000 in
theorem compare_any (a b : Int) (w : World) : Calls Try.prog 107 #[.int .i64 a, .int .i64 b] w fun e w' => e = .returned (.int .i64 (cmp3 a b)) ∧ w' = w := by
  by_cases h1 : a < b
  · have HE : Hid (cmp3 a b = -1) := by unfold Hid cmp3; rw [if_pos h1]
    go_enter Try.func107, Try.ntmps107
    go_wp2_with (go_at_call 115; refine (isNaN_any _ _).mono ?_; rintro e w1 ⟨rfl, hw1⟩; rw [hw1]; clear hw1)
    go_ret
    exact ⟨ret_int HE.out.symm, rfl⟩
  · by_cases h2 : b < a
    · have HE : Hid (cmp3 a b = 1) := by unfold Hid cmp3; rw [if_neg h1, if_pos h2]
      go_enter Try.func107, Try.ntmps107
      go_wp2_with (go_at_call 115; refine (isNaN_any _ _).mono ?_; rintro e w1 ⟨rfl, hw1⟩; rw [hw1]; clear hw1)
      go_ret
      exact ⟨ret_int HE.out.symm, rfl⟩
    · have HE : Hid (cmp3 a b = 0) := by unfold Hid cmp3; rw [if_neg h1, if_neg h2]
      go_enter Try.func107, Try.ntmps107
      go_wp2_with (go_at_call 115; refine (isNaN_any _ _).mono ?_; rintro e w1 ⟨rfl, hw1⟩; rw [hw1]; clear hw1)
      go_ret
      exact ⟨ret_int HE.out.symm, rfl⟩

/-- the first of two that is not 0 -/
def or2 (a b : Int) : Int := if a = 0 then b else a
set_option maxHeartbeats 1600000 in
theorem or_any (g : Nat) (a b : Int) (w : World) (h0 : w.cell? ⟨g, 0, none⟩ = some (.int .i64 a)) (h1 : w.cell? ⟨g, 1, none⟩ = some (.int .i64 b)) :
    Calls Try.prog 106 #[.slice (some ⟨g, 0, none⟩) 2 2] w fun e w' => e = .returned (.int .i64 (or2 a b)) ∧ w' = w := by
  go_enter Try.func106, Try.ntmps106
  go_wp2_with fail
  go_loop [8] (fun i => (i = .int .i64 0) ∨ (i = .int .i64 1 ∧ Hid (a = 0)) ∨ (i = .int .i64 2 ∧ Hid (a = 0 ∧ b = 0))) (fun i => 2 - (intOf i).toNat)
  case atStart => exact .inl rfl
  case round =>
    rcases hrel with rfl | ⟨rfl, HA⟩ | ⟨rfl, HA⟩
    · by_cases ha : a = 0
      · have hb : (a != 0) = false := by simp [ha]
        have HA := Lib.hid ha
        clear ha
        go_wp2_with fail
        go_round
        case rel => exact .inr (.inl ⟨rfl, HA⟩)
        case measure => simp [intOf]
      · have hb : (a != 0) = true := by simp [ha]
        have HE : Hid (or2 a b = a) := if_neg ha
        clear ha
        go_wp2_with fail
        go_ret
        exact ⟨ret_int HE.out.symm, rfl⟩
    · by_cases hb0 : b = 0
      · have hb : (b != 0) = false := by simp [hb0]
        have HB := Lib.hid hb0
        clear hb0
        go_wp2_with fail
        go_round
        case rel => exact .inr (.inr ⟨rfl, HA.out, HB.out⟩)
        case measure => simp [intOf]
      · have hb : (b != 0) = true := by simp [hb0]
        have HE : Hid (or2 a b = b) := if_pos HA.out
        clear hb0
        go_wp2_with fail
        go_ret
        exact ⟨ret_int HE.out.symm, rfl⟩
    · have HE : Hid (or2 a b = 0) := by unfold Hid or2; rw [if_pos HA.out.1, HA.out.2]
      go_wp2_with fail
      go_ret
      exact ⟨ret_int HE.out.symm, rfl⟩

/-- is a score better than another one? -/
def scB (a s b z : Int) : Bool := decide (b < a) || (decide (a = b) && decide (z < s))
def scC (a s b z : Int) : Int := or2 (cmp3 a b) (cmp3 s z)
theorem scC_B (a s b z : Int) : decide (0 < scC a s b z) = scB a s b z := by
  unfold scC scB or2 cmp3
  rcases Int.lt_trichotomy a b with h | h | h
  · simp [h, show ¬ b < a by omega, show ¬ a = b by omega]
  · subst h
    rcases Int.lt_trichotomy s z with k | k | k
    · simp [k, show ¬ z < s by omega]
    · subst k; simp
    · simp [k, show ¬ s < z by omega]
  · simp [h, show ¬ a < b by omega]
theorem scC_neg (a s b z : Int) : decide (scC a s b z < 0) = scB b z a s := by
  unfold scC scB or2 cmp3
  rcases Int.lt_trichotomy a b with h | h | h
  · simp [h]
  · subst h
    rcases Int.lt_trichotomy s z with k | k | k
    · simp [k]
    · subst k; simp
    · simp [k, show ¬ s < z by omega]
  · simp [h, show ¬ a < b by omega, show ¬ b = a by omega]

set_option maxHeartbeats 3200000 in
set_option maxRecDepth 100000 in
theorem scompare_any (a s b z : Int) (w : World) : Calls Try.prog 94 #[.agg #[.int .i64 a, .int .i64 s], .agg #[.int .i64 b, .int .i64 z]] w fun e w' => e = .returned (.int .i64 (scC a s b z)) ∧ Below w.heap.size w w' := by
  obtain ⟨ws, hws, HB, hsz, hsz1, hblk, hblk1⟩ := box2 w (.cells #[.int .i64 a, .int .i64 s] 97) (.cells #[.int .i64 b, .int .i64 z] 97)
  have p0 := cell_blk hblk 0 rfl
  have p1 := cell_blk hblk 1 rfl
  have q0 := cell_blk hblk1 0 rfl
  have q1 := cell_blk hblk1 1 rfl
  clear hblk hblk1
  go_enter Try.func94, Try.ntmps94
  go_upto_region 1 with fail
  clear hws
  obtain ⟨wd, hwd⟩ : ∃ wd, ws.drew = wd := ⟨_, rfl⟩
  have HBd : Hid (Below ws.heap.size ws wd) := by rw [← hwd]; exact (Below.refl _ _).drew
  have S0 := old_of HBd.out
  refine wp_region_held_drew (S := fun w' => (∀ b o, b < ws.heap.size → w'.cell? ⟨b, o, none⟩ = ws.cell? ⟨b, o, none⟩) ∧ Hid (Below ws.heap.size ws w')) (by kernel_rfl) (by rw [hwd]; exact S0) (fun hHeld => ?_)
  rw [hwd]
  clear hwd
  (refine wpAnyH_take (i := 0) (v := ?_) rfl (by kernel_rfl) (by kernel_rfl) (by kernel_rfl) (fun _ _ _ h => h) (Or.inl ⟨by rfl, ?_⟩) (by assumption) ?_; rotate_left; (focus (intro w hSw; (try dsimp only at hSw); go_simp; (try with_reducible rfl))); (try simp only [List.getElem_toArray, List.getElem_cons_zero, List.getElem_cons_succ, Act.put, List.setIfInBounds_toArray, List.set_cons_zero, List.set_cons_succ])); (refine wpAnyH_take (i := 1) (v := ?_) rfl (by kernel_rfl) (by kernel_rfl) (by kernel_rfl) (fun _ _ _ h => h) (Or.inl ⟨by rfl, ?_⟩) (by assumption) ?_; rotate_left; (focus (intro w hSw; (try dsimp only at hSw); go_simp; (try with_reducible rfl))); (try simp only [List.getElem_toArray, List.getElem_cons_zero, List.getElem_cons_succ, Act.put, List.setIfInBounds_toArray, List.set_cons_zero, List.set_cons_succ])); (refine wpAnyH_take (i := 2) (v := ?_) rfl (by kernel_rfl) (by kernel_rfl) (by kernel_rfl) (fun _ _ _ h => h) (Or.inl ⟨by rfl, ?_⟩) (by assumption) ?_; rotate_left; (focus (intro w hSw; (try dsimp only at hSw); go_simp; (try with_reducible rfl))); (try simp only [List.getElem_toArray, List.getElem_cons_zero, List.getElem_cons_succ, Act.put, List.setIfInBounds_toArray, List.set_cons_zero, List.set_cons_succ])); (refine wpAnyH_take (i := 3) (v := ?_) rfl (by kernel_rfl) (by kernel_rfl) (by kernel_rfl) (fun _ _ _ h => h) (Or.inl ⟨by rfl, ?_⟩) (by assumption) ?_; rotate_left; (focus (intro w hSw; (try dsimp only at hSw); go_simp; (try with_reducible rfl))); (try simp only [List.getElem_toArray, List.getElem_cons_zero, List.getElem_cons_succ, Act.put, List.setIfInBounds_toArray, List.set_cons_zero, List.set_cons_succ]))
  (refine wpAnyH_take (i := 5) (v := ?_) rfl (by kernel_rfl) (by kernel_rfl) (by kernel_rfl) (fun _ _ _ h => h) (Or.inl ⟨by rfl, ?_⟩) (by assumption) ?_; rotate_left; (focus (intro w hSw; (try dsimp only at hSw); go_simp; (try with_reducible rfl))); (try simp only [List.getElem_toArray, List.getElem_cons_zero, List.getElem_cons_succ, Act.put, List.setIfInBounds_toArray, List.set_cons_zero, List.set_cons_succ])); (refine wpAnyH_take (i := 6) (v := ?_) rfl (by kernel_rfl) (by kernel_rfl) (by kernel_rfl) (fun _ _ _ h => h) (Or.inl ⟨by rfl, ?_⟩) (by assumption) ?_; rotate_left; (focus (intro w hSw; (try dsimp only at hSw); go_simp; (try with_reducible rfl))); (try simp only [List.getElem_toArray, List.getElem_cons_zero, List.getElem_cons_succ, Act.put, List.setIfInBounds_toArray, List.set_cons_zero, List.set_cons_succ])); (refine wpAnyH_take (i := 7) (v := ?_) rfl (by kernel_rfl) (by kernel_rfl) (by kernel_rfl) (fun _ _ _ h => h) (Or.inl ⟨by rfl, ?_⟩) (by assumption) ?_; rotate_left; (focus (intro w hSw; (try dsimp only at hSw); go_simp; (try with_reducible rfl))); (try simp only [List.getElem_toArray, List.getElem_cons_zero, List.getElem_cons_succ, Act.put, List.setIfInBounds_toArray, List.set_cons_zero, List.set_cons_succ])); (refine wpAnyH_take (i := 8) (v := ?_) rfl (by kernel_rfl) (by kernel_rfl) (by kernel_rfl) (fun _ _ _ h => h) (Or.inl ⟨by rfl, ?_⟩) (by assumption) ?_; rotate_left; (focus (intro w hSw; (try dsimp only at hSw); go_simp; (try with_reducible rfl))); (try simp only [List.getElem_toArray, List.getElem_cons_zero, List.getElem_cons_succ, Act.put, List.setIfInBounds_toArray, List.set_cons_zero, List.set_cons_succ]))
  refine wpAnyH_ready (rs := [4]) (by kernel_rfl) (by simp) ?_; refine AllReadyH.cons rfl (fun K hK => ?_) AllReadyH.nil; go_simp
  go_at_call 107
  refine (compare_any a b _).mono ?_
  rintro e w1 ⟨rfl, hw1⟩
  rw [hw1]
  clear hw1
  refine hK.out _ _ S0 (fun hHeld => ?_); clear hK K; (try simp only [List.getElem_toArray, List.getElem_cons_zero, List.getElem_cons_succ, Act.put, List.setIfInBounds_toArray, List.set_cons_zero, List.set_cons_succ])
  refine wpAnyH_ready (rs := [9]) (by kernel_rfl) (by simp) ?_; refine AllReadyH.cons rfl (fun K hK => ?_) AllReadyH.nil; go_simp
  go_at_call 107
  refine (compare_any s z _).mono ?_
  rintro e w2 ⟨rfl, hw2⟩
  rw [hw2]
  clear hw2
  refine hK.out _ _ S0 (fun hHeld => ?_); clear hK K; (try simp only [List.getElem_toArray, List.getElem_cons_zero, List.getElem_cons_succ, Act.put, List.setIfInBounds_toArray, List.set_cons_zero, List.set_cons_succ])
  obtain ⟨wb, hwb, HBb, hszb, hblkb⟩ := box1 wd (.cells #[.int .i64 (cmp3 a b), .int .i64 (cmp3 s z)] 3)
  have HB2 := Lib.hid (bel HBd.out HBb.out)
  have S2 := old_of HB2.out
  refine wpAnyH_ready (rs := [10]) (by kernel_rfl) (by simp) ?_; refine AllReadyH.cons rfl (fun K hK => ?_) AllReadyH.nil; go_simp
  (try rw [hwb])
  refine hK.out _ _ S2 (fun hHeld => ?_); clear hK K; (try simp only [List.getElem_toArray, List.getElem_cons_zero, List.getElem_cons_succ, Act.put, List.setIfInBounds_toArray, List.set_cons_zero, List.set_cons_succ])
  refine wpAnyH_ready (rs := [11]) (by kernel_rfl) (by simp) ?_; refine AllReadyH.cons rfl (fun K hK => ?_) AllReadyH.nil; go_simp
  go_at_call 106
  refine (or_any _ _ _ _ (cell_blk hblkb 0 rfl) (cell_blk hblkb 1 rfl)).mono ?_
  rintro e w3 ⟨rfl, hw3⟩
  rw [hw3]
  clear hw3
  refine hK.out _ _ S2 (fun hHeld => ?_); clear hK K; (try simp only [List.getElem_toArray, List.getElem_cons_zero, List.getElem_cons_succ, Act.put, List.setIfInBounds_toArray, List.set_cons_zero, List.set_cons_succ])
  (refine wpAnyH_take (i := 12) (v := ?_) rfl (by kernel_rfl) (by kernel_rfl) (by kernel_rfl) (fun _ _ _ h => h) (Or.inl ⟨by rfl, ?_⟩) (by assumption) ?_; rotate_left; (focus (intro w hSw; (try dsimp only at hSw); go_simp; (try with_reducible rfl))); (try simp only [List.getElem_toArray, List.getElem_cons_zero, List.getElem_cons_succ, Act.put, List.setIfInBounds_toArray, List.set_cons_zero, List.set_cons_succ]))
  refine wpAnyH_done (by kernel_rfl) ?_ _; clear hHeld
  clear S0 S2 hblkb hwb
  go_wp2_with fail
  go_ret
  exact ⟨rfl, fin HB.out HB2.out⟩

set_option maxHeartbeats 1600000 in
theorem sbetter_any (a s b z : Int) (w : World) : Calls Try.prog 85 #[.agg #[.int .i64 a, .int .i64 s], .agg #[.int .i64 b, .int .i64 z]] w fun e w' => e = .returned (.bool (scB a s b z)) ∧ Below w.heap.size w w' := by
  obtain ⟨ws, hws, HB, hsz, hsz1, hblk, hblk1⟩ := box2 w (.cells #[.int .i64 a, .int .i64 s] 97) (.cells #[.int .i64 b, .int .i64 z] 97)
  have p0 := cell_blk hblk 0 rfl
  have p1 := cell_blk hblk 1 rfl
  have q0 := cell_blk hblk1 0 rfl
  have q1 := cell_blk hblk1 1 rfl
  have HS := Lib.hid (scC_B a s b z)
  clear hblk hblk1
  go_enter Try.func85, Try.ntmps85
  go_wp2_with (go_at_call 94; refine (scompare_any a s b z _).mono ?_; rintro e w1 ⟨rfl, hb1⟩; have HB1 := Lib.hid hb1; clear hb1)
  go_ret
  exact ⟨ret_bool HS.out, fin HB.out HB1.out⟩

set_option maxHeartbeats 400000 in
theorem known_any (a b : Bool) (w : World) : Calls Try.prog 84 #[.bool a, .bool b] w fun e w' => e = .returned (.int .i64 (if a then 1 else if b then 3 else 2)) ∧ w' = w := by
  cases a <;> cases b
  all_goals
    go_enter Try.func84, Try.ntmps84
    go_wp2_with fail
    go_ret
    exact ⟨rfl, rfl⟩

end Go.Proofs.Ytffnlimgjnhmpaa
