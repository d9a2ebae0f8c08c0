/-
  Ref1: what the reference calls a valid list.
-/
import Derived.Test.YtnnngbnimmcjiaaWeak
namespace Go.Proofs.Ytnnngbnimmcjiaa
open Go.RowKit

theorem le_pred (n : Int) (m : Nat) : (decide (0 ≤ n) && decide (n ≤ (m : Int) - 1)) = (decide (0 ≤ n) && decide (n < (m : Int))) := by
  by_cases h : n < (m : Int)
  · have : n ≤ (m : Int) - 1 := by omega
    simp [h, this]
  · have : ¬ n ≤ (m : Int) - 1 := by omega
    simp [h, this]

set_option maxHeartbeats 800000 in
theorem isSort_any (N : Nat) (v : Value) (B : SB) (n : Int) (w : World) (h : BookAt N w v B) :
    Calls Try.prog 23 #[v, .int .i64 n] w fun e w' => e = .returned (.bool (decide (0 ≤ n) && decide (n < B.ns))) ∧ Below w.heap.size w w' := by
  have h' := h
  obtain ⟨_, a1, z1, a2, z2, a3, z3, rfl, _⟩ := h'
  obtain ⟨ws, hws, HB, hsz, hblk⟩ := box1 w (.cells #[.slice a1 B.ns z1, .slice a2 B.ng z2, .slice a3 B.nw z3] 26)
  have q0 := cell_blk hblk 0 rfl
  have q1 := cell_blk hblk 1 rfl
  have q2 := cell_blk hblk 2 rfl
  have HBK := Lib.hid (h.go HB.out)
  have HB0 : Hid (Below ws.heap.size ws ws) := Below.refl _ _
  have HNS : Hid (N ≤ ws.heap.size) := HBK.out.1
  have hlens := h.lens
  obtain ⟨hlv, hls, hln⟩ := hlens
  clear hblk h
  go_enter Try.func23, Try.ntmps23
  go_wp2_with (go_at_call 60; refine (rwithin_eq _ _ _ _ _ (le_pred n B.ns)).mono ?_; rintro e w' ⟨rfl, rfl⟩)
  go_ret
  exact ⟨rfl, HB.out⟩
set_option maxHeartbeats 800000 in
theorem isGarden_any (N : Nat) (v : Value) (B : SB) (n : Int) (w : World) (h : BookAt N w v B) :
    Calls Try.prog 24 #[v, .int .i64 n] w fun e w' => e = .returned (.bool (decide (0 ≤ n) && decide (n < B.ng))) ∧ Below w.heap.size w w' := by
  have h' := h
  obtain ⟨_, a1, z1, a2, z2, a3, z3, rfl, _⟩ := h'
  obtain ⟨ws, hws, HB, hsz, hblk⟩ := box1 w (.cells #[.slice a1 B.ns z1, .slice a2 B.ng z2, .slice a3 B.nw z3] 26)
  have q0 := cell_blk hblk 0 rfl
  have q1 := cell_blk hblk 1 rfl
  have q2 := cell_blk hblk 2 rfl
  have HBK := Lib.hid (h.go HB.out)
  have HB0 : Hid (Below ws.heap.size ws ws) := Below.refl _ _
  have HNS : Hid (N ≤ ws.heap.size) := HBK.out.1
  have hlens := h.lens
  obtain ⟨hlv, hls, hln⟩ := hlens
  clear hblk h
  go_enter Try.func24, Try.ntmps24
  go_wp2_with (go_at_call 60; refine (rwithin_eq _ _ _ _ _ (le_pred n B.ng)).mono ?_; rintro e w' ⟨rfl, rfl⟩)
  go_ret
  exact ⟨rfl, HB.out⟩
theorem le3 (n : Int) : (decide (0 ≤ n) && decide (n ≤ 3)) = (decide (0 ≤ n) && decide (n < 4)) := by
  by_cases h : n < 4
  · have : n ≤ 3 := by omega
    simp [h, this]
  · have : ¬ n ≤ 3 := by omega
    simp [h, this]
set_option maxHeartbeats 800000 in
theorem isFrost_any (n : Int) (w : World) :
    Calls Try.prog 27 #[.int .i64 n] w fun e w' => e = .returned (.bool (decide (0 ≤ n) && decide (n < 4))) ∧ w' = w := by
  go_enter Try.func27, Try.ntmps27
  go_wp2_with (go_at_call 60; refine (rwithin_eq _ _ _ _ _ (le3 n)).mono ?_; rintro e w' ⟨rfl, rfl⟩)
  go_ret
  exact ⟨rfl, rfl⟩
theorem isFrost_eq (n : Int) (r : Bool) (w : World) (h : (decide (0 ≤ n) && decide (n < 4)) = r) :
    Calls Try.prog 27 #[.int .i64 n] w fun e w' => e = .returned (.bool r) ∧ w' = w := by
  subst h; exact isFrost_any n w
theorem isSort_eq (N : Nat) (v : Value) (B : SB) (n : Int) (r : Bool) (w : World) (h : BookAt N w v B) (hr : (decide (0 ≤ n) && decide (n < (B.ns : Int))) = r) :
    Calls Try.prog 23 #[v, .int .i64 n] w fun e w' => e = .returned (.bool r) ∧ Below w.heap.size w w' := by
  subst hr; exact isSort_any N v B n w h
theorem isGarden_eq (N : Nat) (v : Value) (B : SB) (n : Int) (r : Bool) (w : World) (h : BookAt N w v B) (hr : (decide (0 ≤ n) && decide (n < (B.ng : Int))) = r) :
    Calls Try.prog 24 #[v, .int .i64 n] w fun e w' => e = .returned (.bool r) ∧ Below w.heap.size w w' := by
  subst hr; exact isGarden_any N v B n w h

set_option maxRecDepth 100000 in
set_option maxHeartbeats 6400000 in
theorem isList_any (N : Nat) (v : Value) (B : SB) (w : World) (h : BookAt N w v B) :
    Calls Try.prog 66 #[v, .int .i64 4] w fun e w' => e = .returned (.bool (okL B)) ∧ Below w.heap.size w w' := by
  have h' := h
  obtain ⟨_, a1, z1, a2, z2, a3, z3, rfl, _⟩ := h'
  obtain ⟨ws, hws, HB, hsz, hblk⟩ := box1 w (.cells #[.slice a1 B.ns z1, .slice a2 B.ng z2, .slice a3 B.nw z3] 26)
  have q0 := cell_blk hblk 0 rfl
  have q1 := cell_blk hblk 1 rfl
  have q2 := cell_blk hblk 2 rfl
  have HBK := Lib.hid (h.go HB.out)
  have HB0 : Hid (Below ws.heap.size ws ws) := Below.refl _ _
  have HNS : Hid (N ≤ ws.heap.size) := HBK.out.1
  have hlens := h.lens
  obtain ⟨hlv, hls, hln⟩ := hlens
  clear hblk h
  by_cases h1 : B.ns ≤ 4
  case neg =>
    have g1 : (4 : Int) < B.ns := by omega
    have H : Hid (okL B = false) := by unfold Hid okL okP near; rw [decide_eq_false h1]; rfl
    clear h1
    go_enter Try.func66, Try.ntmps66
    go_wp2
    go_ret
    exact ⟨ret_bool H.out.symm, HB.out⟩
  have g1 : (B.ns : Int) ≤ 4 := by omega
  by_cases h2 : B.ng ≤ 5
  case neg =>
    have g2 : (5 : Int) < B.ng := by omega
    have H : Hid (okL B = false) := by unfold Hid okL okP near; rw [decide_eq_false h2]; simp
    clear h1 h2
    go_enter Try.func66, Try.ntmps66
    go_wp2
    go_ret
    exact ⟨ret_bool H.out.symm, HB.out⟩
  have g2 : (B.ng : Int) ≤ 5 := by omega
  by_cases h3 : B.nw ≤ 12
  case neg =>
    have g3 : (12 : Int) < B.nw := by omega
    have H : Hid (okL B = false) := by unfold Hid okL okP near; rw [decide_eq_false h3]; simp
    clear h1 h2 h3
    go_enter Try.func66, Try.ntmps66
    go_wp2
    go_ret
    exact ⟨ret_bool H.out.symm, HB.out⟩
  have g3 : (B.nw : Int) ≤ 12 := by omega
  have HNR : Hid (okL B = (okC B && okG B 4 && okW B)) := by unfold Hid okL okP near; rw [decide_eq_true h1, decide_eq_true h2, decide_eq_true h3]; rfl
  have HF1 : Hid (∀ k, k < B.ns → (decide (0 ≤ B.C k) && decide (B.C k ≤ 4)) = false → okL B = false) := fun k hk hf => by rw [HNR.out]; unfold okC; rw [allB_succ_false hk hf]; rfl
  have HF2 : Hid (∀ k, k < B.ng → okGd 4 (B.P k) (B.F k) = false → okL B = false) := fun k hk hf => by rw [HNR.out]; unfold okG; rw [allB_succ_false hk hf]; simp
  have HF3 : Hid (∀ k, k < B.nw → okW1 B k = false → okL B = false) := fun k hk hf => by rw [HNR.out]; unfold okW; rw [allB_succ_false hk hf]; simp
  clear h1 h2 h3
  have l1 : decide ((4 : Int) < (B.ns : Int)) = false := decide_eq_false (by omega)
  have l2 : decide ((5 : Int) < (B.ng : Int)) = false := decide_eq_false (by omega)
  have l3 : decide ((12 : Int) < (B.nw : Int)) = false := decide_eq_false (by omega)
  go_enter Try.func66, Try.ntmps66
  go_wp2
  clear hws
  go_loop [5] (fun i => ∃ k : Nat, k ≤ B.ns ∧ i = .int .i64 k ∧ Hid (∀ j, j < k → (decide (0 ≤ B.C j) && decide (B.C j ≤ 4)) = true)) (fun i => B.ns - (intOf i).toNat)
  case atStart => exact ⟨0, Nat.zero_le _, rfl, fun j hj => absurd hj (Nat.not_lt_zero j)⟩
  case round =>
    obtain ⟨k, hk, rfl, hj⟩ := hrel
    by_cases hkn : k < B.ns
    · obtain ⟨b, off, rfl, _, hr⟩ := (HBK.out.go HB0.out).scions.cells (by omega)
      have hcell := hr k hkn
      clear hr
      cases hfb : (decide (0 ≤ B.C k) && decide (B.C k ≤ 4)) with
      | true =>
        have HFB := Lib.hid hfb
        clear hfb
        go_wp2_with (go_at_call 60; refine (rwithin_eq _ _ _ _ _ HFB.out).mono ?_; rintro e w' ⟨rfl, rfl⟩)
        go_round
        case rel => exact ⟨k + 1, by omega, by go_num, lt_succ hj.out HFB.out⟩
        case measure => simp [intOf]; omega
      | false =>
        have HFB := Lib.hid hfb
        clear hfb
        go_wp2_with (go_at_call 60; refine (rwithin_eq _ _ _ _ _ HFB.out).mono ?_; rintro e w' ⟨rfl, rfl⟩)
        go_ret
        exact ⟨ret_bool (HF1.out k hkn HFB.out).symm, HB.out⟩
    · have HC1 : Hid (okC B = true) := allB_true.2 fun i hi => hj.out i (by omega)
      go_wp2
      go_loopw [6] (fun i wr => ∃ k : Nat, k ≤ B.ng ∧ i = .int .i64 k ∧ Hid (∀ j, j < k → okGd 4 (B.P j) (B.F j) = true) ∧ Hid (Below ws.heap.size ws wr)) (fun i _ => B.ng - (intOf i).toNat)
      case atStart => exact ⟨0, Nat.zero_le _, rfl, fun j hj => absurd hj (Nat.not_lt_zero j), HB0⟩
      case round =>
        obtain ⟨k, hk, rfl, hj, HBr⟩ := hrel
        have cr := (old_of HBr.out).1
        by_cases hkn : k < B.ng
        · obtain ⟨b, off, rfl, hbN, hr⟩ := (HBK.out.go HBr.out).gardens.cells (by omega)
          obtain ⟨c0, c1⟩ := hr k hkn
          obtain ⟨wv, hwv, HBv, hszv, hblkv⟩ := box1 wr (.cells #[.int .i64 (B.P k), .int .i64 (B.F k)] 49)
          have p0 := cell_blk hblkv 0 rfl
          have p1 := cell_blk hblkv 1 rfl
          have HBq := Lib.hid (bel HBr.out HBv.out)
          clear hr hblkv cr
          have r1 := (HBr.out.cell (p := ⟨w.heap.size, 1, none⟩) hsz).trans q1
          cases hfb : (decide (0 ≤ B.P k) && decide (B.P k ≤ 4)) with
          | false =>
            have HFB := Lib.hid hfb
            have HO := Lib.hid (HF2.out k hkn (by unfold okGd; rw [show ((4 : Nat) : Int) = 4 from rfl, hfb]; rfl))
            clear hfb
            go_wp2_with (go_at_call 60; refine (rwithin_eq _ _ _ _ _ HFB.out).mono ?_; rintro e w' ⟨rfl, rfl⟩)
            go_ret
            exact ⟨ret_bool HO.out.symm, fin HB.out HBq.out⟩
          | true =>
            cases hf4 : (decide (0 ≤ B.F k) && decide (B.F k < 4)) with
            | false =>
              have HFB := Lib.hid hfb
              have HF4 := Lib.hid hf4
              have HO := Lib.hid (HF2.out k hkn (by unfold okGd; rw [hf4]; simp))
              clear hfb hf4
              go_wp2_with (first
                | (go_at_call 60; refine (rwithin_eq _ _ _ _ _ HFB.out).mono ?_; rintro e w' ⟨rfl, rfl⟩)
                | (go_at_call 27; refine (isFrost_eq _ _ _ HF4.out).mono ?_; rintro e w' ⟨rfl, rfl⟩))
              go_ret
              exact ⟨ret_bool HO.out.symm, fin HB.out HBq.out⟩
            | true =>
              have HFB := Lib.hid hfb
              have HF4 := Lib.hid hf4
              have HO : Hid (okGd 4 (B.P k) (B.F k) = true) := by unfold Hid okGd; rw [show ((4 : Nat) : Int) = 4 from rfl, hfb, hf4]; rfl
              clear hfb hf4
              go_wp2_with (first
                | (go_at_call 60; refine (rwithin_eq _ _ _ _ _ HFB.out).mono ?_; rintro e w' ⟨rfl, rfl⟩)
                | (go_at_call 27; refine (isFrost_eq _ _ _ HF4.out).mono ?_; rintro e w' ⟨rfl, rfl⟩))
              go_roundw
              case rel => exact ⟨k + 1, by omega, by go_num, lt_succ hj.out HO.out, HBq⟩
              case measure => simp [intOf]; omega
        · have HC2 : Hid (okG B 4 = true) := allB_true.2 fun i hi => hj.out i (by omega)
          obtain ⟨wo, hwo⟩ : ∃ wo, wo = wr := ⟨_, rfl⟩
          subst hwo
          have HBo := HBr
          have r1 := (HBr.out.cell (p := ⟨w.heap.size, 1, none⟩) hsz).trans q1
          have r2 := (HBr.out.cell (p := ⟨w.heap.size, 2, none⟩) hsz).trans q2
          clear cr
          go_wp2
          go_loopw [8] (fun i wr => ∃ k : Nat, k ≤ B.nw ∧ i = .int .i64 k ∧ Hid (∀ j, j < k → okW1 B j = true) ∧ Hid (Below ws.heap.size ws wr)) (fun i _ => B.nw - (intOf i).toNat)
          case atStart => exact ⟨0, Nat.zero_le _, rfl, fun j hj => absurd hj (Nat.not_lt_zero j), HBo⟩
          case round =>
            obtain ⟨k, hk, rfl, hj, HBr⟩ := hrel
            by_cases hkn : k < B.nw
            · obtain ⟨b, off, rfl, hbN, hr⟩ := (HBK.out.go HBr.out).wants.cells (by omega)
              obtain ⟨c0, c1⟩ := hr k hkn
              have r2 := (HBr.out.cell (p := ⟨w.heap.size, 2, none⟩) hsz).trans q2
              have r0 := (HBr.out.cell (p := ⟨w.heap.size, 0, none⟩) hsz).trans q0
              have r1 := (HBr.out.cell (p := ⟨w.heap.size, 1, none⟩) hsz).trans q1
              obtain ⟨wv, hwv, HBv, hszv, hblkv⟩ := box1 wr (.cells #[.int .i64 (B.G k), .int .i64 (B.S k)] 43)
              have p0 := cell_blk hblkv 0 rfl
              have p1 := cell_blk hblkv 1 rfl
              have HBq := Lib.hid (bel HBr.out HBv.out)
              have v0 := (HBq.out.cell (p := ⟨w.heap.size, 0, none⟩) hsz).trans q0
              have v1 := (HBq.out.cell (p := ⟨w.heap.size, 1, none⟩) hsz).trans q1
              have v2 := (HBq.out.cell (p := ⟨w.heap.size, 2, none⟩) hsz).trans q2
              have HVB := Lib.hid hblkv
              have hszvr : wr.heap.size < wv.heap.size := hszv
              clear hr hblkv
              cases gg : (decide (0 ≤ B.G k) && decide (B.G k < (B.ng : Int))) with
              | false =>
                have GG := Lib.hid gg
                have HO := Lib.hid (HF3.out k hkn (by unfold okW1; rw [gg]; rfl))
                clear gg
                go_wp2_with (go_at_call 24; refine (isGarden_eq N _ B _ _ _ (HBK.out.go HBq.out) GG.out).mono ?_; rintro e w5 ⟨rfl, hb5⟩)
                go_ret
                exact ⟨ret_bool HO.out.symm, fin HB.out (bel HBq.out hb5)⟩
              | true =>
                have GG := Lib.hid gg
                cases gs : (decide (0 ≤ B.S k) && decide (B.S k < (B.ns : Int))) with
                | false =>
                  have GS := Lib.hid gs
                  have HO := Lib.hid (HF3.out k hkn (by unfold okW1; rw [gg, gs]; rfl))
                  clear gg gs
                  go_wp2_with (first
                    | (go_at_call 24; refine (isGarden_eq N _ B _ _ _ (HBK.out.go HBq.out) GG.out).mono ?_; rintro e w5 ⟨rfl, hb5⟩; have HB5 := Lib.hid (bel HBq.out hb5); have t0 := (HB5.out.cell (p := ⟨w.heap.size, 0, none⟩) hsz).trans q0; have t1 := (HB5.out.cell (p := ⟨w.heap.size, 1, none⟩) hsz).trans q1; have t2 := (HB5.out.cell (p := ⟨w.heap.size, 2, none⟩) hsz).trans q2; have s1 := (hb5.cell (p := ⟨wr.heap.size, 1, none⟩) hszvr).trans p1; clear hb5)
                    | (go_at_call 23; refine (isSort_eq N _ B _ _ _ (HBK.out.go HB5.out) GS.out).mono ?_; rintro e w6 ⟨rfl, hb6⟩))
                  go_ret
                  exact ⟨ret_bool HO.out.symm, fin HB.out (bel HB5.out hb6)⟩
                | true =>
                  have GS := Lib.hid gs
                  have HOK : Hid (okW1 B k = !twice B k) := by unfold Hid okW1; rw [gg, gs]; rfl
                  clear gg gs
                  go_wp2_with (first
                    | (go_at_call 24; refine (isGarden_eq N _ B _ _ _ (HBK.out.go HBq.out) GG.out).mono ?_; rintro e w5 ⟨rfl, hb5⟩; have HB5 := Lib.hid (bel HBq.out hb5); have t0 := (HB5.out.cell (p := ⟨w.heap.size, 0, none⟩) hsz).trans q0; have t1 := (HB5.out.cell (p := ⟨w.heap.size, 1, none⟩) hsz).trans q1; have t2 := (HB5.out.cell (p := ⟨w.heap.size, 2, none⟩) hsz).trans q2; have s1 := (hb5.cell (p := ⟨wr.heap.size, 1, none⟩) hszvr).trans p1; clear hb5)
                    | (go_at_call 23; refine (isSort_eq N _ B _ _ _ (HBK.out.go HB5.out) GS.out).mono ?_; rintro e w6 ⟨rfl, hb6⟩; have HB6 := Lib.hid (bel HB5.out hb6); clear hb6))
                  clear r0 r1 r2 v0 v1 v2 p0 p1 t0 t1 t2 s1 c0 c1
                  obtain ⟨wo6, hwo6⟩ : ∃ wo6, wo6 = w6 := ⟨_, rfl⟩
                  subst hwo6
                  go_loopw [10] (fun i wi => ∃ m : Nat, m ≤ k ∧ i = .int .i64 m ∧ Hid (∀ j, j < m → (decide (B.G j = B.G k) && decide (B.S j = B.S k)) = false) ∧ Hid (Drawn wo6 wi)) (fun i _ => k - (intOf i).toNat)
                  case atStart => exact ⟨0, Nat.zero_le _, rfl, fun j hj => absurd hj (Nat.not_lt_zero j), Drawn.refl _⟩
                  case round =>
                    obtain ⟨m, hm, rfl, hjm, HD⟩ := hrel
                    have HBi : Hid (Below ws.heap.size ws wr) := bel HB6.out (HD.out.below _)
                    by_cases hmk : m < k
                    · have hmi : (m : Int) < (k : Int) := by omega
                      obtain ⟨b', off', e', _, hr⟩ := (HBK.out.go HBi.out).wants.cells (by omega)
                      cases e'
                      obtain ⟨c0, c1⟩ := hr m (by omega)
                      obtain ⟨d0, d1⟩ := hr k hkn
                      have r2 := (HBi.out.cell (p := ⟨w.heap.size, 2, none⟩) hsz).trans q2
                      have hmw : (m : Int) < (B.nw : Int) := by omega
                      have hkw : (k : Int) < (B.nw : Int) := by omega
                      clear hr
                      cases hxy : (decide (B.G m = B.G k) && decide (B.S m = B.S k)) with
                      | true =>
                        have HO := Lib.hid (HF3.out k hkn (by rw [HOK.out]; unfold twice; rw [anyB_true.2 ⟨m, hmk, hxy⟩]; rfl))
                        have heq : ∀ w, (Op.equalIn 10000 43 (.agg #[.int .i64 (B.G m), .int .i64 (B.S m)]) (.agg #[.int .i64 (B.G k), .int .i64 (B.S k)])).run Try.prog w = .ok true w := fun w => by rw [eqWant, ← hxy]
                        clear hxy
                        go_wp2
                        go_quiet (fail)
                        go_wp2
                        go_ret
                        exact ⟨ret_bool HO.out.symm, fin HB.out (below_drewN HBi.out _)⟩
                      | false =>
                        have HX : Hid ((decide (B.G m = B.G k) && decide (B.S m = B.S k)) = false) := Lib.hid hxy
                        have heq : ∀ w, (Op.equalIn 10000 43 (.agg #[.int .i64 (B.G m), .int .i64 (B.S m)]) (.agg #[.int .i64 (B.G k), .int .i64 (B.S k)])).run Try.prog w = .ok false w := fun w => by rw [eqWant, ← hxy]
                        clear hxy
                        go_wp2
                        go_quiet (fail)
                        go_wp2
                        go_roundw
                        case rel => exact ⟨m + 1, by omega, by go_num, lt_succ hjm.out HX.out, HD.out.more _⟩
                        case measure => simp [intOf]; omega
                    · have HO : Hid (okW1 B k = true) := by unfold Hid; rw [HOK.out]; unfold twice; rw [anyB_false.2 fun i hi => hjm.out i (by omega)]; rfl
                      have hmi : ¬ (m : Int) < (k : Int) := by omega
                      go_wp2
                      go_roundw
                      case rel => exact ⟨k + 1, by omega, by go_num, lt_succ hj.out HO.out, HBi⟩
                      case measure => simp [intOf]; omega
            · have HC3 : Hid (okW B = true) := allB_true.2 fun i hi => hj.out i (by omega)
              have r2 := (HBr.out.cell (p := ⟨w.heap.size, 2, none⟩) hsz).trans q2
              have hmi : ¬ (k : Int) < (B.nw : Int) := by omega
              go_wp2
              go_ret
              exact ⟨ret_bool (by rw [HNR.out, HC1.out, HC2.out, HC3.out]; rfl), fin HB.out HBr.out⟩

set_option maxHeartbeats 800000 in
theorem rCheck_any (N : Nat) (v : Value) (B : SB) (w : World) (h : BookAt N w v B) :
    Calls Try.prog 35 #[v] w fun e w' => e = .returned (.int .i64 (if okL B then 0 else 60)) ∧ Below w.heap.size w w' := by
  have h' := h
  obtain ⟨_, a1, z1, a2, z2, a3, z3, rfl, _⟩ := h'
  obtain ⟨ws, hws, HB, hsz, hblk⟩ := box1 w (.cells #[.slice a1 B.ns z1, .slice a2 B.ng z2, .slice a3 B.nw z3] 26)
  have q0 := cell_blk hblk 0 rfl
  have q1 := cell_blk hblk 1 rfl
  have q2 := cell_blk hblk 2 rfl
  have HBK := Lib.hid (h.go HB.out)
  have HB0 : Hid (Below ws.heap.size ws ws) := Below.refl _ _
  have HNS : Hid (N ≤ ws.heap.size) := HBK.out.1
  have hlens := h.lens
  obtain ⟨hlv, hls, hln⟩ := hlens
  clear hblk h
  cases hv : okL B with
  | true =>
    have HV := Lib.hid hv
    clear hv
    go_enter Try.func35, Try.ntmps35
    go_wp2_with (go_at_call 66; refine (isList_any N _ B _ (HBK.out.go HB0.out)).mono ?_; rw [HV.out]; rintro e w1 ⟨rfl, hb1⟩)
    go_ret
    exact ⟨rfl, fin HB.out hb1⟩
  | false =>
    have HV := Lib.hid hv
    clear hv
    go_enter Try.func35, Try.ntmps35
    go_wp2_with (go_at_call 66; refine (isList_any N _ B _ (HBK.out.go HB0.out)).mono ?_; rw [HV.out]; rintro e w1 ⟨rfl, hb1⟩)
    go_ret
    exact ⟨rfl, fin HB.out hb1⟩

theorem rask_any (N : Nat) (v : Value) (B : SB) (is : Bool) (w : World) (h : BookAt N w v B) :
    Calls Try.prog 67 #[v, .bool is] w fun e w' => e = .returned (.int .i64 (errA (okL B) is)) ∧ Below w.heap.size w w' := by
  have h' := h
  obtain ⟨_, a1, z1, a2, z2, a3, z3, rfl, _⟩ := h'
  obtain ⟨ws, hws, HB, hsz, hblk⟩ := box1 w (.cells #[.slice a1 B.ns z1, .slice a2 B.ng z2, .slice a3 B.nw z3] 26)
  have q0 := cell_blk hblk 0 rfl
  have q1 := cell_blk hblk 1 rfl
  have q2 := cell_blk hblk 2 rfl
  have HBK := Lib.hid (h.go HB.out)
  have HB0 : Hid (Below ws.heap.size ws ws) := Below.refl _ _
  have HNS : Hid (N ≤ ws.heap.size) := HBK.out.1
  have hlens := h.lens
  obtain ⟨hlv, hls, hln⟩ := hlens
  clear hblk h
  cases hv : okL B with
  | false =>
    have HV := Lib.hid hv
    clear hv
    go_enter Try.func67, Try.ntmps67
    go_wp2_with (go_at_call 35; refine (rCheck_any N _ B _ (HBK.out.go HB0.out)).mono ?_; rw [HV.out]; rintro e w1 ⟨rfl, hb1⟩)
    go_ret
    exact ⟨rfl, fin HB.out hb1⟩
  | true =>
    have HV := Lib.hid hv
    clear hv
    cases is with
    | true =>
      go_enter Try.func67, Try.ntmps67
      go_wp2_with (go_at_call 35; refine (rCheck_any N _ B _ (HBK.out.go HB0.out)).mono ?_; rw [HV.out]; rintro e w1 ⟨rfl, hb1⟩)
      go_ret
      exact ⟨rfl, fin HB.out hb1⟩
    | false =>
      go_enter Try.func67, Try.ntmps67
      go_wp2_with (go_at_call 35; refine (rCheck_any N _ B _ (HBK.out.go HB0.out)).mono ?_; rw [HV.out]; rintro e w1 ⟨rfl, hb1⟩)
      go_ret
      exact ⟨rfl, fin HB.out hb1⟩

end Go.Proofs.Ytnnngbnimmcjiaa
