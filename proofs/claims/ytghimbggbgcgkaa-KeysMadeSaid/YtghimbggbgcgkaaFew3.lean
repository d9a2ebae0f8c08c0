/-
  Few3: Few, Need, Apart of the reference.
-/
import Derived.Test.YtghimbggbgcgkaaFew2
namespace Go.Proofs.Ytghimbggbgcgkaa
open Go.RowKit

theorem shl_oneI {n : Nat} (hn : n ≤ 5) : IntKind.i64.wrap (2 ^ n) = ((2 ^ n : Nat) : Int) := by
  have key : ∀ n : Fin 6, IntKind.i64.wrap (2 ^ n.val) = ((2 ^ n.val : Nat) : Int) := by decide +kernel
  exact key ⟨n, by omega⟩

set_option maxRecDepth 100000 in
set_option maxHeartbeats 3200000 in
theorem rFew_any (N : Nat) (v : Value) (B : KB) (w : World) (h : BookAt N w v B) :
    Calls Try.prog 56 #[v] w fun e w' => e = .returned (.tuple #[.int .i64 (eFew B).1, .int .i64 (eFew B).2]) ∧ Below w.heap.size w w' := by
  have h' := h
  obtain ⟨_, a1, z1, a2, z2, a3, z3, rfl, _⟩ := h'
  obtain ⟨ws, hws, HB, hsz, hblk⟩ := box1 w (.cells #[.slice a1 B.nv z1, .slice a2 B.ns z2, .slice a3 B.D.n z3] 26)
  have q0 := cell_blk hblk 0 rfl
  have q1 := cell_blk hblk 1 rfl
  have q2 := cell_blk hblk 2 rfl
  have HBK := Lib.hid (h.go HB.out)
  have HB0 : Hid (Below ws.heap.size ws ws) := Below.refl _ _
  have HNS : Hid (N ≤ ws.heap.size) := HBK.out.1
  have hlens := h.lens
  obtain ⟨hlv, hls, hln⟩ := hlens
  clear hblk h
  cases hv : okKB B with
  | false =>
    have HA : Hid (eDiff B = 20) := by unfold Hid eDiff; rw [hv]; rfl
    have HE : Hid (eFew B = (0, 20)) := by unfold Hid eFew; rw [hv]; rfl
    clear hv
    go_enter Try.func56, Try.ntmps56
    go_wp2_with (go_at_call 96; go_must (refine (differ_any N _ B _ (HBK.out.go HB0.out)).mono ?_; rintro e w1 ⟨rfl, hb1⟩; rw [HA.out]; (try clear c0); have HB1 := Lib.hid (bel HB0.out hb1); have c1 := (old_of HB1.out).1; clear hb1))
    go_ret2
    exact ⟨by rw [HE.out]; rfl, fin HB.out HB1.out⟩
  | true =>
    cases hd : diffB B with
    | false =>
      have HA : Hid (eDiff B = 3) := by unfold Hid eDiff; rw [hv, hd]; rfl
      have HE : Hid (eFew B = (0, 3)) := by unfold Hid eFew; rw [hv, hd]; rfl
      clear hv hd
      go_enter Try.func56, Try.ntmps56
      go_wp2_with (go_at_call 96; go_must (refine (differ_any N _ B _ (HBK.out.go HB0.out)).mono ?_; rintro e w1 ⟨rfl, hb1⟩; rw [HA.out]; (try clear c0); have HB1 := Lib.hid (bel HB0.out hb1); have c1 := (old_of HB1.out).1; clear hb1))
      go_ret2
      exact ⟨by rw [HE.out]; rfl, fin HB.out HB1.out⟩
    | true =>
      have HA : Hid (eDiff B = 0) := by unfold Hid eDiff; rw [hv, hd]; rfl
      have hEE : eFew B = (((fewF (pairsL B B.ns) B.nv (2 ^ B.nv) : Nat) : Int), 0) := by unfold eFew; rw [hv, hd]; rfl
      have hnv5 := (goodB hv).nv
      have HG := Lib.hid (goodB hv)
      have hsl := shl_oneI hnv5
      have h32 : (2 : Nat) ^ B.nv ≤ 2 ^ 5 := Nat.pow_le_pow_right (by omega) hnv5
      obtain ⟨p2, hp2⟩ : ∃ p, (2 : Nat) ^ B.nv = p := ⟨_, rfl⟩
      rw [hp2] at hsl h32 hEE
      have HFW := Lib.hid (fewF_succ (pairsL B B.ns) B.nv)
      have HF0 : Hid (fewF (pairsL B B.ns) B.nv 0 = B.nv) := rfl
      obtain ⟨ff, hff⟩ : ∃ ff : Nat → Nat, fewF (pairsL B B.ns) B.nv = ff := ⟨_, rfl⟩
      rw [hff] at HFW HF0 hEE
      have HE := Lib.hid hEE
      clear hv hd hp2 hff hEE
      go_enter Try.func56, Try.ntmps56
      go_wp2_with (go_at_call 96; go_must (refine (differ_any N _ B _ (HBK.out.go HB0.out)).mono ?_; rintro e w1 ⟨rfl, hb1⟩; rw [HA.out]; (try clear c0); have HB1 := Lib.hid (bel HB0.out hb1); have c1 := (old_of HB1.out).1; clear hb1))
      clear hws
      go_loopw [5, 6] (fun a i wr => ∃ k : Nat, k ≤ p2 ∧ i = .int .i64 k ∧ a = .int .i64 (ff k : Nat) ∧ Hid (Below ws.heap.size ws wr)) (fun _ i _ => p2 - (intOf i).toNat)
      case atStart => exact ⟨0, Nat.zero_le _, rfl, by rw [HF0.out], HB1⟩
      case round =>
        clear c1
        obtain ⟨k, hk, rfl, rfl, HBr⟩ := hrel
        have cr := (old_of HBr.out).1
        have hszr := Nat.lt_of_lt_of_le hsz HBr.out.size
        by_cases hkp : k < p2
        · have hki : (k : Int) < (p2 : Int) := by omega
          have hk256 : k < 256 := by omega
          have HMK := Lib.hid (fun w' => rMany_any k hk256 w')
          have HF := Lib.hid (HFW.out k)
          have HKP := Lib.hid hkp
          cases ht : tellL (pairsL B B.ns) k with
          | true =>
            have HT := Lib.hid ht
            by_cases hm : many k < ff k
            · have hmi : ((many k : Nat) : Int) < ((ff k : Nat) : Int) := by omega
              have HE2 : Hid (ff (k + 1) = many k) := by unfold Hid; rw [HF.out, ht]; simp [hm]
              have HX : Hid (min ((ff k : Nat) : Int) ((many k : Nat) : Int) = ((ff (k + 1) : Nat) : Int)) := by unfold Hid; rw [HE2.out]; omega
              clear ht hkp hk hm
              go_wp2_with (first
                | (go_at_call 41; refine (areApart_any N _ B k _ (HBK.out.go HBr.out) HG.out hk256).mono ?_; rw [HT.out]; rintro e w3 ⟨rfl, hb3⟩; (try clear cr); have HB3 := Lib.hid (bel HBr.out hb3); have c3 := (old_of HB3.out).1; clear hb3)
                | (go_at_call 42; refine (HMK.out _).mono ?_; rintro e wq ⟨rfl, hwq⟩; rw [hwq]; clear hwq wq))
              go_roundw
              case rel => exact ⟨k + 1, HKP.out, by go_num, by first | (rw [HE2.out]; done) | (rw [HE2.out]; congr 1; omega), HB3⟩
              case measure => simp [intOf]; have := HKP.out; omega
            · have hmi : ¬ ((many k : Nat) : Int) < ((ff k : Nat) : Int) := by omega
              have HE2 : Hid (ff (k + 1) = ff k) := by unfold Hid; rw [HF.out]; simp [hm]
              clear ht hkp hk
              go_wp2_with (first
                | (go_at_call 41; refine (areApart_any N _ B k _ (HBK.out.go HBr.out) HG.out hk256).mono ?_; rw [HT.out]; rintro e w3 ⟨rfl, hb3⟩; (try clear cr); have HB3 := Lib.hid (bel HBr.out hb3); have c3 := (old_of HB3.out).1; clear hb3)
                | (go_at_call 42; refine (HMK.out _).mono ?_; rintro e wq ⟨rfl, hwq⟩; rw [hwq]; clear hwq wq))
              all_goals
                go_roundw
                case rel => exact ⟨k + 1, HKP.out, by go_num, by first | (rw [HE2.out]; done) | (rw [HE2.out]; congr 1; omega), HB3⟩
                case measure => simp [intOf]; have := HKP.out; omega
          | false =>
            have HT := Lib.hid ht
            have HE2 : Hid (ff (k + 1) = ff k) := by unfold Hid; rw [HF.out, ht]; simp
            clear ht hkp hk
            go_wp2_with (first
              | (go_at_call 41; refine (areApart_any N _ B k _ (HBK.out.go HBr.out) HG.out hk256).mono ?_; rw [HT.out]; rintro e w3 ⟨rfl, hb3⟩; (try clear cr); have HB3 := Lib.hid (bel HBr.out hb3); have c3 := (old_of HB3.out).1; clear hb3))
            go_roundw
            case rel => exact ⟨k + 1, HKP.out, by go_num, by rw [HE2.out], HB3⟩
            case measure => simp [intOf]; have := HKP.out; omega
        · have hki : ¬ (k : Int) < (p2 : Int) := by omega
          have HKE : Hid (k = p2) := by unfold Hid; omega
          go_wp2
          go_ret2
          exact ⟨by rw [HE.out, ← HKE.out]; rfl, fin HB.out HBr.out⟩

/-- Apart of the reference -/
theorem apart_same (B : KB) (s t : Nat) : ints (apartL B s t B.nv) = sel (apP B s t) B.nv := ints_apart B s t B.nv

set_option maxRecDepth 100000 in
set_option maxHeartbeats 3200000 in
theorem rApart_any (N : Nat) (v : Value) (B : KB) (s t : Int) (w : World) (h : BookAt N w v B) :
    Calls Try.prog 59 #[v, .int .i64 s, .int .i64 t] w (GivesIE w.heap.size w (eApart B s t).1 (eApart B s t).2) := by
  have h' := h
  obtain ⟨_, a1, z1, a2, z2, a3, z3, rfl, _⟩ := h'
  obtain ⟨ws, hws, HB, hsz, hblk⟩ := box1 w (.cells #[.slice a1 B.nv z1, .slice a2 B.ns z2, .slice a3 B.D.n z3] 26)
  have q0 := cell_blk hblk 0 rfl
  have q1 := cell_blk hblk 1 rfl
  have q2 := cell_blk hblk 2 rfl
  have HBK := Lib.hid (h.go HB.out)
  have HB0 : Hid (Below ws.heap.size ws ws) := Below.refl _ _
  have HNS : Hid (N ≤ ws.heap.size) := HBK.out.1
  have hlens := h.lens
  obtain ⟨hlv, hls, hln⟩ := hlens
  clear hblk h
  have S0d := old_of HB0.out.drew; have HB0d := S0d.2
  cases hs : (decide (0 ≤ s) && decide (s < B.ns)) with
  | false =>
    have HS := Lib.hid hs
    have HE : Hid (eApart B s t = ([], eAsk B false)) := by
      unfold Hid eApart eAsk; rw [hs]
      cases okKB B <;> rfl
    have HN0 : Hid (eAsk B false ≠ 0) := by unfold Hid eAsk; cases okKB B <;> simp
    obtain ⟨ea, hea⟩ : ∃ z, eAsk B false = z := ⟨_, rfl⟩
    rw [hea] at HE HN0
    have hne : (ea != 0) = true := by simpa using HN0.out
    have HEA := Lib.hid hea
    clear hs hea
    go_enter Try.func59, Try.ntmps59
    go_upto_region 1 with fail
    clear hws
    refine wp_region_held_drew (S := (fun w' => (∀ b o, b < ws.heap.size → w'.cell? ⟨b, o, none⟩ = ws.cell? ⟨b, o, none⟩) ∧ Hid (Below ws.heap.size ws w'))) (by kernel_rfl) S0d (fun hHeld => ?_)
    (refine wpAnyH_take (i := 0) (v := ?_) rfl (by kernel_rfl) (by kernel_rfl) (by kernel_rfl) (fun _ _ _ h => h) (Or.inl ⟨by rfl, ?_⟩) (by assumption) ?_; rotate_left; (focus (intro w hSw; (try dsimp only at hSw); go_simp; (try with_reducible rfl))); (try simp only [List.getElem_toArray, List.getElem_cons_zero, List.getElem_cons_succ, Act.put, List.setIfInBounds_toArray, List.set_cons_zero, List.set_cons_succ])); (refine wpAnyH_take (i := 1) (v := ?_) rfl (by kernel_rfl) (by kernel_rfl) (by kernel_rfl) (fun _ _ _ h => h) (Or.inl ⟨by rfl, ?_⟩) (by assumption) ?_; rotate_left; (focus (intro w hSw; (try dsimp only at hSw); go_simp; (try with_reducible rfl))); (try simp only [List.getElem_toArray, List.getElem_cons_zero, List.getElem_cons_succ, Act.put, List.setIfInBounds_toArray, List.set_cons_zero, List.set_cons_succ])); (refine wpAnyH_take (i := 2) (v := ?_) rfl (by kernel_rfl) (by kernel_rfl) (by kernel_rfl) (fun _ _ _ h => h) (Or.inl ⟨by rfl, ?_⟩) (by assumption) ?_; rotate_left; (focus (intro w hSw; (try dsimp only at hSw); go_simp; (try with_reducible rfl))); (try simp only [List.getElem_toArray, List.getElem_cons_zero, List.getElem_cons_succ, Act.put, List.setIfInBounds_toArray, List.set_cons_zero, List.set_cons_succ]))
    refine wpAnyH_ready (rs := [3]) (by kernel_rfl) (by simp) ?_; refine AllReadyH.cons rfl (fun K hK => ?_) AllReadyH.nil; go_simp
    go_at_call 39
    refine (isSort_eq N _ B s _ _ (HBK.out.go HB0d.out) HS.out).mono ?_
    rintro e w1 ⟨rfl, hb1⟩
    have S1 := old_of (bel HB0d.out hb1)
    have HB1 := S1.2
    clear hb1
    refine hK.out _ _ S1 (fun hHeld => ?_); clear hK K; (try simp only [List.getElem_toArray, List.getElem_cons_zero, List.getElem_cons_succ, Act.put, List.setIfInBounds_toArray, List.set_cons_zero, List.set_cons_succ])
    (refine wpAnyH_take (i := 4) (v := ?_) rfl (by kernel_rfl) (by kernel_rfl) (by kernel_rfl) (fun _ _ _ h => h) (Or.inl ⟨by rfl, ?_⟩) (by assumption) ?_; rotate_left; (focus (intro w hSw; (try dsimp only at hSw); go_simp; (try with_reducible rfl))); (try simp only [List.getElem_toArray, List.getElem_cons_zero, List.getElem_cons_succ, Act.put, List.setIfInBounds_toArray, List.set_cons_zero, List.set_cons_succ]))
    (refine wpAnyH_take (i := 5) (v := undef) rfl (by kernel_rfl) (by kernel_rfl) (by kernel_rfl) (fun _ _ _ h => h) (Or.inr ⟨by rfl, rfl⟩) (by assumption) ?_; (try simp only [List.getElem_toArray, List.getElem_cons_zero, List.getElem_cons_succ, Act.put, List.setIfInBounds_toArray, List.set_cons_zero, List.set_cons_succ])); (refine wpAnyH_take (i := 6) (v := undef) rfl (by kernel_rfl) (by kernel_rfl) (by kernel_rfl) (fun _ _ _ h => h) (Or.inr ⟨by rfl, rfl⟩) (by assumption) ?_; (try simp only [List.getElem_toArray, List.getElem_cons_zero, List.getElem_cons_succ, Act.put, List.setIfInBounds_toArray, List.set_cons_zero, List.set_cons_succ])); (refine wpAnyH_take (i := 7) (v := undef) rfl (by kernel_rfl) (by kernel_rfl) (by kernel_rfl) (fun _ _ _ h => h) (Or.inr ⟨by rfl, rfl⟩) (by assumption) ?_; (try simp only [List.getElem_toArray, List.getElem_cons_zero, List.getElem_cons_succ, Act.put, List.setIfInBounds_toArray, List.set_cons_zero, List.set_cons_succ]))
    (refine wpAnyH_take (i := 8) (v := ?_) rfl (by kernel_rfl) (by kernel_rfl) (by kernel_rfl) (fun _ _ _ h => h) (Or.inl ⟨by rfl, ?_⟩) (by assumption) ?_; rotate_left; (focus (intro w hSw; (try dsimp only at hSw); go_simp; (try with_reducible rfl))); (try simp only [List.getElem_toArray, List.getElem_cons_zero, List.getElem_cons_succ, Act.put, List.setIfInBounds_toArray, List.set_cons_zero, List.set_cons_succ]))
    refine wpAnyH_ready (rs := [9]) (by kernel_rfl) (by simp) ?_; refine AllReadyH.cons rfl (fun K hK => ?_) AllReadyH.nil; go_simp
    go_at_call 94
    refine (ask_any N _ B false _ (HBK.out.go HB1.out)).mono ?_
    rintro e w2 ⟨rfl, hb2⟩
    rw [HEA.out]
    have S2 := old_of (bel HB1.out hb2)
    have HB2 := S2.2
    clear hb2 S1
    refine hK.out _ _ S2 (fun hHeld => ?_); clear hK K; (try simp only [List.getElem_toArray, List.getElem_cons_zero, List.getElem_cons_succ, Act.put, List.setIfInBounds_toArray, List.set_cons_zero, List.set_cons_succ])
    (refine wpAnyH_take (i := 10) (v := ?_) rfl (by kernel_rfl) (by kernel_rfl) (by kernel_rfl) (fun _ _ _ h => h) (Or.inl ⟨by rfl, ?_⟩) (by assumption) ?_; rotate_left; (focus (intro w hSw; (try dsimp only at hSw); go_simp; (try with_reducible rfl))); (try simp only [List.getElem_toArray, List.getElem_cons_zero, List.getElem_cons_succ, Act.put, List.setIfInBounds_toArray, List.set_cons_zero, List.set_cons_succ]))
    refine wpAnyH_done (by kernel_rfl) ?_ _; clear hHeld
    go_wp2
    go_ret2
    exact ⟨.slice none 0 0, by rw [HE.out]; rfl, by rw [HE.out]; exact own_nil _ _, fin HB.out HB2.out⟩
  | true =>
    have HS := Lib.hid hs
    obtain ⟨bt, hbt⟩ : ∃ bt : Bool, (decide (0 ≤ t) && decide (t < B.ns)) = bt := ⟨_, rfl⟩
    have HT := Lib.hid hbt
    by_cases hg : okKB B = true ∧ bt = true
    · obtain ⟨hv, ht⟩ := hg
      subst ht
      obtain ⟨s', rfl⟩ : ∃ s' : Nat, s = s' := ⟨s.toNat, by simp at hs; omega⟩
      obtain ⟨t', rfl⟩ : ∃ t' : Nat, t = t' := ⟨t.toNat, by simp at hbt; omega⟩
      have hsn : s' < B.ns := by simp at hs; exact hs
      have htn : t' < B.ns := by simp at hbt; exact hbt
      have HG := Lib.hid (goodB hv)
      have HEA : Hid (eAsk B true = 0) := by unfold Hid eAsk; rw [hv]; rfl
      have HE : Hid (eApart B s' t' = (sel (apP B s' t') B.nv, 0)) := by unfold Hid eApart; rw [hv, hs, hbt]; rfl
      clear hs hbt hv
      go_enter Try.func59, Try.ntmps59
      go_wp2
      clear hws
      go_region_held3 (fun w' => (∀ b o, b < ws.heap.size → w'.cell? ⟨b, o, none⟩ = ws.cell? ⟨b, o, none⟩) ∧ Hid (Below ws.heap.size ws w')) (assumption) (first
        | (go_at_call 39; refine (isSort_eq N _ B s' _ _ (HBK.out.go HB0d.out) HS.out).mono ?_; rintro e w1 ⟨rfl, hb1⟩; clear HS; have S1 := old_of (bel HB0d.out hb1); have HB1 := S1.2; clear hb1)
        | (go_at_call 39; refine (isSort_eq N _ B t' _ _ (HBK.out.go HB1.out) HT.out).mono ?_; rintro e w2 ⟨rfl, hb2⟩; have S2 := old_of (bel HB1.out hb2); have HB2 := S2.2; clear hb2)
        | (go_at_call 94; refine (ask_any N _ B true _ (HBK.out.go HB2.out)).mono ?_; rintro e w3 ⟨rfl, hb3⟩; rw [HEA.out]; have S3 := old_of (bel HB2.out hb3); have HB3 := S3.2; clear hb3))
      have HB3 := S3.2; have c3 := S3.1; clear S3 S0d
      go_wp2_with (go_at_call 92; go_must (refine (apartOf_any N _ B s' t' _ (HBK.out.go HB3.out) HG.out hsn htn).mono ?_; rintro e w4 ⟨v4, rfl, ho4, hb4⟩; rw [apart_same] at ho4; have HO4 := Lib.hid ho4; clear ho4; (try clear c3); have HB4 := Lib.hid (bel HB3.out hb4); have c4 := (old_of HB4.out).1; clear hb4))
      go_ret2
      exact ⟨v4, by rw [HE.out]; rfl, by rw [HE.out]; exact own_mono HO4.out (Nat.le_trans HB.out.size HB3.out.size), fin HB.out HB4.out⟩
    · have HE : Hid (eApart B s t = ([], eAsk B bt)) := by
        unfold Hid eApart eAsk; rw [hs, hbt]
        cases ho : okKB B with
        | false => rfl
        | true => cases hb : bt with
          | false => rfl
          | true => exact absurd ⟨ho, hb⟩ hg
      have HN0 : Hid (eAsk B bt ≠ 0) := by
        unfold Hid eAsk
        cases ho : okKB B with
        | false => simp
        | true => cases hb : bt with
          | false => simp
          | true => exact absurd ⟨ho, hb⟩ hg
      obtain ⟨ea, hea⟩ : ∃ z, eAsk B bt = z := ⟨_, rfl⟩
      rw [hea] at HE HN0
      have hne : (ea != 0) = true := by simpa using HN0.out
      have HEA := Lib.hid hea
      clear hs hbt hg hea
      go_enter Try.func59, Try.ntmps59
      go_wp2
      clear hws
      go_region_held3 (fun w' => (∀ b o, b < ws.heap.size → w'.cell? ⟨b, o, none⟩ = ws.cell? ⟨b, o, none⟩) ∧ Hid (Below ws.heap.size ws w')) (assumption) (first
        | (go_at_call 39; refine (isSort_eq N _ B s _ _ (HBK.out.go HB0d.out) HS.out).mono ?_; rintro e w1 ⟨rfl, hb1⟩; clear HS; have S1 := old_of (bel HB0d.out hb1); have HB1 := S1.2; clear hb1)
        | (go_at_call 39; refine (isSort_eq N _ B t _ _ (HBK.out.go HB1.out) HT.out).mono ?_; rintro e w2 ⟨rfl, hb2⟩; have S2 := old_of (bel HB1.out hb2); have HB2 := S2.2; clear hb2)
        | (go_at_call 94; refine (ask_any N _ B bt _ (HBK.out.go HB2.out)).mono ?_; rintro e w3 ⟨rfl, hb3⟩; rw [HEA.out]; have S3 := old_of (bel HB2.out hb3); have HB3 := S3.2; clear hb3))
      have HB3 := S3.2; have c3 := S3.1; clear S3 S0d
      go_wp2
      go_ret2
      exact ⟨.slice none 0 0, by rw [HE.out]; rfl, by rw [HE.out]; exact own_nil _ _, fin HB.out HB3.out⟩

end Go.Proofs.Ytghimbggbgcgkaa
