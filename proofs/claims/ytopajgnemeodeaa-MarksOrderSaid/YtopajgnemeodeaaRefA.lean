/-
  The chapter's own counts: unlike, ofMark, WrongOf, Wrong, Fewest, and what is known.
-/
import Derived.Test.YtopajgnemeodeaaPure1
import Derived.Test.YtopajgnemeodeaaMarks
import Derived.Deep.RegionHeld3
namespace Go.Proofs.Ytopajgnemeodeaa
open Go.RowKit

theorem bad_hit {R : Fr} {m k : Nat} {r : Nat → Int → Bool} (h : R.X k m ≠ -1) (h2 : r k (R.X k m) = false) : bad R m r (k + 1) = bad R m r k + 1 := cnt_hit (by simp [h, h2])
theorem bad_miss {R : Fr} {m k : Nat} {r : Nat → Int → Bool} (h : R.X k m = -1 ∨ r k (R.X k m) = true) : bad R m r (k + 1) = bad R m r k := cnt_miss (by rcases h with h | h <;> simp [h])

set_option maxHeartbeats 400000 in
theorem unlike_any (N : Nat) (u : Value) (R : Fr) (m : Nat) (x : Int) (w : World) (hf : FruitsAt N w u R) (hL : ∀ f, f < R.n → m < R.L f) :
    Calls Try.prog 100 #[u, .int .i64 m, .int .i64 x] w fun e w' => e = .returned (.int .i64 (unl R m x)) ∧ w' = w := by
  obtain ⟨ao, cap, rfl, hn, hc⟩ := hf
  have HL : Hid _ := Lib.hid hL
  have HC : Hid _ := Lib.hid hc
  clear hL hc
  go_enter Try.func100, Try.ntmps100
  go_wp2
  go_loop [7, 8] (fun t i => ∃ k : Nat, k ≤ R.n ∧ i = .int .i64 k ∧ t = .int .i64 (bad R m (fun _ v => decide (v = x)) k)) (fun _ i => R.n - (intOf i).toNat)
  case atStart => exact ⟨0, Nat.zero_le _, rfl, rfl⟩
  case round =>
    obtain ⟨k, hk, rfl, rfl⟩ := hrel
    have hle := bad_le R m (fun _ v => decide (v = x)) k
    by_cases hkn : k < R.n
    · obtain ⟨b, off, rfl, _, hr⟩ := HC.out (by omega)
      obtain ⟨r, hcell, a2, c2, rfl, hn2, hc2⟩ := hr k hkn
      have hmL := HL.out k hkn
      obtain ⟨b2, off2, rfl, _, hr2⟩ := hc2 (by omega)
      obtain ⟨r2, hcell2, rfl⟩ := hr2 m hmL
      have hmi : (m : Int) < (R.L k : Int) := by omega
      clear hr hc2 hr2
      by_cases h1 : R.X k m = -1
      · have HB : Hid (bad R m (fun _ v => decide (v = x)) (k + 1) = bad R m (fun _ v => decide (v = x)) k) := bad_miss (.inl h1)
        have e1 : (R.X k m != -1) = false := by simp [h1]
        clear h1
        generalize bad R m (fun _ v => decide (v = x)) k = c at *
        go_wp2
        go_round
        case rel => exact ⟨k + 1, by omega, by go_num, by rw [HB.out]⟩
        case measure => simp [intOf]; omega
      · have e1 : (R.X k m != -1) = true := by simp [h1]
        by_cases h2 : R.X k m = x
        · have HB : Hid (bad R m (fun _ v => decide (v = x)) (k + 1) = bad R m (fun _ v => decide (v = x)) k) := bad_miss (.inr (by simp [h2]))
          have e2 : (R.X k m != x) = false := by simp [h2]
          clear h1 h2
          generalize bad R m (fun _ v => decide (v = x)) k = c at *
          go_wp2
          go_round
          case rel => exact ⟨k + 1, by omega, by go_num, by rw [HB.out]⟩
          case measure => simp [intOf]; omega
        · have HB : Hid (bad R m (fun _ v => decide (v = x)) (k + 1) = bad R m (fun _ v => decide (v = x)) k + 1) := bad_hit h1 (by simp [h2])
          have e2 : (R.X k m != x) = true := by simp [h2]
          clear h1 h2
          generalize bad R m (fun _ v => decide (v = x)) k = c at *
          go_wp2
          go_round
          case rel => exact ⟨k + 1, by omega, by go_num, by rw [HB.out]; go_num⟩
          case measure => simp [intOf]; omega
    · obtain rfl : k = R.n := by omega
      go_wp2
      go_ret
      exact ⟨rfl, rfl⟩

set_option maxHeartbeats 1000000 in
theorem ofMark_any (N M : Nat) (v u cv : Value) (B : Bk) (R : Fr) (m n : Nat) (c : Nat → Int) (w : World) (h : BookAt N w v B) (hf : FruitsAt N w u R) (hi : IntsAt M w cv n c) (hM : M ≤ w.heap.size) (hm : m < B.nf) (hL : ∀ f, f < R.n → m < R.L f) :
    Calls Try.prog 90 #[v, u, .int .i64 m, cv] w fun e w' => e = .returned (.int .i64 (ofm B R m n c)) ∧ Below w.heap.size w w' := by
  obtain ⟨hN, a1, c1, a2, c2, a3, c3, rfl, h1, h2, h3⟩ := h
  obtain ⟨_, _, e2, _, hc2⟩ := h2
  cases e2
  obtain ⟨b2, off2, rfl, hb2, hr2⟩ := hc2 (by omega)
  obtain ⟨r2, hF, rfl⟩ := hr2 m hm
  have hmf : (m : Int) < (B.nf : Int) := by omega
  obtain ⟨ws, hws⟩ : ∃ ws : World, w.alloc (.cells #[.slice a1 B.nv c1, .slice (some ⟨b2, off2, none⟩) B.nf c2, .slice a3 B.ns c3, .int .i64 B.wr] 25) = ws := ⟨_, rfl⟩
  have hB : Below w.heap.size w ws := by rw [← hws]; exact below_alloc (Nat.le_refl _) _
  have q1 : ws.cell? ⟨w.heap.size, 1, none⟩ = some (.slice (some ⟨b2, off2, none⟩) B.nf c2) := by rw [← hws]; simp [go_sem]
  replace hF := (hB.cell (p := ⟨b2, off2 + m, none⟩) (by show b2 < _; omega)).trans hF
  have HF : Hid (FruitsAt N ws u R) := RowsAt.mono hf (hB.mono hN) (Nat.le_refl _)
  have HI : Hid (IntsAt M ws cv n c) := hi.mono (hB.mono hM) (Nat.le_refl _)
  have HL : Hid _ := Lib.hid hL
  have HB : Hid _ := Lib.hid hB
  obtain ⟨au, cu, rfl, hnR, hcR⟩ := id HF.out
  obtain ⟨ac, cc, rfl, hnc, hcc⟩ := id HI.out
  have HCR : Hid _ := Lib.hid hcR
  have HCC : Hid _ := Lib.hid hcc
  clear hL hB h1 h3 hc2 hr2 hf hi hcR hcc
  by_cases hfirm : B.F m = 1
  · have e1 : (B.F m == 1) = true := by simp [hfirm]
    have HFI : Hid _ := Lib.hid hfirm
    clear hfirm
    go_enter Try.func90, Try.ntmps90
    go_wp2
    clear hws
    go_loop [9, 10] (fun t i => ∃ k : Nat, k ≤ n ∧ i = .int .i64 k ∧ t = .int .i64 (minTo k (fun k => unl R m (c k)) 1000)) (fun _ i => n - (intOf i).toNat)
    case atStart => exact ⟨0, Nat.zero_le _, rfl, rfl⟩
    case round =>
      obtain ⟨k, hk, rfl, rfl⟩ := hrel
      by_cases hkn : k < n
      · obtain ⟨b, off, rfl, _, hr⟩ := HCC.out (by omega)
        obtain ⟨r, hcell, rfl⟩ := hr k hkn
        have HE : Hid (minTo (k + 1) (fun k => unl R m (c k)) 1000 = min (minTo k (fun k => unl R m (c k)) 1000) (unl R m (c k))) := rfl
        have g1 := minTo_le k (fun k => unl R m (c k)) 1000
        have g2 := unl_le R m (c k)
        clear hr
        generalize minTo k (fun k => unl R m (c k)) 1000 = t at *
        go_wp2_with (go_at_call 100; refine (unlike_any N _ R m _ _ HF.out HL.out).mono ?_; rintro e w' ⟨rfl, rfl⟩)
        go_round
        case rel => exact ⟨k + 1, by omega, by go_num, by rw [HE.out]; first | rfl | (congr 1; omega)⟩
        case measure => simp [intOf]; omega
      · obtain rfl : k = n := by omega
        go_wp2
        go_ret
        exact ⟨ret_int (by unfold ofm; rw [if_pos HFI.out]), HB.out⟩
  · have e1 : (B.F m == 1) = false := by simp [hfirm]
    have HFI : Hid _ := Lib.hid hfirm
    clear hfirm
    go_enter Try.func90, Try.ntmps90
    go_wp2
    clear hws
    go_loop [9, 11] (fun t i => ∃ k : Nat, k ≤ R.n ∧ i = .int .i64 k ∧ t = .int .i64 (bad R m (fun _ v => anyB n fun i => decide (v = c i)) k)) (fun _ i => R.n - (intOf i).toNat)
    case atStart => exact ⟨0, Nat.zero_le _, rfl, rfl⟩
    case round =>
      obtain ⟨k, hk, rfl, rfl⟩ := hrel
      have hle := bad_le R m (fun _ v => anyB n fun i => decide (v = c i)) k
      by_cases hkn : k < R.n
      · obtain ⟨b, off, rfl, _, hr⟩ := HCR.out (by omega)
        obtain ⟨r, hcell, a2, c2, rfl, hn2, hc2⟩ := hr k hkn
        have hmL := HL.out k hkn
        obtain ⟨b2, off2, rfl, _, hr2⟩ := hc2 (by omega)
        obtain ⟨r2, hcell2, rfl⟩ := hr2 m hmL
        have hmi : (m : Int) < (R.L k : Int) := by omega
        clear hr hc2 hr2
        by_cases h1 : R.X k m = -1
        · have HE : Hid (bad R m (fun _ v => anyB n fun i => decide (v = c i)) (k + 1) = bad R m (fun _ v => anyB n fun i => decide (v = c i)) k) := bad_miss (.inl h1)
          have e1 : (R.X k m != -1) = false := by simp [h1]
          clear h1
          generalize bad R m (fun _ v => anyB n fun i => decide (v = c i)) k = t at *
          go_wp2
          go_round
          case rel => exact ⟨k + 1, by omega, by go_num, by rw [HE.out]⟩
          case measure => simp [intOf]; omega
        · have e1 : (R.X k m != -1) = true := by simp [h1]
          have hsw : (anyB n fun i => decide (c i = R.X k m)) = anyB n fun i => decide (R.X k m = c i) := by congr 1; funext i; rw [Bool.eq_iff_iff]; simp [eq_comm]
          have HSW : Hid _ := Lib.hid hsw
          cases h2 : anyB n fun i => decide (R.X k m = c i) with
          | true =>
            have HE : Hid (bad R m (fun _ v => anyB n fun i => decide (v = c i)) (k + 1) = bad R m (fun _ v => anyB n fun i => decide (v = c i)) k) := bad_miss (.inr h2)
            have H2 : Hid _ := Lib.hid h2
            clear h1 h2 hsw
            generalize bad R m (fun _ v => anyB n fun i => decide (v = c i)) k = t at *
            go_wp2_with (go_at_call 48; refine (in_any M _ _ _ _ _ HI.out).mono ?_; rintro e w' ⟨rfl, rfl⟩; rw [HSW.out, H2.out])
            go_round
            case rel => exact ⟨k + 1, by omega, by go_num, by rw [HE.out]⟩
            case measure => simp [intOf]; omega
          | false =>
            have HE : Hid (bad R m (fun _ v => anyB n fun i => decide (v = c i)) (k + 1) = bad R m (fun _ v => anyB n fun i => decide (v = c i)) k + 1) := bad_hit h1 h2
            have H2 : Hid _ := Lib.hid h2
            clear h1 h2 hsw
            generalize bad R m (fun _ v => anyB n fun i => decide (v = c i)) k = t at *
            go_wp2_with (go_at_call 48; refine (in_any M _ _ _ _ _ HI.out).mono ?_; rintro e w' ⟨rfl, rfl⟩; rw [HSW.out, H2.out])
            go_round
            case rel => exact ⟨k + 1, by omega, by go_num, by rw [HE.out]; go_num⟩
            case measure => simp [intOf]; omega
      · obtain rfl : k = R.n := by omega
        go_wp2
        go_ret
        exact ⟨ret_int (by unfold ofm; rw [if_neg HFI.out]), HB.out⟩

end Go.Proofs.Ytopajgnemeodeaa

namespace Go.Proofs.Ytopajgnemeodeaa
open Go.RowKit

/-- all that was there below n is there still -/
def Old (n : Nat) (wr w' : World) : Prop := (∀ b o, b < n → w'.cell? ⟨b, o, none⟩ = wr.cell? ⟨b, o, none⟩) ∧ Hid (Below n wr w')
theorem old_of {n : Nat} {wr w' : World} (h : Below n wr w') : Old n wr w' := ⟨fun b o hb => h.cell (p := ⟨b, o, none⟩) hb, h⟩

theorem old_more {wr w0 w1 : World} (h : Old wr.heap.size wr w0) (k : Below w0.heap.size w0 w1) : Old wr.heap.size wr w1 := old_of (step h.2.out (Nat.le_refl _) k)
theorem old_mark (wr : World) : (∀ b o, b < wr.heap.size → wr.drew.cell? ⟨b, o, none⟩ = wr.cell? ⟨b, o, none⟩) ∧ Hid (Below wr.heap.size wr wr.drew) := old_of (Below.refl _ _).drew

set_option maxHeartbeats 1000000 in
theorem wrongOf_any (N : Nat) (v u : Value) (B : Bk) (R : Fr) (s : Nat) (w : World) (h : BookAt N w v B) (hf : FruitsAt N w u R) (hg : Good B R) (hs : s < B.ns) :
    Calls Try.prog 69 #[v, u, .int .i64 s] w fun e w' => e = .returned (.int .i64 (wrong B R s)) ∧ Below w.heap.size w w' := by
  have H : Hid (BookAt N w v B) := h
  have HF : Hid (FruitsAt N w u R) := hf
  have HG : Hid _ := Lib.hid hg
  obtain ⟨hN, a1, c1, a2, c2, a3, c3, rfl, h1, h2, h3⟩ := h
  have hn6 := hg.nv
  obtain ⟨_, _, e3, _, hc3⟩ := h3
  cases e3
  obtain ⟨b3, off3, rfl, hb3, hr3⟩ := hc3 (by omega)
  obtain ⟨r3, hcell3, ao, cap, rfl, hnc, hcr⟩ := hr3 s hs
  have hsn : (s : Int) < (B.ns : Int) := by omega
  have HCR : Hid _ := Lib.hid hcr
  have HC3 : Hid _ := Lib.hid hcell3
  clear hg h1 h2 hc3 hr3 hcr hcell3 hf
  go_enter Try.func69, Try.ntmps69
  go_wp2
  go_loopw [7, 8] (fun t i wr => ∃ k : Nat, k ≤ B.nv ∧ i = .int .i64 k ∧ t = .int .i64 (sumTo k (lm B R s)) ∧ Hid (Below (w.heap.size + 1) (w.alloc (.cells #[.slice a1 B.nv c1, .slice a2 B.nf c2, .slice (some ⟨b3, off3, none⟩) B.ns c3, .int .i64 B.wr] 25)) wr)) (fun _ i _ => B.nv - (intOf i).toNat)
  case atStart => exact ⟨0, Nat.zero_le _, rfl, rfl, Below.refl _ _⟩
  case round =>
    obtain ⟨k, hk, rfl, rfl, hB⟩ := hrel
    have q0 := box_cell hB.out 0 rfl
    have q1 := box_cell hB.out 1 rfl
    have q2 := box_cell hB.out 2 rfl
    have q3 := box_cell hB.out 3 rfl
    have hsz := size_of hB.out
    have hbw := below_of hB.out
    by_cases hkn : k < B.nv
    · have hle : sumTo k (lm B R s) ≤ 30 := by
        have h1 := sumTo_le k (lm B R s) 5 fun i _ => Nat.le_trans (lm_le B R s i) HG.out.n
        omega
      have hl5 : lm B R s k ≤ 5 := Nat.le_trans (lm_le B R s k) HG.out.n
      have HE : Hid (sumTo (k + 1) (lm B R s) = sumTo k (lm B R s) + lm B R s k) := rfl
      have hkc : k < B.nc s := by rw [HG.out.nc s hs]; exact hkn
      obtain ⟨b4, off4, rfl, hb4, hr4⟩ := HCR.out (by omega)
      obtain ⟨r4, hcell4, hints⟩ := hr4 k hkc
      have hkci : (k : Int) < (B.nc s : Int) := by omega
      have q5 := (hbw.cell (p := ⟨b3, off3 + s, none⟩) (by show b3 < _; omega)).trans HC3.out
      have q6 := (hbw.cell (p := ⟨b4, off4 + k, none⟩) (by show b4 < _; omega)).trans hcell4
      have g3 : b3 < wr.heap.size := by omega
      have g4 : b4 < wr.heap.size := by omega
      have HI : Hid _ := Lib.hid hints
      have HO : Hid (ofm B R k (B.ncc s k) (B.can s k) = lm B R s k) := ofm_can (HG.out.ncc s hs k hkn) (by have := HG.out.n; omega)
      have hS0 := old_mark wr
      have HS0 : Hid _ := Lib.hid hS0
      have HBW : Hid _ := Lib.hid hbw
      clear hr4 hcell4 hints hkc hbw
      have HSZ : Hid _ := Lib.hid hsz
      generalize sumTo k (lm B R s) = t at *
      have e1 : IntKind.i64.wrap ((t : Int) + (lm B R s k : Int)) = (t : Int) + (lm B R s k : Int) := IntWalk.i64_in _ (by omega)
      go_wp2
      go_region_held3 (fun w' => (∀ b o, b < wr.heap.size → w'.cell? ⟨b, o, none⟩ = wr.cell? ⟨b, o, none⟩) ∧ Hid (Below wr.heap.size wr w')) (assumption)
        (first | (go_at_call 90; refine (ofMark_any N N _ _ _ B R k _ _ _ (H.out.chain (chain hB.out (Below.refl _ _).drew)) (RowsAt.chain HF.out hN (chain hB.out (Below.refl _ _).drew)) (HI.out.mono ((HBW.out.drew).mono hN) (Nat.le_refl _)) (by have := HBW.out.size; simp; omega) (by rw [HG.out.nf]; exact hkn) (fun f hf => by rw [HG.out.L f hf]; exact hkn)).mono ?_; rintro e w1 ⟨rfl, hb1⟩; rw [HO.out]; have S1 := old_more HS0.out hb1))
      have HS1 : Hid _ := Lib.hid S1
      clear S1 hS0 e1
      go_wp2
      go_roundw
      case rel => exact ⟨k + 1, by omega, by go_num, by rw [HE.out]; go_num, step hB.out (by simp) HS1.out.2.out⟩
      case measure => simp [intOf]; omega
    · have Hk : Hid (k = B.nv) := by show k = _; omega
      go_wp2
      go_ret
      exact ⟨ret_int (congrArg (fun q => ((sumTo q (lm B R s) : Nat) : Int)) Hk.out), hbw⟩

end Go.Proofs.Ytopajgnemeodeaa
