/-
  The chapter's own answers: valuesOf, Values.
-/
import Derived.Test.YtopajgnemeodeaaReally
namespace Go.Proofs.Ytopajgnemeodeaa
open Go.RowKit

theorem anyB_zero (p : Nat → Bool) : anyB 0 p = false := rfl

set_option maxHeartbeats 4000000 in
set_option maxRecDepth 100000 in
theorem valuesOf_any (N : Nat) (v u : Value) (B : Bk) (R : Fr) (f m : Nat) (w : World) (h : BookAt N w v B) (hf : FruitsAt N w u R) (hg : Good B R) (hfn : f < R.n) (hm : m < B.nv) :
    Calls Try.prog 77 #[v, u, .agg #[.int .i64 f, .int .i64 m]] w (GivesI w.heap.size w (vals B R f m)) := by
  obtain ⟨i0, hi, hz0, hz1, hz2⟩ := info_parts Try.infoInt
  have h' := h
  obtain ⟨_, a1, c1, a2, c2, a3, c3, rfl, _⟩ := h'
  obtain ⟨ws, hws, HB, hsz, hsz1, hblk, hblk1⟩ := box2 w (.cells #[.slice a1 B.nv c1, .slice a2 B.nf c2, .slice a3 B.ns c3, .int .i64 B.wr] 25) (.cells #[.int .i64 f, .int .i64 m] 40)
  have q0 := cell_blk hblk 0 rfl
  have q1 := cell_blk hblk 1 rfl
  have q2 := cell_blk hblk 2 rfl
  have q3 := cell_blk hblk 3 rfl
  have p0 := cell_blk hblk1 0 rfl
  have p1 := cell_blk hblk1 1 rfl
  obtain ⟨HBF, HB0⟩ := entry HB.out h hf
  clear hblk hblk1 h hf
  obtain ⟨b1, o1, rfl, hb1, hq1⟩ := val_at HBF.out.1 hm
  have g1 : b1 < ws.heap.size := Nat.lt_of_lt_of_le hb1 HBF.out.1.1
  have hV := hg.V m hm
  have hmi : (m : Int) < (B.nv : Int) := by omega
  have hns8 := hg.ns
  obtain ⟨n, hn⟩ : ∃ n : Nat, B.V m = n := ⟨(B.V m).toNat, by omega⟩
  have HV : Hid ((B.V m).toNat = n) := by unfold Hid; omega
  rw [hn] at hq1 hV
  have HG := Lib.hid hg
  have HFN := Lib.hid hfn
  have HM := Lib.hid hm
  clear hg hfn hm hn
  go_enter Try.func77, Try.ntmps77
  go_wp2
  clear hws
  go_loopw [7, 8] (fun l i wr => ∃ k : Nat, k ≤ n ∧ i = .int .i64 k ∧ Hid (OwnI ws.heap.size wr l (sel (fun x => exAny B R f m x) k)) ∧ Hid (Below ws.heap.size ws wr)) (fun _ i _ => n - (intOf i).toNat)
  case atStart => exact ⟨0, Nat.zero_le _, rfl, World.ownsRow_nil _ _ _ _, Below.refl _ _⟩
  case round =>
    obtain ⟨k, hk, rfl, ho, HBr⟩ := hrel
    have cr := (old_of HBr.out).1
    have hszr := Nat.lt_of_lt_of_le hsz HBr.out.size
    have hszr1 := Nat.lt_of_lt_of_le hsz1 HBr.out.size
    have g1r := Nat.lt_of_lt_of_le g1 HBr.out.size
    by_cases hkn : k < n
    · have hsl := sel_len (fun x => exAny B R f m x) k
      go_wp2
      obtain ⟨wo, rfl⟩ : ∃ wo : World, wo = wr := ⟨_, rfl⟩
      have HO : Hid _ := ho
      have HBo : Hid (Below ws.heap.size ws wo) := HBr
      clear ho HBr cr
      go_loopw [9, 10] (fun c i wr => ∃ j : Nat, j ≤ B.ns ∧ i = .int .i64 j ∧ c = .bool (anyB j fun s => ex B R s f m k) ∧ Hid (Below wo.heap.size wo wr)) (fun _ i _ => B.ns - (intOf i).toNat)
      case atStart => exact ⟨0, Nat.zero_le _, rfl, rfl, Below.refl _ _⟩
      case round =>
        obtain ⟨j, hj, rfl, rfl, HBi⟩ := hrel
        have HBr : Hid (Below ws.heap.size ws wr) := bel HBo.out HBi.out
        have cr := (old_of HBr.out).1
        have hszi := Nat.lt_of_lt_of_le hsz HBr.out.size
        have hszi1 := Nat.lt_of_lt_of_le hsz1 HBr.out.size
        have HB0 : Hid (Below wr.heap.size wr wr) := Below.refl _ _
        by_cases hjn : j < B.ns
        · have HE : Hid ((anyB (j + 1) fun s => ex B R s f m k) = ((anyB j fun s => ex B R s f m k) || ex B R j f m k)) := anyB_suc _ _
          have S0d := old_of HB0.out.drew; have HB0d := S0d.2
          cases h0 : anyB j fun s => ex B R s f m k with
          | true =>
            have H0 := Lib.hid h0
            clear h0
            go_wp2
            refine wp_region_held_drew (S := (fun w' => (∀ b o, b < wr.heap.size → w'.cell? ⟨b, o, none⟩ = wr.cell? ⟨b, o, none⟩) ∧ Hid (Below wr.heap.size wr w'))) (by kernel_rfl) S0d (fun hHeld => ?_)
            (refine wpAnyH_take (i := 0) (v := ?_) rfl (by kernel_rfl) (by kernel_rfl) (by kernel_rfl) (fun _ _ _ h => h) (Or.inl ⟨by rfl, ?_⟩) (by assumption) ?_; rotate_left; (focus (intro w hSw; (try dsimp only at hSw); go_simp; (try with_reducible rfl))); (try simp only [List.getElem_toArray, List.getElem_cons_zero, List.getElem_cons_succ, Act.put, List.setIfInBounds_toArray, List.set_cons_zero, List.set_cons_succ]))
            (refine wpAnyH_take (i := 1) (v := ?_) rfl (by kernel_rfl) (by kernel_rfl) (by kernel_rfl) (fun _ _ _ h => h) (Or.inl ⟨by rfl, ?_⟩) (by assumption) ?_; rotate_left; (focus (intro w hSw; (try dsimp only at hSw); go_simp; (try with_reducible rfl))); (try simp only [List.getElem_toArray, List.getElem_cons_zero, List.getElem_cons_succ, Act.put, List.setIfInBounds_toArray, List.set_cons_zero, List.set_cons_succ]))
            (refine wpAnyH_take (i := 2) (v := undef) rfl (by kernel_rfl) (by kernel_rfl) (by kernel_rfl) (fun _ _ _ h => h) (Or.inr ⟨by rfl, rfl⟩) (by assumption) ?_; (try simp only [List.getElem_toArray, List.getElem_cons_zero, List.getElem_cons_succ, Act.put, List.setIfInBounds_toArray, List.set_cons_zero, List.set_cons_succ]))
            (refine wpAnyH_take (i := 3) (v := undef) rfl (by kernel_rfl) (by kernel_rfl) (by kernel_rfl) (fun _ _ _ h => h) (Or.inr ⟨by rfl, rfl⟩) (by assumption) ?_; (try simp only [List.getElem_toArray, List.getElem_cons_zero, List.getElem_cons_succ, Act.put, List.setIfInBounds_toArray, List.set_cons_zero, List.set_cons_succ]))
            (refine wpAnyH_take (i := 4) (v := undef) rfl (by kernel_rfl) (by kernel_rfl) (by kernel_rfl) (fun _ _ _ h => h) (Or.inr ⟨by rfl, rfl⟩) (by assumption) ?_; (try simp only [List.getElem_toArray, List.getElem_cons_zero, List.getElem_cons_succ, Act.put, List.setIfInBounds_toArray, List.set_cons_zero, List.set_cons_succ]))
            (refine wpAnyH_take (i := 5) (v := undef) rfl (by kernel_rfl) (by kernel_rfl) (by kernel_rfl) (fun _ _ _ h => h) (Or.inr ⟨by rfl, rfl⟩) (by assumption) ?_; (try simp only [List.getElem_toArray, List.getElem_cons_zero, List.getElem_cons_succ, Act.put, List.setIfInBounds_toArray, List.set_cons_zero, List.set_cons_succ]))
            (refine wpAnyH_take (i := 6) (v := undef) rfl (by kernel_rfl) (by kernel_rfl) (by kernel_rfl) (fun _ _ _ h => h) (Or.inr ⟨by rfl, rfl⟩) (by assumption) ?_; (try simp only [List.getElem_toArray, List.getElem_cons_zero, List.getElem_cons_succ, Act.put, List.setIfInBounds_toArray, List.set_cons_zero, List.set_cons_succ]))
            (refine wpAnyH_take (i := 7) (v := undef) rfl (by kernel_rfl) (by kernel_rfl) (by kernel_rfl) (fun _ _ _ h => h) (Or.inr ⟨by rfl, rfl⟩) (by assumption) ?_; (try simp only [List.getElem_toArray, List.getElem_cons_zero, List.getElem_cons_succ, Act.put, List.setIfInBounds_toArray, List.set_cons_zero, List.set_cons_succ]))
            (refine wpAnyH_take (i := 8) (v := undef) rfl (by kernel_rfl) (by kernel_rfl) (by kernel_rfl) (fun _ _ _ h => h) (Or.inr ⟨by rfl, rfl⟩) (by assumption) ?_; (try simp only [List.getElem_toArray, List.getElem_cons_zero, List.getElem_cons_succ, Act.put, List.setIfInBounds_toArray, List.set_cons_zero, List.set_cons_succ]))
            (refine wpAnyH_take (i := 9) (v := undef) rfl (by kernel_rfl) (by kernel_rfl) (by kernel_rfl) (fun _ _ _ h => h) (Or.inr ⟨by rfl, rfl⟩) (by assumption) ?_; (try simp only [List.getElem_toArray, List.getElem_cons_zero, List.getElem_cons_succ, Act.put, List.setIfInBounds_toArray, List.set_cons_zero, List.set_cons_succ]))
            (refine wpAnyH_take (i := 10) (v := undef) rfl (by kernel_rfl) (by kernel_rfl) (by kernel_rfl) (fun _ _ _ h => h) (Or.inr ⟨by rfl, rfl⟩) (by assumption) ?_; (try simp only [List.getElem_toArray, List.getElem_cons_zero, List.getElem_cons_succ, Act.put, List.setIfInBounds_toArray, List.set_cons_zero, List.set_cons_succ]))
            (refine wpAnyH_take (i := 11) (v := ?_) rfl (by kernel_rfl) (by kernel_rfl) (by kernel_rfl) (fun _ _ _ h => h) (Or.inl ⟨by rfl, ?_⟩) (by assumption) ?_; rotate_left; (focus (intro w hSw; (try dsimp only at hSw); go_simp; (try with_reducible rfl))); (try simp only [List.getElem_toArray, List.getElem_cons_zero, List.getElem_cons_succ, Act.put, List.setIfInBounds_toArray, List.set_cons_zero, List.set_cons_succ]))
            (refine wpAnyH_take (i := 12) (v := ?_) rfl (by kernel_rfl) (by kernel_rfl) (by kernel_rfl) (fun _ _ _ h => h) (Or.inl ⟨by rfl, ?_⟩) (by assumption) ?_; rotate_left; (focus (intro w hSw; (try dsimp only at hSw); go_simp; (try with_reducible rfl))); (try simp only [List.getElem_toArray, List.getElem_cons_zero, List.getElem_cons_succ, Act.put, List.setIfInBounds_toArray, List.set_cons_zero, List.set_cons_succ]))
            refine wpAnyH_done (by kernel_rfl) ?_ _; clear hHeld
            clear S0d
            go_wp2
            go_roundw
            case rel => exact ⟨j + 1, by omega, by go_num, by rw [HE.out, H0.out]; rfl, bel HBi.out HB0d.out⟩
            case measure => simp [intOf]; omega
          | false =>
            have H0 := Lib.hid h0
            have hrx := rval_ex (x := (k : Int)) HG.out hjn HFN.out HM.out
            obtain ⟨rv, hrv⟩ : ∃ rv, rval B R j f m k = rv := ⟨_, rfl⟩
            have HRV := Lib.hid hrv
            rw [hrv] at hrx
            have HRX := Lib.hid hrx
            have HBFr := Lib.hid (HBF.out.go HBr.out)
            have HBFk : Hid (BF _ wr _ _ B R) := HBFr
            have hdec : decide ((rv : Int) ≤ B.wr) = ex B R j f m k := hrx
            clear h0 hrv hrx
            cases hx : ex B R j f m k
            all_goals
              have HX := Lib.hid hx
              rw [hx] at hdec
              clear hx
              go_wp2
              go_region_held3 (fun w' => (∀ b o, b < wr.heap.size → w'.cell? ⟨b, o, none⟩ = wr.cell? ⟨b, o, none⟩) ∧ Hid (Below wr.heap.size wr w')) (assumption) (first
                | (go_at_call 94; refine (really_any N _ _ B R j f m k _ (HBFk.out.go HB0d.out).1 (HBFk.out.go HB0d.out).2 HG.out hjn HFN.out HM.out).mono ?_; rintro e w1 ⟨rfl, hb1⟩; rw [HRV.out]; have S1 := old_of (bel HB0d.out hb1); have HB1 := S1.2; clear hb1))
              clear S1 S0d
              go_wp2
              go_roundw
              case rel => exact ⟨j + 1, by omega, by go_num, by rw [HE.out, H0.out, HX.out]; rfl, bel HBi.out HB1.out⟩
              case measure => simp [intOf]; omega
        · have Hj : Hid ((anyB j fun s => ex B R s f m k) = exAny B R f m k) := by unfold Hid exAny; rw [show j = B.ns by omega]
          cases hc : anyB j fun s => ex B R s f m k with
          | false =>
            have HP : Hid (sel (fun x => exAny B R f m x) (k + 1) = sel (fun x => exAny B R f m x) k) := sel_miss (by rw [← Hj.out, hc])
            have HOi : Hid _ := Lib.hid (own_below HO.out HBi.out)
            clear hc
            generalize sel (fun x => exAny B R f m x) k = l at *
            go_wp2
            go_roundw
            case rel => exact ⟨k + 1, by omega, by go_num, by rw [HP.out]; exact HOi.out, HBr.out⟩
            case measure => simp [intOf]; omega
          | true =>
            have HP : Hid (sel (fun x => exAny B R f m x) (k + 1) = sel (fun x => exAny B R f m x) k ++ [(k : Int)]) := sel_hit (by rw [← Hj.out, hc])
            have hown := own_below HO.out HBi.out
            have hsr := HBr.out.size
            clear hc
            generalize sel (fun x => exAny B R f m x) k = l at *
            go_wp2_with (at_builtin; refine wpList_append_own _ rfl _ _ 22 rfl ws.heap.size 3 i0 (.int .i64 0) 1 8 Try.underlying22 hi hz0 hz1 hz2 rfl (by decide) _ _ _ rfl (hown.alloc _) ⟨wr.heap.size, 0, none⟩ 1 1 [.int .i64 k] rfl rfl (cell_one_new _ _ _) (by simp [Value.oneCell']) (by unfold maxLen; omega) (by omega) (by simp; omega) ?_; intro v' w2 hown2 hgrow _)
            go_roundw
            case rel => exact ⟨k + 1, by omega, by go_num, by rw [HP.out]; unfold Hid OwnI; rw [List.length_append, List.map_append]; exact hown2, (HBr.out.alloc hsr _).grown hgrow (by simp; omega) (fun j e => (hown.lt j e).1)⟩
            case measure => simp [intOf]; omega
    · have Hk : Hid (k = n) := by show k = _; omega
      go_wp2
      go_ret
      exact ⟨_, rfl, by unfold vals; rw [HV.out, ← Hk.out]; exact own_mono ho.out HB.out.size, fin HB.out HBr.out⟩

end Go.Proofs.Ytopajgnemeodeaa

namespace Go.Proofs.Ytopajgnemeodeaa
open Go.RowKit

theorem known_err {B : Bk} {R : Fr} {is : Bool} (h : (eKnown B R is).2 = 0) : chk B R = 0 ∧ is = true ∧ (sorts B R).length ≠ 0 := by
  unfold eKnown at h
  by_cases hc : eAsk B R is = 0
  · have := ask_good hc
    rw [if_neg (by simp [hc])] at h
    by_cases h0 : (sorts B R).length = 0
    · rw [if_pos h0] at h; cases h
    · exact ⟨this.1, this.2, h0⟩
  · rw [if_pos hc] at h; exact absurd h hc

theorem values_of_known {B : Bk} {R : Fr} {f m : Int} (h : (eKnown B R (inPlace B R f m)).2 ≠ 0) : eValues B R f m = ([], (eKnown B R (inPlace B R f m)).2) := by
  unfold eKnown at h ⊢
  unfold eValues eAsk at *
  by_cases hc : chk B R = 0
  · cases hp : inPlace B R f m with
    | false => simp [hc]
    | true =>
      obtain ⟨a, b, rfl, rfl, ha, hb⟩ := in_place hp
      have := vals_nil (R := R) (f := a) (chk_good hc) hb
      by_cases h0 : (sorts B R).length = 0
      · have h1 := this.2 h0
        simp [hc, h0, h1]
      · simp [hc, hp, h0] at h
  · simp [hc]

set_option maxHeartbeats 4000000 in
set_option maxRecDepth 100000 in
theorem rValues_any (N : Nat) (v u : Value) (B : Bk) (R : Fr) (f m : Int) (w : World) (h : BookAt N w v B) (hf : FruitsAt N w u R) :
    Calls Try.prog 32 #[v, u, .agg #[.int .i64 f, .int .i64 m]] w (GivesIE w.heap.size w (eValues B R f m).1 (eValues B R f m).2) := by
  have h' := h
  obtain ⟨_, a1, c1, a2, c2, a3, c3, rfl, _⟩ := h'
  obtain ⟨ws, hws, HB, hsz, hsz1, hblk, hblk1⟩ := box2 w (.cells #[.slice a1 B.nv c1, .slice a2 B.nf c2, .slice a3 B.ns c3, .int .i64 B.wr] 25) (.cells #[.int .i64 f, .int .i64 m] 40)
  have q0 := cell_blk hblk 0 rfl
  have q1 := cell_blk hblk 1 rfl
  have q2 := cell_blk hblk 2 rfl
  have q3 := cell_blk hblk 3 rfl
  have p0 := cell_blk hblk1 0 rfl
  have p1 := cell_blk hblk1 1 rfl
  obtain ⟨HBF, HB0⟩ := entry HB.out h hf
  clear hblk hblk1 h hf
  have S0d := old_of HB0.out.drew; have HB0d := S0d.2
  obtain ⟨l, hl⟩ : ∃ l, (eKnown B R (inPlace B R f m)).1 = l := ⟨_, rfl⟩
  obtain ⟨er, her⟩ : ∃ er, (eKnown B R (inPlace B R f m)).2 = er := ⟨_, rfl⟩
  have HL := Lib.hid hl
  have HE := Lib.hid her
  by_cases he : er = 0
  · have hk := known_err (her.trans he)
    obtain ⟨a, b, rfl, rfl, ha, hb⟩ := in_place hk.2.1
    have HG := Lib.hid (chk_good hk.1)
    have HX : Hid (eValues B R (a : Int) (b : Int) = (vals B R a b, 0)) := by
      unfold Hid eValues
      have := vals_nil (R := R) (f := a) (chk_good hk.1) hb
      rw [if_neg (by simp [hk.1]), if_neg (by rw [hk.2.1]; simp)]
      exact if_neg (fun h0 => hk.2.2 (this.1 h0))
    have HA := Lib.hid ha
    have HB' := Lib.hid hb
    have heb : (er != 0) = false := by simp [he]
    clear hk hl her he ha hb
    go_enter Try.func32, Try.ntmps32
    go_wp2
    clear hws
    go_region_held3 (fun w' => (∀ b o, b < ws.heap.size → w'.cell? ⟨b, o, none⟩ = ws.cell? ⟨b, o, none⟩) ∧ Hid (Below ws.heap.size ws w')) (assumption) (first
      | (go_at_call 49; refine (isPlace_any N _ _ B R _ _ _ (HBF.out.go HB0d.out).1 (HBF.out.go HB0d.out).2).mono ?_; rintro e w1 ⟨rfl, hb1⟩; have S1 := old_of (bel HB0d.out hb1); have HB1 := S1.2; clear hb1)
      | (go_at_call 72; refine (known_any N _ _ B R _ _ (HBF.out.go HB1.out).1 (HBF.out.go HB1.out).2).mono ?_; rintro e w2 ⟨x2, rfl, ho2, hb2⟩; rw [HE.out]; clear ho2; have S2 := old_of (bel HB1.out hb2); have HB2 := S2.2; clear hb2))
    have HB2 := S2.2; have c2 := S2.1; clear S2 S0d
    clear S1
    go_wp2_with (go_at_call 77; refine (valuesOf_any N _ _ B R a b _ (HBF.out.go HB2.out).1 (HBF.out.go HB2.out).2 HG.out HA.out HB'.out).mono ?_; rintro e w3 ⟨x3, rfl, ho3, hb3⟩; have HO := Lib.hid ho3; clear ho3; (try clear c2); have HB3 := Lib.hid (bel HB2.out hb3); have c3 := (old_of HB3.out).1; clear hb3)
    go_ret2
    rw [HX.out]
    exact ⟨_, rfl, own_mono HO.out (fin HB.out HB2.out).size, fin HB.out HB3.out⟩
  · have HX : Hid (eValues B R f m = ([], er)) := by
      unfold Hid; rw [values_of_known (by rw [her]; exact he), her]
    have heb : (er != 0) = true := by simp [he]
    clear hl her he
    go_enter Try.func32, Try.ntmps32
    go_wp2
    clear hws
    go_region_held3 (fun w' => (∀ b o, b < ws.heap.size → w'.cell? ⟨b, o, none⟩ = ws.cell? ⟨b, o, none⟩) ∧ Hid (Below ws.heap.size ws w')) (assumption) (first
      | (go_at_call 49; refine (isPlace_any N _ _ B R _ _ _ (HBF.out.go HB0d.out).1 (HBF.out.go HB0d.out).2).mono ?_; rintro e w1 ⟨rfl, hb1⟩; have S1 := old_of (bel HB0d.out hb1); have HB1 := S1.2; clear hb1)
      | (go_at_call 72; refine (known_any N _ _ B R _ _ (HBF.out.go HB1.out).1 (HBF.out.go HB1.out).2).mono ?_; rintro e w2 ⟨x2, rfl, ho2, hb2⟩; rw [HE.out]; clear ho2; have S2 := old_of (bel HB1.out hb2); have HB2 := S2.2; clear hb2))
    have HB2 := S2.2; have c2 := S2.1; clear S2 S0d
    clear S1
    go_wp2
    go_ret2
    rw [HX.out]
    exact ⟨_, rfl, own_nil _ _, fin HB.out HB2.out⟩

end Go.Proofs.Ytopajgnemeodeaa
