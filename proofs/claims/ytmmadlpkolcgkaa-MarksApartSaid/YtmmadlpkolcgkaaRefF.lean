/-
  The chapter's own answers: Twins.
-/
import Derived.Test.YtmmadlpkolcgkaaRefE
namespace Go.Proofs.Ytmmadlpkolcgkaa
open Go.RowKit

set_option maxHeartbeats 4000000 in
theorem rTwins_any (N : Nat) (v : Value) (B : Bk) (s : Int) (w : World) (h : BookAt N w v B) :
    Calls Try.prog 43 #[v, .int .i64 s] w (GivesIE w.heap.size w (eTwins B s).1 (eTwins B s).2) := by
  obtain ⟨i0, hi, hz0, hz1, hz2⟩ := info_parts Try.infoInt
  have hf := nil_fruits N w
  have h' := h
  obtain ⟨_, a1, c1, a2, c2, a3, c3, rfl, _⟩ := h'
  obtain ⟨ws, hws, HB, hsz, hblk⟩ := box1 w (.cells #[.slice a1 B.nv c1, .slice a2 B.nf c2, .slice a3 B.ns c3, .int .i64 B.wr] 25)
  have q0 := cell_blk hblk 0 rfl
  have q1 := cell_blk hblk 1 rfl
  have q2 := cell_blk hblk 2 rfl
  have q3 := cell_blk hblk 3 rfl
  obtain ⟨HBF, HB0⟩ := entry HB.out h hf
  clear hblk h hf
  have S0d := old_of HB0.out.drew; have HB0d := S0d.2
  obtain ⟨is, his⟩ : ∃ is, (decide (0 ≤ s) && decide (s < (B.ns : Int))) = is := ⟨_, rfl⟩
  have HIS : Hid _ := Lib.hid his
  by_cases hc : eAsk B R0 is = 0
  · obtain ⟨hc0, rfl⟩ := ask_good hc
    obtain ⟨k, rfl, hk⟩ : ∃ k : Nat, s = k ∧ k < B.ns := ⟨s.toNat, by simp at his; omega, by simp at his; omega⟩
    have hok : okBook B = true := by rw [chk0] at hc0; cases h : okBook B <;> simp [h] at hc0 ⊢
    have HG : Hid (Good B R0) := good0 hok
    have H8 := (good0 hok).ns
    have HE : Hid _ := Lib.hid hc
    have HX : Hid (eTwins B k = (twinsL B k, 0)) := by unfold Hid eTwins; rw [hok, if_neg (by simp), if_neg (by rw [HIS.out]; simp)]; rfl
    have HK : Hid _ := Lib.hid hk
    have hki : (k : Int) < 8 := by omega
    clear his hc hk hok hc0
    go_enter Try.func43, Try.ntmps43
    go_wp2
    clear hws
    go_region_held3 (fun w' => (∀ b o, b < ws.heap.size → w'.cell? ⟨b, o, none⟩ = ws.cell? ⟨b, o, none⟩) ∧ Hid (Below ws.heap.size ws w')) (assumption) (first
      | (go_at_call 54; refine (isSort_any N _ B k _ (HBF.out.go HB0d.out).1).mono ?_; rintro e w1 ⟨rfl, hb1⟩; rw [HIS.out]; have S1 := old_of (bel HB0d.out hb1); have HB1 := S1.2; clear hb1)
      | (go_at_call 68; refine (ask_any N _ _ B R0 true _ (HBF.out.go HB1.out).1 (HBF.out.go HB1.out).2).mono ?_; rintro e w2 ⟨rfl, hb2⟩; rw [HE.out]; have S2 := old_of (bel HB1.out hb2); have HB2 := S2.2; clear hb2))
    have HB2 := S2.2; have c2 := S2.1; clear S2 S0d
    clear S1
    go_wp2
    clear c2
    go_loopw [7, 8] (fun u i wr => ∃ j : Nat, j ≤ B.ns ∧ i = .int .i64 j ∧ Hid (OwnI ws.heap.size wr u (sel (twinB B k) j)) ∧ Hid (Below ws.heap.size ws wr)) (fun _ i _ => B.ns - (intOf i).toNat)
    case atStart => exact ⟨0, Nat.zero_le _, rfl, World.ownsRow_nil _ _ _ _, HB2.out⟩
    clear HB1 HB2
    case round =>
    obtain ⟨j, hj, rfl, ho, HBr⟩ := hrel
    have cr := (old_of HBr.out).1
    have hszr := Nat.lt_of_lt_of_le hsz HBr.out.size
    have HBFr := HBF
    have HBF := Lib.hid (HBF.out.go HBr.out)
    clear HBFr
    have HB0 : Hid (Below wr.heap.size wr wr) := Below.refl _ _
    by_cases hjn : j < B.ns
    · have hsl := sel_len (twinB B k) j
      by_cases hjk : j = k
      · have hjb : ((j : Int) != (k : Int)) = false := by simp [hjk]
        have HP : Hid (sel (twinB B k) (j + 1) = sel (twinB B k) j) := sel_miss (by simp [twinB, hjk])
        clear hjk
        go_wp2
        go_roundw
        case rel => exact ⟨j + 1, by omega, by go_num, by rw [HP.out]; exact ho, HBr⟩
        case measure => simp [intOf]; omega
      · have hjb : ((j : Int) != (k : Int)) = true := by simp; omega
        by_cases h0 : (apartL B k j).length = 0
        · have h0b : (((apartL B k j).length : Int) == 0) = true := by simpa using h0
          have HP : Hid (sel (twinB B k) (j + 1) = sel (twinB B k) j ++ [(j : Int)]) := sel_hit (by simp only [twinB, h0, decide_true, Bool.and_true]; simpa using hjk)
          clear hjk h0
          generalize sel (twinB B k) j = l at *
          go_wp2_with (first
            | (go_at_call 84; refine (apartOf_any N _ B k j _ (HBF.out.go HB0.out).1 HG.out HK.out hjn).mono ?_; rintro e w4 ⟨x4, rfl, ho4, hb4⟩; obtain ⟨_, _, rfl⟩ := ho4.form; clear ho4; (try clear c0); have HB4 := Lib.hid (bel HB0.out hb4); have c4 := (old_of HB4.out).1; clear hb4; have hown := own_below ho.out HB4.out; have hw4 : ws.heap.size ≤ w4.heap.size := (fin HBr.out HB4.out).size)
            | (at_builtin; refine wpList_append_own _ rfl _ _ 22 rfl ws.heap.size 3 i0 (.int .i64 0) 1 8 Try.underlying22 hi hz0 hz1 hz2 rfl (by decide) _ _ _ rfl (hown.alloc _) ⟨w4.heap.size, 0, none⟩ 1 1 [.int .i64 j] rfl rfl (cell_one_new _ _ _) (by simp [Value.oneCell']) (by unfold maxLen; omega) (by omega) (by simp; omega) ?_; intro v' w5 hown2 hgrow _))
          go_roundw
          case rel => exact ⟨j + 1, by omega, by go_num, by rw [HP.out]; unfold Hid OwnI; rw [List.length_append, List.map_append]; exact hown2, ((fin HBr.out HB4.out).alloc hw4 _).grown hgrow (by simp; omega) (fun j e => (hown.lt j e).1)⟩
          case measure => simp [intOf]; omega
        · have h0b : (((apartL B k j).length : Int) == 0) = false := by simpa using h0
          have HP : Hid (sel (twinB B k) (j + 1) = sel (twinB B k) j) := sel_miss (by simp [twinB, h0])
          clear hjk h0
          generalize sel (twinB B k) j = l at *
          go_wp2_with (first
            | (go_at_call 84; refine (apartOf_any N _ B k j _ (HBF.out.go HB0.out).1 HG.out HK.out hjn).mono ?_; rintro e w4 ⟨x4, rfl, ho4, hb4⟩; obtain ⟨_, _, rfl⟩ := ho4.form; clear ho4; (try clear c0); have HB4 := Lib.hid (bel HB0.out hb4); have c4 := (old_of HB4.out).1; clear hb4; have HO : Hid _ := Lib.hid (own_below ho.out HB4.out)))
          go_roundw
          case rel => exact ⟨j + 1, by omega, by go_num, by rw [HP.out]; exact HO.out, fin HBr.out HB4.out⟩
          case measure => simp [intOf]; omega
    · have Hj : Hid (j = B.ns) := by show j = _; omega
      go_wp2
      go_ret2
      rw [HX.out]
      exact ⟨_, rfl, by show OwnI _ _ _ (twinsL B k); unfold twinsL; rw [← Hj.out]; exact own_mono ho.out HB.out.size, fin HB.out HBr.out⟩
  · obtain ⟨er, her⟩ : ∃ er, eAsk B R0 is = er := ⟨_, rfl⟩
    have he0 : (er != 0) = true := by rw [← her]; simpa using hc
    have HE : Hid _ := Lib.hid her
    have HX : Hid (eTwins B s = ([], er)) := by
      unfold Hid eTwins; rw [← her, ask0] at *; rw [HIS.out]; cases h : okBook B <;> cases is <;> simp [h] at hc ⊢
    clear her his hc
    go_enter Try.func43, Try.ntmps43
    go_wp2
    clear hws
    go_region_held3 (fun w' => (∀ b o, b < ws.heap.size → w'.cell? ⟨b, o, none⟩ = ws.cell? ⟨b, o, none⟩) ∧ Hid (Below ws.heap.size ws w')) (assumption) (first
      | (go_at_call 54; refine (isSort_any N _ B s _ (HBF.out.go HB0d.out).1).mono ?_; rintro e w1 ⟨rfl, hb1⟩; rw [HIS.out]; have S1 := old_of (bel HB0d.out hb1); have HB1 := S1.2; clear hb1)
      | (go_at_call 68; refine (ask_any N _ _ B R0 _ _ (HBF.out.go HB1.out).1 (HBF.out.go HB1.out).2).mono ?_; rintro e w2 ⟨rfl, hb2⟩; rw [HE.out]; have S2 := old_of (bel HB1.out hb2); have HB2 := S2.2; clear hb2))
    have HB2 := S2.2; have c2 := S2.1; clear S2 S0d
    clear S1
    go_wp2
    go_ret2
    rw [HX.out]
    exact ⟨_, rfl, own_nil _ _, fin HB.out HB2.out⟩

end Go.Proofs.Ytmmadlpkolcgkaa
