import Derived.Test.YtmmadlpkolcgkaaApart
namespace Go.Proofs.Ytmmadlpkolcgkaa
open Go.RowKit

def twinB (B : Bk) (s o : Nat) : Bool := decide (o ≠ s) && decide ((apartL B s o).length = 0)
def twinsL (B : Bk) (s : Nat) : List Int := sel (twinB B s) B.ns
def eTwins (B : Bk) (s : Int) : List Int × Int := if okBook B = false then ([], 10) else if (decide (0 ≤ s) && decide (s < B.ns)) = false then ([], 1) else (twinsL B s.toNat, 0)

set_option maxHeartbeats 4000000 in
theorem mTwins_any (N : Nat) (v : Value) (B : Bk) (s : Int) (w : World) (h : BookAt N w v B) :
    Calls Try.prog 42 #[v, .int .i64 s] w (GivesIE w.heap.size w (eTwins B s).1 (eTwins B s).2) := by
  have H : Hid (BookAt N w v B) := h
  obtain ⟨i0, hi, hz0, hz1, hz2⟩ := info_parts Try.infoInt
  obtain ⟨hN, a1, c1, a2, c2, a3, c3, rfl, h1, h2, h3⟩ := h
  clear h1 h2 h3
  cases hm : okBook B with
  | false =>
    have HM : Hid (okBook B = false) := Lib.hid hm
    clear hm
    go_enter Try.func42, Try.ntmps42
    go_wp2_with (go_at_call 62; refine (validBook_any N _ B _ (H.out.in_alloc _)).mono ?_; rintro e w1 ⟨rfl, hb1⟩; rw [HM.out]; have ch1 := chain (chain0 _ _) hb1; clear hb1)
    go_ret2
    rw [eTwins, if_pos HM.out]
    exact ⟨_, rfl, own_nil _ _, below_of ch1⟩
  | true =>
    have HM : Hid (okBook B = true) := Lib.hid hm
    have HG : Hid (GoodB B) := goodB_of hm
    clear hm
    cases hs : (decide (0 ≤ s) && decide (s < (B.ns : Int))) with
    | false =>
      have HS : Hid _ := Lib.hid hs
      clear hs
      go_enter Try.func42, Try.ntmps42
      go_wp2_with (first
        | (go_at_call 62; refine (validBook_any N _ B _ (H.out.in_alloc _)).mono ?_; rintro e w1 ⟨rfl, hb1⟩; rw [HM.out]; have ch1 := chain (chain0 _ _) hb1; have q0 := box_cell ch1 0 rfl; have q1 := box_cell ch1 1 rfl; have q2 := box_cell ch1 2 rfl; have q3 := box_cell ch1 3 rfl; clear hb1)
        | (go_at_call 66; refine (misSort_any N _ B s _ (H.out.chain ch1)).mono ?_; rintro e w2 ⟨rfl, hb2⟩; rw [HS.out]; have ch2 := chain ch1 hb2))
      go_ret2
      rw [eTwins, if_neg (by simp [HM.out]), if_pos HS.out]
      exact ⟨_, rfl, own_nil _ _, below_of ch2⟩
    | true =>
      obtain ⟨k, rfl, hk⟩ : ∃ k : Nat, s = k ∧ k < B.ns := ⟨s.toNat, by simp at hs; omega, by simp at hs; omega⟩
      have HS : Hid _ := Lib.hid hs
      clear hs
      have H8 := HG.out.ns
      go_enter Try.func42, Try.ntmps42
      go_wp2_with (first
        | (go_at_call 62; refine (validBook_any N _ B _ (H.out.in_alloc _)).mono ?_; rintro e w1 ⟨rfl, hb1⟩; rw [HM.out]; have ch1 := chain (chain0 _ _) hb1; have q0 := box_cell ch1 0 rfl; have q1 := box_cell ch1 1 rfl; have q2 := box_cell ch1 2 rfl; have q3 := box_cell ch1 3 rfl; clear hb1)
        | (go_at_call 66; refine (misSort_any N _ B k _ (H.out.chain ch1)).mono ?_; rintro e w2 ⟨rfl, hb2⟩; rw [HS.out]; have ch2 := chain ch1 hb2; have q0 := box_cell ch2 0 rfl; have q1 := box_cell ch2 1 rfl; have q2 := box_cell ch2 2 rfl; have q3 := box_cell ch2 3 rfl; clear hb2))
      have HCH : Hid _ := Lib.hid ch2
      clear q0 q1 q2 q3 ch1
      clear ch2
      go_loopw [6, 18] (fun u i wr => ∃ j : Nat, j ≤ B.ns ∧ i = .int .i64 j ∧ Hid (OwnI (w.heap.size + 1) wr u (sel (twinB B k) j)) ∧ Hid (Below (w.heap.size + 1) (w.alloc (.cells #[.slice a1 B.nv c1, .slice a2 B.nf c2, .slice a3 B.ns c3, .int .i64 B.wr] 25)) wr)) (fun _ i _ => B.ns - (intOf i).toNat)
      case atStart => exact ⟨0, Nat.zero_le _, rfl, World.ownsRow_nil _ _ _ _, HCH.out⟩
      case round =>
        obtain ⟨j, hj, rfl, ho, hB⟩ := hrel
        by_cases hjn : j < B.ns
        · have q0 := box_cell hB.out 0 rfl
          have q1 := box_cell hB.out 1 rfl
          have q2 := box_cell hB.out 2 rfl
          have q3 := box_cell hB.out 3 rfl
          have hsl := sel_len (twinB B k) j
          by_cases hjk : j = k
          · have hjb : ((j : Int) != (k : Int)) = false := by simp [hjk]
            have HP : Hid (sel (twinB B k) (j + 1) = sel (twinB B k) j) := sel_miss (by simp [twinB, hjk])
            clear hjk
            go_wp2
            go_roundw
            case rel => exact ⟨j + 1, by omega, by go_num, by rw [HP.out]; exact ho, hB⟩
            case measure => simp [intOf]; omega
          · have hjb : ((j : Int) != (k : Int)) = true := by simp; omega
            by_cases h0 : (apartL B k j).length = 0
            · have h0b : (((apartL B k j).length : Int) == 0) = true := by simpa using h0
              have HP : Hid (sel (twinB B k) (j + 1) = sel (twinB B k) j ++ [(j : Int)]) := sel_hit (by simp only [twinB, h0, decide_true, Bool.and_true]; simpa using hjk)
              clear hjk h0
              generalize sel (twinB B k) j = l at *
              go_wp2_with (first
                | (go_at_call 83; refine (apart_any N _ B k j _ (H.out.chain hB.out) HG.out hk hjn).mono ?_; rintro e w3 ⟨u, rfl, ho3, hb3⟩; obtain ⟨_, _, rfl⟩ := ho3.form; have hown := own_below ho.out hb3; have hE := chain hB.out hb3)
                | (at_builtin; refine wpList_append_own _ rfl _ _ 22 rfl (w.heap.size + 1) 3 i0 (.int .i64 0) 1 8 Try.underlying22 hi hz0 hz1 hz2 rfl (by decide) _ _ _ rfl (hown.alloc _) ⟨w3.heap.size, 0, none⟩ 1 1 [.int .i64 j] rfl rfl (cell_one_new _ _ _) (by simp [Value.oneCell']) (by unfold maxLen; omega) (by omega) (by have := size_of hE; simp; omega) ?_; intro v' w4 hown2 hgrow _))
              go_roundw
              case rel => exact ⟨j + 1, by omega, by go_num, by rw [HP.out]; unfold Hid OwnI; rw [List.length_append, List.map_append]; exact hown2, (chain_alloc hE _).grown hgrow (by have := size_of hE; simp; omega) (fun j e => (hown.lt j e).1)⟩
              case measure => simp [intOf]; omega
            · have h0b : (((apartL B k j).length : Int) == 0) = false := by simpa using h0
              have HP : Hid (sel (twinB B k) (j + 1) = sel (twinB B k) j) := sel_miss (by simp [twinB, h0])
              clear hjk h0
              generalize sel (twinB B k) j = l at *
              go_wp2_with (first
                | (go_at_call 83; refine (apart_any N _ B k j _ (H.out.chain hB.out) HG.out hk hjn).mono ?_; rintro e w3 ⟨u, rfl, ho3, hb3⟩; obtain ⟨_, _, rfl⟩ := ho3.form; have HO : Hid _ := Lib.hid (own_below ho.out hb3); have hE := chain hB.out hb3))
              go_roundw
              case rel => exact ⟨j + 1, by omega, by go_num, by rw [HP.out]; exact HO.out, hE⟩
              case measure => simp [intOf]; omega
        · have Hj : Hid (j = B.ns) := by show j = _; omega
          go_wp2
          go_ret2
          rw [eTwins, if_neg (by simp [HM.out]), if_neg (by rw [HS.out]; simp)]
          exact ⟨_, rfl, by show OwnI _ _ _ (twinsL B k); unfold twinsL; rw [← Hj.out]; exact own_mono ho.out (by omega), below_of hB.out⟩

end Go.Proofs.Ytmmadlpkolcgkaa
