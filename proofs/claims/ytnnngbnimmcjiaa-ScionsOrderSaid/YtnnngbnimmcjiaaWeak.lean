/-
  Weak: the gardens without which fewer sorts would be safe; one place more.
-/
import Derived.Test.YtnnngbnimmcjiaaWithout
namespace Go.Proofs.Ytnnngbnimmcjiaa
open Go.RowKit

def safeG (B : SB) (g : List Nat) : Nat := safeC (cS B g) 4
def sumG (B : SB) (g : List Nat) : Nat := sumC (cS B g) 4
def rankG (B : SB) (g : List Nat) : Nat := rankC (cS B g) 4
/-- how many sorts can be safe; how many scions can be given -/
def safeN (B : SB) : Nat := safeG B (bestL (safeG B) (giftsL B))
def sumN (B : SB) : Nat := sumG B (bestL (sumG B) (giftsL B))
def weakP (B : SB) (k : Nat) : Bool := decide (safeN (delB B k) < safeN B)

theorem mostSafe_any (N : Nat) (v : Value) (B : SB) (p : Nat) (w : World) (h : BookAt N w v B) (hG : GoodL B p) :
    Calls Try.prog 50 #[v, .func (.func 55) #[] #[]] w fun e w' => e = .returned (.int .i64 (safeN B : Nat)) ∧ Below w.heap.size w w' := most_safe N v B p w h hG
theorem mostSum_any (N : Nat) (v : Value) (B : SB) (p : Nat) (w : World) (h : BookAt N w v B) (hG : GoodL B p) :
    Calls Try.prog 50 #[v, .func (.func 51) #[] #[]] w fun e w' => e = .returned (.int .i64 (sumN B : Nat)) ∧ Below w.heap.size w w' := most_sum N v B p w h hG

set_option maxRecDepth 100000 in
set_option maxHeartbeats 3200000 in
theorem weak_any (N : Nat) (v : Value) (B : SB) (p : Nat) (w : World) (h : BookAt N w v B) (hG : GoodL B p) :
    Calls Try.prog 65 #[v] w (GivesI w.heap.size w (sel (weakP B) B.ng)) := by
  obtain ⟨i0, hi, hz0, hz1, hz2⟩ := info_parts Try.infoInt
  have h' := h
  obtain ⟨_, a1, z1, a2, z2, a3, z3, rfl, _⟩ := h'
  obtain ⟨ws, hws, HB, hsz, hblk⟩ := box1 w (.cells #[.slice a1 B.ns z1, .slice a2 B.ng z2, .slice a3 B.nw z3] 62)
  have q0 := cell_blk hblk 0 rfl
  have q1 := cell_blk hblk 1 rfl
  have q2 := cell_blk hblk 2 rfl
  have HBK := Lib.hid (h.go HB.out)
  have HB0 : Hid (Below ws.heap.size ws ws) := Below.refl _ _
  have HNS : Hid (N ≤ ws.heap.size) := HBK.out.1
  have hlens := h.lens
  obtain ⟨hlv, hls, hln⟩ := hlens
  clear hblk h
  have HG := Lib.hid hG
  have hng := hG.ng
  clear hG
  go_enter Try.func65, Try.ntmps65
  go_wp2_with (go_at_call 50; refine (mostSafe_any N _ B p _ (HBK.out.go HB0.out) HG.out).mono ?_; rintro e w1 ⟨rfl, hb1⟩; (try clear c0); have HB1 := Lib.hid (bel HB0.out hb1); have c1 := (old_of HB1.out).1; clear hb1)
  clear hws
  go_loopw [12, 3] (fun i ov wr => ∃ k : Nat, k ≤ B.ng ∧ i = .int .i64 k ∧ Hid (OwnI ws.heap.size wr ov (sel (weakP B) k)) ∧ Hid (Below ws.heap.size ws wr)) (fun i _ _ => B.ng - (intOf i).toNat)
  case atStart => exact ⟨0, Nat.zero_le _, rfl, World.ownsRow_nil _ _ _ _, HB1⟩
  case round =>
    obtain ⟨k, hk, rfl, ho, HBr⟩ := hrel
    have cr := (old_of HBr.out).1
    by_cases hkn : k < B.ng
    · have hki : (k : Int) < (B.ng : Int) := by omega
      have HW := Lib.hid (without_any N _ B p k wr (HBK.out.go HBr.out) HG.out)
      have HGD := Lib.hid (delB_good HG.out k)
      have hsl := sel_len (weakP B) k
      by_cases hp : safeN (delB B k) < safeN B
      · have HP : Hid (sel (weakP B) (k + 1) = sel (weakP B) k ++ [(k : Int)]) := sel_hit (decide_eq_true hp)
        have hpi : ((safeN (delB B k) : Nat) : Int) < ((safeN B : Nat) : Int) := by omega
        clear hp
        generalize sel (weakP B) k = q at *
        generalize safeN B = sn at *
        have HM := Lib.hid (fun (u : Value) (W : World) (hu : BookAt W.heap.size W u (delB B k)) => mostSafe_any W.heap.size u (delB B k) p W hu HGD.out)
        generalize safeN (delB B k) = sd at *
        go_wp2_with (first
          | (go_at_call 79; refine HW.out.mono ?_; clear HW; rintro e w2 ⟨⟨u, rfl, hu⟩, hb2⟩; have HU := Lib.hid hu; have HB2 := Lib.hid (bel HBr.out hb2); have HB2r := Lib.hid hb2; clear hu hb2)
          | (go_at_call 50; refine (HM.out _ _ HU.out).mono ?_; clear HM; rintro e w3 ⟨rfl, hb3⟩; have HB3 := Lib.hid (bel HB2.out hb3); have HO3 := Lib.hid (own_below ho.out (bel HB2r.out hb3)); have hs3 := HB3.out.size; clear hb3)
          | (at_builtin; refine wpList_append_own _ rfl _ _ 22 rfl ws.heap.size 3 i0 (.int .i64 0) 1 8 Try.underlying22 hi hz0 hz1 hz2 rfl (by decide) _ _ _ rfl (HO3.out.alloc _) ⟨w3.heap.size, 0, none⟩ 1 1 [.int .i64 k] rfl rfl (cell_one_new _ _ _) (by simp [Value.oneCell']) (by unfold maxLen; omega) (by omega) (by simp; omega) ?_; intro v' w4 hown4 hgrow _))
        go_roundw
        case rel => exact ⟨k + 1, by omega, by go_num, by rw [HP.out]; unfold Hid OwnI; rw [List.length_append, List.map_append]; exact hown4, (HB3.out.alloc HB3.out.size _).grown hgrow (by simp; omega) (fun j e => (HO3.out.lt j e).1)⟩
        case measure => simp [intOf]; omega
      · have HP : Hid (sel (weakP B) (k + 1) = sel (weakP B) k) := sel_miss (decide_eq_false hp)
        have hpi : ((safeN B : Nat) : Int) ≤ ((safeN (delB B k) : Nat) : Int) := by omega
        clear hp
        generalize sel (weakP B) k = q at *
        generalize safeN B = sn at *
        have HM := Lib.hid (fun (u : Value) (W : World) (hu : BookAt W.heap.size W u (delB B k)) => mostSafe_any W.heap.size u (delB B k) p W hu HGD.out)
        generalize safeN (delB B k) = sd at *
        go_wp2_with (first
          | (go_at_call 79; refine HW.out.mono ?_; clear HW; rintro e w2 ⟨⟨u, rfl, hu⟩, hb2⟩; have HU := Lib.hid hu; have HB2 := Lib.hid (bel HBr.out hb2); have HB2r := Lib.hid hb2; clear hu hb2)
          | (go_at_call 50; refine (HM.out _ _ HU.out).mono ?_; clear HM; rintro e w3 ⟨rfl, hb3⟩; have HB3 := Lib.hid (bel HB2.out hb3); have HO3 := Lib.hid (own_below ho.out (bel HB2r.out hb3)); have hs3 := HB3.out.size; clear hb3))
        go_roundw
        case rel => exact ⟨k + 1, by omega, by go_num, by rw [HP.out]; exact HO3.out, HB3⟩
        case measure => simp [intOf]; omega
    · have hk4 : k = B.ng := by omega
      subst hk4
      go_wp2
      go_ret
      exact ⟨_, rfl, (show OwnI w.heap.size wr _ _ from own_mono ho.out (Nat.le_of_lt hsz)), fin HB.out HBr.out⟩

end Go.Proofs.Ytnnngbnimmcjiaa
