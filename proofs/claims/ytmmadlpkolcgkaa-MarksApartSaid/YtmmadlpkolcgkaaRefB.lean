/-
  The chapter's own answers: WrongOf, ask, Wrong, Fewest.
-/
import Derived.Test.YtmmadlpkolcgkaaRefA
import Derived.Deep.RegionHeld3
namespace Go.Proofs.Ytmmadlpkolcgkaa
open Go.RowKit

/-- all that was there below n is there still -/
def Old (n : Nat) (wr w' : World) : Prop := (∀ b o, b < n → w'.cell? ⟨b, o, none⟩ = wr.cell? ⟨b, o, none⟩) ∧ Hid (Below n wr w')
theorem old_of {n : Nat} {wr w' : World} (h : Below n wr w') : Old n wr w' := ⟨fun b o hb => h.cell (p := ⟨b, o, none⟩) hb, h⟩

theorem old_more {wr w0 w1 : World} (h : Old wr.heap.size wr w0) (k : Below w0.heap.size w0 w1) : Old wr.heap.size wr w1 := old_of (step h.2.out (Nat.le_refl _) k)
theorem old_mark (wr : World) : (∀ b o, b < wr.heap.size → wr.drew.cell? ⟨b, o, none⟩ = wr.cell? ⟨b, o, none⟩) ∧ Hid (Below wr.heap.size wr wr.drew) := old_of (Below.refl _ _).drew

set_option maxHeartbeats 1000000 in
theorem wrongOf_any (N : Nat) (v u : Value) (B : Bk) (R : Fr) (s : Nat) (w : World) (h : BookAt N w v B) (hf : FruitsAt N w u R) (hg : Good B R) (hs : s < B.ns) :
    Calls Try.prog 69 #[v, u, .int .i64 s] w fun e w' => e = .returned (.int .i64 (wrong B R s)) ∧ Below w.heap.size w w' := by
  have H : Hid (BookAt N w v B) := h
  have HF : Hid (FruitsAt N w u R) := hf
  have HG : Hid _ := Lib.hid hg
  obtain ⟨hN, a1, c1, a2, c2, a3, c3, rfl, h1, h2, h3⟩ := h
  have hn6 := hg.nv
  obtain ⟨_, _, e3, _, hc3⟩ := h3
  cases e3
  obtain ⟨b3, off3, rfl, hb3, hr3⟩ := hc3 (by omega)
  obtain ⟨r3, hcell3, ao, cap, rfl, hnc, hcr⟩ := hr3 s hs
  have hsn : (s : Int) < (B.ns : Int) := by omega
  have HCR : Hid _ := Lib.hid hcr
  have HC3 : Hid _ := Lib.hid hcell3
  clear hg h1 h2 hc3 hr3 hcr hcell3 hf
  go_enter Try.func69, Try.ntmps69
  go_wp2
  go_loopw [7, 8] (fun t i wr => ∃ k : Nat, k ≤ B.nv ∧ i = .int .i64 k ∧ t = .int .i64 (sumTo k (lm B R s)) ∧ Hid (Below (w.heap.size + 1) (w.alloc (.cells #[.slice a1 B.nv c1, .slice a2 B.nf c2, .slice (some ⟨b3, off3, none⟩) B.ns c3, .int .i64 B.wr] 25)) wr)) (fun _ i _ => B.nv - (intOf i).toNat)
  case atStart => exact ⟨0, Nat.zero_le _, rfl, rfl, Below.refl _ _⟩
  case round =>
    obtain ⟨k, hk, rfl, rfl, hB⟩ := hrel
    have q0 := box_cell hB.out 0 rfl
    have q1 := box_cell hB.out 1 rfl
    have q2 := box_cell hB.out 2 rfl
    have q3 := box_cell hB.out 3 rfl
    have hsz := size_of hB.out
    have hbw := below_of hB.out
    by_cases hkn : k < B.nv
    · have hle : sumTo k (lm B R s) ≤ 30 := by
        have h1 := sumTo_le k (lm B R s) 5 fun i _ => Nat.le_trans (lm_le B R s i) HG.out.n
        omega
      have hl5 : lm B R s k ≤ 5 := Nat.le_trans (lm_le B R s k) HG.out.n
      have HE : Hid (sumTo (k + 1) (lm B R s) = sumTo k (lm B R s) + lm B R s k) := rfl
      have hkc : k < B.nc s := by rw [HG.out.nc s hs]; exact hkn
      obtain ⟨b4, off4, rfl, hb4, hr4⟩ := HCR.out (by omega)
      obtain ⟨r4, hcell4, hints⟩ := hr4 k hkc
      have hkci : (k : Int) < (B.nc s : Int) := by omega
      have q5 := (hbw.cell (p := ⟨b3, off3 + s, none⟩) (by show b3 < _; omega)).trans HC3.out
      have q6 := (hbw.cell (p := ⟨b4, off4 + k, none⟩) (by show b4 < _; omega)).trans hcell4
      have g3 : b3 < wr.heap.size := by omega
      have g4 : b4 < wr.heap.size := by omega
      have HI : Hid _ := Lib.hid hints
      have HO : Hid (ofm B R k (B.ncc s k) (B.can s k) = lm B R s k) := ofm_can (HG.out.ncc s hs k hkn) (by have := HG.out.n; omega)
      have hS0 := old_mark wr
      have HS0 : Hid _ := Lib.hid hS0
      have HBW : Hid _ := Lib.hid hbw
      clear hr4 hcell4 hints hkc hbw
      have HSZ : Hid _ := Lib.hid hsz
      generalize sumTo k (lm B R s) = t at *
      have e1 : IntKind.i64.wrap ((t : Int) + (lm B R s k : Int)) = (t : Int) + (lm B R s k : Int) := IntWalk.i64_in _ (by omega)
      go_wp2
      go_region_held3 (fun w' => (∀ b o, b < wr.heap.size → w'.cell? ⟨b, o, none⟩ = wr.cell? ⟨b, o, none⟩) ∧ Hid (Below wr.heap.size wr w')) (assumption)
        (first | (go_at_call 90; refine (ofMark_any N N _ _ _ B R k _ _ _ (H.out.chain (chain hB.out (Below.refl _ _).drew)) (RowsAt.chain HF.out hN (chain hB.out (Below.refl _ _).drew)) (HI.out.mono ((HBW.out.drew).mono hN) (Nat.le_refl _)) (by have := HBW.out.size; simp; omega) (by rw [HG.out.nf]; exact hkn) (fun f hf => by rw [HG.out.L f hf]; exact hkn)).mono ?_; rintro e w1 ⟨rfl, hb1⟩; rw [HO.out]; have S1 := old_more HS0.out hb1))
      have HS1 : Hid _ := Lib.hid S1
      clear S1 hS0 e1
      go_wp2
      go_roundw
      case rel => exact ⟨k + 1, by omega, by go_num, by rw [HE.out]; go_num, step hB.out (by simp) HS1.out.2.out⟩
      case measure => simp [intOf]; omega
    · have Hk : Hid (k = B.nv) := by show k = _; omega
      go_wp2
      go_ret
      exact ⟨ret_int (congrArg (fun q => ((sumTo q (lm B R s) : Nat) : Int)) Hk.out), hbw⟩

end Go.Proofs.Ytmmadlpkolcgkaa
