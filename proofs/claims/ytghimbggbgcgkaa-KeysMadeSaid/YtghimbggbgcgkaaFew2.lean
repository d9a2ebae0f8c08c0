/-
  Few2: AreApart, Few of the reference.
-/
import Derived.Test.YtghimbggbgcgkaaFew
import Derived.Test.YtghimbggbgcgkaaLEach
namespace Go.Proofs.Ytghimbggbgcgkaa
open Go.RowKit

theorem has_bitsI : ∀ s : Fin 256, ∀ i : Fin 8, (bits BinOp.and IntKind.i64 ((s.val : Int) / 2 ^ i.val) 1 == 1) = s.val.testBit i.val := by decide +kernel
theorem apartL_mem {B : KB} {s t n m : Nat} : m ∈ apartL B s t n ↔ m < n ∧ B.X s m ≠ B.X t m := by unfold apartL; simp [List.mem_filter]
theorem apartS_bit {B : KB} (hG : GoodB B) (s t i : Nat) : (apartS B s t).testBit i = (decide (i < B.nv) && decide (B.X s i ≠ B.X t i)) := by
  unfold apartS
  exact (setF_spec _ B.nv (by have := hG.nv; omega)).2 i
/-- a mark of some tells two sorts apart -/
theorem any_and {B : KB} (hG : GoodB B) (s t m : Nat) (_ : m < 256) : ((apartL B s t B.nv).any fun i => m.testBit i) = decide (apartS B s t &&& m ≠ 0) := by
  rw [Bool.eq_iff_iff, List.any_eq_true, decide_eq_true_eq]
  constructor
  · rintro ⟨i, hi, hb⟩ e
    have h1 := apartS_bit hG s t i
    obtain ⟨a, b⟩ := apartL_mem.1 hi
    have h2 : (apartS B s t &&& m).testBit i = true := by rw [Nat.testBit_and, h1, hb]; simp [a, b]
    rw [e] at h2; simp at h2
  · intro h
    obtain ⟨i, hi⟩ := Nat.exists_testBit_of_ne_zero h
    rw [Nat.testBit_and, apartS_bit hG, Bool.and_eq_true, Bool.and_eq_true, decide_eq_true_eq, decide_eq_true_eq] at hi
    exact ⟨i, apartL_mem.2 hi.1, hi.2⟩
theorem pairsL_in {B : KB} {n i j : Nat} (h : j < i) (hi : i < n) : apartS B i j ∈ pairsL B n := by
  unfold pairsL
  exact List.mem_flatMap.2 ⟨i, List.mem_range.2 hi, List.mem_map.2 ⟨j, List.mem_range.2 h, rfl⟩⟩
theorem tellL_iff {B : KB} {n m : Nat} : tellL (pairsL B n) m = true ↔ ∀ i j, j < i → i < n → apartS B i j &&& m ≠ 0 := by
  unfold tellL
  rw [List.all_eq_true]
  constructor
  · intro h i j h1 h2; exact of_decide_eq_true (h _ (pairsL_in h1 h2))
  · intro h d hd
    obtain ⟨i, j, h1, h2, rfl⟩ := pairsL_mem hd
    exact decide_eq_true (h i j h1 h2)

set_option maxRecDepth 100000 in
set_option maxHeartbeats 4000000 in
theorem areApart_any (N : Nat) (v : Value) (B : KB) (m : Nat) (w : World) (h : BookAt N w v B) (hG : GoodB B) (hm : m < 256) :
    Calls Try.prog 41 #[v, .int .i64 m] w fun e w' => e = .returned (.bool (tellL (pairsL B B.ns) m)) ∧ Below w.heap.size w w' := by
  have h' := h
  obtain ⟨_, a1, z1, a2, z2, a3, z3, rfl, _⟩ := h'
  obtain ⟨ws, hws, HB, hsz, hblk⟩ := box1 w (.cells #[.slice a1 B.nv z1, .slice a2 B.ns z2, .slice a3 B.D.n z3] 26)
  have q0 := cell_blk hblk 0 rfl
  have q1 := cell_blk hblk 1 rfl
  have q2 := cell_blk hblk 2 rfl
  have HBK := Lib.hid (h.go HB.out)
  have HB0 : Hid (Below ws.heap.size ws ws) := Below.refl _ _
  have HNS : Hid (N ≤ ws.heap.size) := HBK.out.1
  have hlens := h.lens
  obtain ⟨hlv, hls, hln⟩ := hlens
  clear hblk h
  have HG := Lib.hid hG
  have hns8 := hG.ns
  have hnv5 := hG.nv
  clear hG
  go_enter Try.func41, Try.ntmps41
  go_wp2
  clear hws
  go_loopw [5] (fun i wr => ∃ k : Nat, k ≤ B.ns ∧ i = .int .i64 k ∧ Hid (Below ws.heap.size ws wr) ∧ Hid (∀ i j, j < i → i < k → apartS B i j &&& m ≠ 0)) (fun i _ => B.ns - (intOf i).toNat)
  case atStart => exact ⟨0, Nat.zero_le _, rfl, HB0, fun i j _ h => absurd h (Nat.not_lt_zero i)⟩
  case round =>
  obtain ⟨i, hi, rfl, HBi, HI⟩ := hrel
  have ci := (old_of HBi.out).1
  by_cases hin : i < B.ns
  · have hii : (i : Int) < (B.ns : Int) := by omega
    have HIN := Lib.hid hin
    have hJ0 : Hid (∀ j, j < 0 → apartS B i j &&& m ≠ 0) := fun j h => absurd h (Nat.not_lt_zero j)
    clear hin hi
    go_wp2
    go_loopw [6] (fun t wr => ∃ j : Nat, j ≤ i ∧ t = .int .i64 j ∧ Hid (Below ws.heap.size ws wr) ∧ Hid (∀ k, k < j → apartS B i k &&& m ≠ 0)) (fun t _ => i - (intOf t).toNat)
    case atStart => exact ⟨0, Nat.zero_le _, rfl, HBi, hJ0⟩
    case round =>
    clear ci hJ0 HBi
    obtain ⟨j, hj, rfl, HBj, HJ⟩ := hrel
    have cj := (old_of HBj.out).1
    have hszj := Nat.lt_of_lt_of_le hsz HBj.out.size
    by_cases hji : j < i
    · have hjii : (j : Int) < (i : Int) := by omega
      have HJI := Lib.hid hji
      have hjn : j < B.ns := by have := HIN.out; omega
      have HLN := apartL_len B i j B.nv
      have HAA := Lib.hid (any_and HG.out i j m hm)
      clear hj hji
      go_wp2_with (go_at_call 92; go_must (refine (apartOf_any N _ B i j _ (HBK.out.go HBj.out) HG.out HIN.out hjn).mono ?_; rintro e w3 ⟨v3, rfl, ho3, hb3⟩; obtain ⟨a3', c3', hv3⟩ := own_form ho3; rw [ints_len] at hv3; subst hv3; have HO3 := Lib.hid ho3; clear ho3; (try clear cj); have HB3 := Lib.hid (bel HBj.out hb3); have c3 := (old_of HB3.out).1; clear hb3))
      obtain ⟨L, hL⟩ : ∃ L, apartL B i j B.nv = L := ⟨_, rfl⟩
      have HLM : Hid (∀ q, q < L.length → L.getD q 0 < 8) := fun q hq => by
        have h9 : L.getD q 0 ∈ apartL B i j B.nv := by rw [hL]; exact getD_mem'.2 ⟨q, hq, rfl⟩
        have := (apartL_mem.1 h9).1; omega
      rw [hL] at HO3 HLN HAA ⊢
      have HCL : Hid (∀ q, q < L.length → ∃ g, a3' = some ⟨g, 0, none⟩ ∧ g < w3.heap.size ∧ w3.cell? ⟨g, q, none⟩ = some (.int .i64 (L.getD q 0 : Nat))) := fun q hq => by
        obtain ⟨g, c, e, h1, h2⟩ := own_nats HO3.out (by omega) (by omega)
        cases e
        exact ⟨g, rfl, h1, h2 q hq⟩
      clear HO3 hL
      go_loop [8, 9] (fun b t => ∃ q : Nat, q ≤ L.length ∧ t = .int .i64 q ∧ b = .bool ((L.take q).any fun i => m.testBit i)) (fun _ t => L.length - (intOf t).toNat)
      case atStart => exact ⟨0, Nat.zero_le _, rfl, rfl⟩
      case round =>
        obtain ⟨q, hq, rfl, rfl⟩ := hrel
        by_cases hqn : q < L.length
        · have hqi : (q : Int) < (L.length : Int) := by omega
          obtain ⟨g, rfl, hg, hcg⟩ := HCL.out q hqn
          have hl8 := HLM.out q hqn
          have hbit := has_bitsI ⟨m, hm⟩ ⟨L.getD q 0, hl8⟩
          simp only at hbit
          have HT : Hid (((L.take (q + 1)).any fun i => m.testBit i) = (((L.take q).any fun i => m.testBit i) || m.testBit (L.getD q 0))) := by
            unfold Hid
            rw [List.take_add_one, List.any_append]
            simp [List.getD, hqn]
          have HQ := Lib.hid hqn
          obtain ⟨p, hp⟩ : ∃ p, L.getD q 0 = p := ⟨_, rfl⟩
          rw [hp] at hcg hl8 hbit HT
          have hp0 : ¬ ((p : Nat) : Int) < 0 := by omega
          clear hqn hq hp
          cases hb1 : ((L.take q).any fun i => m.testBit i) with
          | true =>
            rw [hb1] at HT
            have HT1 : Hid (((L.take (q + 1)).any fun i => m.testBit i) = true) := by unfold Hid; rw [HT.out]; rfl
            clear HT hb1
            go_wp2
            go_round
            case rel => exact ⟨q + 1, HQ.out, by go_num, by rw [HT1.out]⟩
            case measure => simp [intOf]; have := HQ.out; omega
          | false =>
            rw [hb1] at HT
            obtain ⟨tb, htb⟩ : ∃ tb, m.testBit p = tb := ⟨_, rfl⟩
            rw [htb] at HT hbit
            have HT1 : Hid (((L.take (q + 1)).any fun i => m.testBit i) = tb) := by unfold Hid; rw [HT.out]; rfl
            clear HT hb1 htb
            go_wp2
            go_round
            case rel => exact ⟨q + 1, HQ.out, by go_num, by rw [HT1.out]⟩
            case measure => simp [intOf]; have := HQ.out; omega
        · have hqi : ¬ (q : Int) < (L.length : Int) := by omega
          have hall : ((L.take q).any fun i => m.testBit i) = decide (apartS B i j &&& m ≠ 0) := by rw [List.take_of_length_le (by omega)]; exact HAA.out
          rw [hall]
          by_cases hz : apartS B i j &&& m = 0
          · have hzd : decide (apartS B i j &&& m ≠ 0) = false := by simp [hz]
            rw [hzd]
            have HF : Hid (tellL (pairsL B B.ns) m = false) := by
              unfold Hid
              rw [Bool.eq_false_iff]
              intro e
              exact tellL_iff.1 e i j HJI.out HIN.out hz
            clear hz hzd hall hq hqn
            go_wp2
            go_ret
            exact ⟨ret_bool HF.out.symm, fin HB.out HB3.out⟩
          · have hzd : decide (apartS B i j &&& m ≠ 0) = true := by simp [hz]
            rw [hzd]
            have HZ := Lib.hid hz
            clear hz hzd hall hq hqn
            go_wp2
            go_roundw
            case rel => exact ⟨j + 1, HJI.out, by have := HIN.out; go_num, HB3, lt_succ HJ.out HZ.out⟩
            case measure => simp [intOf]; have := HJI.out; omega
    · have hjii : ¬ (j : Int) < (i : Int) := by omega
      have hje : j = i := by omega
      subst hje
      go_wp2
      go_roundw
      case rel => exact ⟨j + 1, HIN.out, by have := HIN.out; go_num, HBj, fun a b h1 h2 => by
        by_cases e : a = j
        · subst e; exact HJ.out b h1
        · exact HI.out a b h1 (by omega)⟩
      case measure => simp [intOf]; have := HIN.out; omega
  · have hii : ¬ (i : Int) < (B.ns : Int) := by omega
    have HT : Hid (tellL (pairsL B B.ns) m = true) := tellL_iff.2 fun a b h1 h2 => HI.out a b h1 (by omega)
    go_wp2
    go_ret
    exact ⟨ret_bool HT.out.symm, fin HB.out HBi.out⟩

end Go.Proofs.Ytghimbggbgcgkaa
