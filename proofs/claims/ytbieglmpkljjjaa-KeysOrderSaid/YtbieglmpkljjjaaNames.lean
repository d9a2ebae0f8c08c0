/-
  Names: Names of the reference.
-/
import Derived.Test.YtbieglmpkljjjaaComes
import Derived.Test.YtbieglmpkljjjaaBest
namespace Go.Proofs.Ytbieglmpkljjjaa
open Go.RowKit

theorem res3 {fn : Func} {t u s : Tmp} (h : fn.results = #[.tmp t, .tmp u, .tmp s]) (tmps : Array Value) (P : Program) (w : World) :
    (results fn tmps).run P w = .ok (.tuple #[tmps.getD t undef, tmps.getD u undef, tmps.getD s undef]) w := by
  simp [results, h]
def questN (D : Nd) (x : Nat → Int) : Nat := (walk D x).length - 1
def isK (B : KB) (D : Nd) (k : Nat) : Bool := allB k fun i => decide (endOf D (B.X i) = (i : Int))
def worstN (B : KB) (D : Nd) : Nat → Nat
  | 0 => 0
  | k + 1 => max (worstN B D k) (questN D (B.X k))
def sumN (B : KB) (D : Nd) : Nat → Nat
  | 0 => 0
  | k + 1 => sumN B D k + questN D (B.X k)
theorem isK_succ (B : KB) (D : Nd) (k : Nat) : isK B D (k + 1) = (isK B D k && decide (endOf D (B.X k) = (k : Int))) := by
  unfold isK allB
  rw [List.range_succ, List.all_append]
  simp
theorem questN_le {B : KB} {D : Nd} {k : Nat} (hG : GoodB B) (hD : GoodN B.nv B.V B.ns D) (hk : k < B.ns) : questN D (B.X k) ≤ D.n := by
  have := walk_len hD (hG.X k hk)
  unfold questN; omega
theorem worstN_le {B : KB} {D : Nd} (hG : GoodB B) (hD : GoodN B.nv B.V B.ns D) : ∀ k, k ≤ B.ns → worstN B D k ≤ D.n := by
  intro k
  induction k with
  | zero => intro _; exact Nat.zero_le _
  | succ k ih => intro h; have h1 := ih (by omega); have h2 := questN_le hG hD (k := k) (by omega); simp only [worstN]; omega
theorem sumN_le {B : KB} {D : Nd} (hG : GoodB B) (hD : GoodN B.nv B.V B.ns D) : ∀ k, k ≤ B.ns → sumN B D k ≤ k * D.n := by
  intro k
  induction k with
  | zero => intro _; exact Nat.zero_le _
  | succ k ih => intro h; have h1 := ih (by omega); have h2 := questN_le hG hD (k := k) (by omega); simp only [sumN]; rw [Nat.succ_mul]; omega

set_option maxRecDepth 100000 in
set_option maxHeartbeats 6400000 in
theorem names_any (N : Nat) (v u : Value) (B : KB) (D : Nd) (w : World) (h : BookAt N w v B) (hu : NodesAt N w u D) (hG : GoodB B) (hD : GoodN B.nv B.V B.ns D) (h1000 : D.n ≤ 1000) :
    Calls Try.prog 38 #[v, u] w fun e w' => e = .returned (.tuple #[.bool (isK B D B.ns), .int .i64 (worstN B D B.ns), .int .i64 (sumN B D B.ns)]) ∧ Below w.heap.size w w' := by
  have hN := h.1
  have hns8 := hG.ns
  have h' := h
  obtain ⟨_, a1, z1, a2, z2, a3, z3, rfl, _⟩ := h'
  obtain ⟨ws, hws, HB, hsz, hblk⟩ := box1 w (.cells #[.slice a1 B.nv z1, .slice a2 B.ns z2, .slice a3 B.D.n z3] 26)
  have q0 := cell_blk hblk 0 rfl
  have q1 := cell_blk hblk 1 rfl
  have q2 := cell_blk hblk 2 rfl
  have HBK := Lib.hid (h.go HB.out)
  have HB0 : Hid (Below ws.heap.size ws ws) := Below.refl _ _
  have HNS : Hid (N ≤ ws.heap.size) := HBK.out.1
  have hlens := h.lens
  obtain ⟨hlv, hls, hln⟩ := hlens
  clear hblk h
  have HU := Lib.hid (hu.go hN HB.out)
  have HG := Lib.hid hG
  have HD := Lib.hid hD
  have HTH := Lib.hid h1000
  clear hu hG hD h1000
  go_enter Try.func38, Try.ntmps38
  go_wp2
  clear hws
  go_loopw [4, 5, 6, 7] (fun a b c i wr => ∃ k : Nat, k ≤ B.ns ∧ a = .bool (isK B D k) ∧ b = .int .i64 (worstN B D k) ∧ c = .int .i64 (sumN B D k) ∧ i = .int .i64 k ∧ Hid (Below ws.heap.size ws wr)) (fun _ _ _ i _ => B.ns - (intOf i).toNat)
  case atStart => exact ⟨0, Nat.zero_le _, rfl, rfl, rfl, rfl, HB0⟩
  case round =>
    obtain ⟨k, hk, rfl, rfl, rfl, rfl, HB3⟩ := hrel
    have c3 := (old_of HB3.out).1
    by_cases hkn : k < B.ns
    · obtain ⟨b, off, rfl, hbN, hr⟩ := (HBK.out.go (HB3.out)).sorts.cells (by omega)
      obtain ⟨ai, ci, hcell, hints⟩ := hr k hkn
      have HI := Lib.hid hints
      have HXK := Lib.hid (HG.out.X k hkn)
      have HN2 : Hid (N ≤ wr.heap.size) := Nat.le_trans HNS.out HB3.out.size
      have HU2 := Lib.hid (HU.out.go HNS.out HB3.out)
      have hki : (k : Int) < (B.ns : Int) := by omega
      clear hr hints
      have hw1 := walk_len HD.out HXK.out
      have hwp : 1 ≤ (walk D (B.X k)).length := by obtain ⟨pre, k', e, _⟩ := walk_last HD.out HXK.out; rw [e]; simp
      have hww := worstN_le HG.out HD.out k (by omega)
      have hsm := sumN_le HG.out HD.out k (by omega)
      have hsm2 : k * D.n ≤ 8 * 1000 := Nat.mul_le_mul (by omega) HTH.out
      have hq : questN D (B.X k) = (walk D (B.X k)).length - 1 := rfl
      have h1000 := HTH.out
      have hwr1 : IntKind.i64.wrap (((walk D (B.X k)).length : Int) - 1) = (questN D (B.X k) : Int) := by rw [IntWalk.i64_in _ (by omega)]; omega
      have hwr2 : IntKind.i64.wrap ((sumN B D k : Int) + (questN D (B.X k) : Int)) = (sumN B D (k + 1) : Int) := by rw [IntWalk.i64_in _ (by omega)]; simp only [sumN]; omega
      have HLQ := Lib.hid hwr1
      have hW1 : Hid (worstN B D (k + 1) = max (worstN B D k) (questN D (B.X k))) := rfl
      have hI1 : Hid (isK B D (k + 1) = (isK B D k && decide (endOf D (B.X k) = (k : Int)))) := isK_succ B D k
      obtain ⟨W, hW⟩ : ∃ W, worstN B D k = W := ⟨_, rfl⟩
      obtain ⟨Q, hQ⟩ : ∃ Q, questN D (B.X k) = Q := ⟨_, rfl⟩
      obtain ⟨S1, hS1⟩ : ∃ S1, sumN B D (k + 1) = S1 := ⟨_, rfl⟩
      obtain ⟨S0, hS0⟩ : ∃ S0, sumN B D k = S0 := ⟨_, rfl⟩
      obtain ⟨b0, hb0⟩ : ∃ b0, isK B D k = b0 := ⟨_, rfl⟩
      obtain ⟨E, hE⟩ : ∃ E, endOf D (B.X k) = E := ⟨_, rfl⟩
      obtain ⟨Lw, hLw⟩ : ∃ Lw, (walk D (B.X k)).length = Lw := ⟨_, rfl⟩
      simp only [hS1, hS0, hQ, hLw] at hwr1 hwr2
      simp only [hW, hQ] at hW1
      simp only [hb0, hE] at hI1
      rw [hW, hS0, hb0]
      have HS1 := Lib.hid hS1
      have HE := Lib.hid hE
      have HLw := Lib.hid hLw
      clear hq hS1 hS0 hQ hW hb0 hE hLw hw1 hwp hww hsm hsm2 h1000 HLQ
      have finish : ∀ (W1 : Nat) (b1 : Bool) (w' : World), W1 = max W Q → b1 = (b0 && decide (E = (k : Int))) → Below ws.heap.size ws w' → ∃ k', k' ≤ B.ns ∧ Value.bool b1 = .bool (isK B D k') ∧ Value.int .i64 W1 = .int .i64 (worstN B D k') ∧ Value.int .i64 S1 = .int .i64 (sumN B D k') ∧ Value.int .i64 ((k : Int) + 1) = .int .i64 k' ∧ Hid (Below ws.heap.size ws w') := fun W1 b1 w' h1 h2 h3 => ⟨k + 1, by omega, by rw [hI1.out, h2], by rw [hW1.out, h1], by rw [HS1.out], by go_num, h3⟩
      have FIN := Lib.hid finish
      clear finish hW1 hI1 HS1
      by_cases hm : (W : Int) < (Q : Int)
      all_goals have HMX := Lib.hid hm
      all_goals cases b0 with
        | false =>
          go_wp2_with (first
            | (go_at_call 23; refine (walkOf_any N _ _ D B.nv B.V B.ns _ _ _ HU2.out HI.out HN2.out HD.out HXK.out HTH.out).mono ?_; rintro e w4 ⟨v4, rfl, ho4, hb4⟩; obtain ⟨a4, c4, hv4⟩ := own_form ho4; rw [ints_len, HLw.out] at hv4; subst hv4; have HB4 := Lib.hid hb4; clear ho4 hb4))
          go_roundw
          case rel => exact FIN.out _ _ _ (by have := HMX.out; omega) rfl (HB3.out.trans (HB4.out.mono HB3.out.size))
          case measure => simp [intOf]; omega
        | true =>
          go_wp2_with (first
            | (go_at_call 23; refine (walkOf_any N _ _ D B.nv B.V B.ns _ _ _ HU2.out HI.out HN2.out HD.out HXK.out HTH.out).mono ?_; rintro e w4 ⟨v4, rfl, ho4, hb4⟩; obtain ⟨a4, c4, hv4⟩ := own_form ho4; rw [ints_len, HLw.out] at hv4; subst hv4; have HB4 := Lib.hid hb4; clear ho4 hb4; have HB5 := Lib.hid (HB3.out.trans (HB4.out.mono HB3.out.size)); have c5 := (old_of HB5.out).1; have hcell5 := (HB4.out.cell (p := ⟨b, off + k, none⟩) (Nat.lt_of_lt_of_le hbN HN2.out)).trans hcell)
            | (go_at_call 25; refine (endOf_any N _ _ D B.nv B.V B.ns _ _ _ (HU2.out.go HN2.out HB4.out) (HI.out.go HN2.out HB4.out) (Nat.le_trans HN2.out HB4.out.size) HD.out HXK.out HTH.out).mono ?_; rw [HE.out]; rintro e w6 ⟨rfl, hb6⟩; have HB6 := Lib.hid hb6; clear hb6))
          go_roundw
          case rel => exact FIN.out _ _ _ (by have := HMX.out; omega) (by rw [Bool.true_and]; rfl) (HB5.out.trans (HB6.out.mono HB5.out.size))
          case measure => simp [intOf]; omega
    · have hki : ¬ (k : Int) < (B.ns : Int) := by omega
      obtain rfl : k = B.ns := by omega
      go_wp2
      (try simp only [Exit.inBlock, Exit.then])
      refine bodyPost_ret (res3 rfl _ _ _) rfl ?_
      exact ⟨rfl, fin HB.out HB3.out⟩

end Go.Proofs.Ytbieglmpkljjjaa
