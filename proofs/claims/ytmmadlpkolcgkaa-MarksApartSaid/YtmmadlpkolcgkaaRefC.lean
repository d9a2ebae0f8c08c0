/-
  The chapter's own answers: ask, Wrong, Fewest, SortsOf, known, Sorts, Is.
-/
import Derived.Test.YtmmadlpkolcgkaaRefB
namespace Go.Proofs.Ytmmadlpkolcgkaa
open Go.RowKit

def eAsk (B : Bk) (R : Fr) (is : Bool) : Int := if chk B R ≠ 0 then chk B R else if is then 0 else 1

theorem ask_chk {B : Bk} {R : Fr} {is : Bool} (h : chk B R ≠ 0) : eAsk B R is = chk B R := if_pos h
theorem ask_ok {B : Bk} {R : Fr} (h : chk B R = 0) : eAsk B R true = 0 := by simp [eAsk, h]
theorem ask_arg {B : Bk} {R : Fr} (h : chk B R = 0) : eAsk B R false = 1 := by simp [eAsk, h]

theorem box1 (w : World) (o : Obj) : ∃ ws : World, w.alloc o = ws ∧ Hid (Below w.heap.size w ws) ∧ w.heap.size < ws.heap.size ∧ ws.heap[w.heap.size]? = some o :=
  ⟨_, rfl, below_alloc (Nat.le_refl _) _, by simp, World.alloc_heap_new _ _⟩
theorem box2 (w : World) (o o' : Obj) : ∃ ws : World, (w.alloc o).alloc o' = ws ∧ Hid (Below w.heap.size w ws) ∧ w.heap.size < ws.heap.size ∧ w.heap.size + 1 < ws.heap.size ∧ ws.heap[w.heap.size]? = some o ∧ ws.heap[w.heap.size + 1]? = some o' := by
  refine ⟨_, rfl, below2 (Nat.le_refl _) _ _, by simp; omega, by simp, ?_, ?_⟩
  · rw [Below.heap_alloc _ _ _ (by simp)]; exact World.alloc_heap_new _ _
  · have := World.alloc_heap_new (w.alloc o) o'
    rwa [World.size_alloc] at this

theorem bel {ws wj wk : World} (h : Below ws.heap.size ws wj) (k : Below wj.heap.size wj wk) : Below ws.heap.size ws wk := step h (Nat.le_refl _) k
theorem fin {w ws wk : World} (h : Below w.heap.size w ws) (k : Below ws.heap.size ws wk) : Below w.heap.size w wk := h.trans (k.mono h.size)

theorem BookAt.go {n : Nat} {ws wk : World} {v : Value} {B : Bk} (h : BookAt n ws v B) (k : Below ws.heap.size ws wk) : BookAt n wk v B :=
  h.mono (k.mono h.1) (Nat.le_refl _) (Nat.le_trans h.1 k.size)

/-- a book and fruits -/
def BF (n : Nat) (w : World) (v u : Value) (B : Bk) (R : Fr) : Prop := BookAt n w v B ∧ FruitsAt n w u R
theorem BF.go {n : Nat} {ws wk : World} {v u : Value} {B : Bk} {R : Fr} (h : BF n ws v u B R) (k : Below ws.heap.size ws wk) : BF n wk v u B R :=
  ⟨h.1.go k, RowsAt.mono h.2 (k.mono h.1.1) (Nat.le_refl _)⟩
theorem entry {N : Nat} {w ws : World} {v u : Value} {B : Bk} {R : Fr} (hB : Below w.heap.size w ws) (h : BookAt N w v B) (hf : FruitsAt N w u R) :
    Hid (BF N ws v u B R) ∧ Hid (Below ws.heap.size ws ws) :=
  ⟨BF.go ⟨h, hf⟩ hB, Below.refl _ _⟩

set_option maxHeartbeats 800000 in
theorem ask_any (N : Nat) (v u : Value) (B : Bk) (R : Fr) (is : Bool) (w : World) (h : BookAt N w v B) (hf : FruitsAt N w u R) :
    Calls Try.prog 68 #[v, u, .bool is] w fun e w' => e = .returned (.int .i64 (eAsk B R is)) ∧ Below w.heap.size w w' := by
  have h' := h
  obtain ⟨_, a1, c1, a2, c2, a3, c3, rfl, _⟩ := h'
  obtain ⟨ws, hws, HB, hsz, hblk⟩ := box1 w (.cells #[.slice a1 B.nv c1, .slice a2 B.nf c2, .slice a3 B.ns c3, .int .i64 B.wr] 25)
  have q0 := cell_blk hblk 0 rfl
  have q1 := cell_blk hblk 1 rfl
  have q2 := cell_blk hblk 2 rfl
  have q3 := cell_blk hblk 3 rfl
  obtain ⟨HBF, HB0⟩ := entry HB.out h hf
  clear hblk h hf
  by_cases hc : chk B R = 0
  · have hcb : (chk B R != 0) = false := by simp [hc]
    have HC : Hid _ := Lib.hid hc
    clear hc
    cases is
    all_goals
      go_enter Try.func68, Try.ntmps68
      go_wp2_with (go_at_call 19; refine (rCheck_any N _ _ B R _ (HBF.out.go HB0.out).1 (HBF.out.go HB0.out).2).mono ?_; rintro e w1 ⟨rfl, hb1⟩; (try clear c0); have HB1 := Lib.hid (bel HB0.out hb1); have c1 := (old_of HB1.out).1; clear hb1)
      go_ret
      exact ⟨ret_int (by simp [eAsk, HC.out]), fin HB.out HB1.out⟩
  · have hcb : (chk B R != 0) = true := by simp [hc]
    have HC : Hid _ := Lib.hid hc
    clear hc
    go_enter Try.func68, Try.ntmps68
    go_wp2_with (go_at_call 19; refine (rCheck_any N _ _ B R _ (HBF.out.go HB0.out).1 (HBF.out.go HB0.out).2).mono ?_; rintro e w1 ⟨rfl, hb1⟩; (try clear c0); have HB1 := Lib.hid (bel HB0.out hb1); have c1 := (old_of HB1.out).1; clear hb1)
    go_ret
    exact ⟨ret_int (by unfold eAsk; rw [if_pos HC.out]), fin HB.out HB1.out⟩

set_option maxHeartbeats 2000000 in
theorem rWrong_any (N : Nat) (v u : Value) (B : Bk) (R : Fr) (s : Int) (w : World) (h : BookAt N w v B) (hf : FruitsAt N w u R) :
    Calls Try.prog 21 #[v, u, .int .i64 s] w fun e w' => e = .returned (.tuple #[.int .i64 (eWrong B R s).1, .int .i64 (eWrong B R s).2]) ∧ Below w.heap.size w w' := by
  have h' := h
  obtain ⟨_, a1, c1, a2, c2, a3, c3, rfl, _⟩ := h'
  obtain ⟨ws, hws, HB, hsz, hblk⟩ := box1 w (.cells #[.slice a1 B.nv c1, .slice a2 B.nf c2, .slice a3 B.ns c3, .int .i64 B.wr] 25)
  have q0 := cell_blk hblk 0 rfl
  have q1 := cell_blk hblk 1 rfl
  have q2 := cell_blk hblk 2 rfl
  have q3 := cell_blk hblk 3 rfl
  obtain ⟨HBF, HB0⟩ := entry HB.out h hf
  clear hblk h hf
  have S0d := old_of HB0.out.drew; have HB0d := S0d.2
  obtain ⟨is, his⟩ : ∃ is, (decide (0 ≤ s) && decide (s < (B.ns : Int))) = is := ⟨_, rfl⟩
  have HIN : Hid _ := Lib.hid his
  by_cases hc : chk B R = 0
  · have HC : Hid _ := Lib.hid hc
    cases is with
    | false =>
      have HA : Hid (eAsk B R false = 1) := ask_arg hc
      clear hc his
      go_enter Try.func21, Try.ntmps21
      go_wp2
      clear hws
      go_region_held3 (fun w' => (∀ b o, b < ws.heap.size → w'.cell? ⟨b, o, none⟩ = ws.cell? ⟨b, o, none⟩) ∧ Hid (Below ws.heap.size ws w')) (assumption) (first
        | (go_at_call 54; refine (isSort_any N _ B s _ (HBF.out.go HB0d.out).1).mono ?_; rintro e w1 ⟨rfl, hb1⟩; rw [HIN.out]; have S1 := old_of (bel HB0d.out hb1); have HB1 := S1.2; clear hb1)
        | (go_at_call 68; refine (ask_any N _ _ B R _ _ (HBF.out.go HB1.out).1 (HBF.out.go HB1.out).2).mono ?_; rintro e w2 ⟨rfl, hb2⟩; rw [HA.out]; have S2 := old_of (bel HB1.out hb2); have HB2 := S2.2; clear hb2))
      have HB2 := S2.2; have c2 := S2.1; clear S2 S0d
      go_wp2
      go_ret2
      exact ⟨by rw [eWrong, if_neg (by simp [HC.out]), if_neg (by rw [HIN.out]; simp)]; rfl, fin HB.out HB2.out⟩
    | true =>
      obtain ⟨k, rfl, hk⟩ : ∃ k : Nat, s = k ∧ k < B.ns := ⟨s.toNat, by simp at his; omega, by simp at his; omega⟩
      have HA : Hid (eAsk B R true = 0) := ask_ok hc
      have HG : Hid (Good B R) := chk_good hc
      clear hc his
      go_enter Try.func21, Try.ntmps21
      go_wp2
      clear hws
      go_region_held3 (fun w' => (∀ b o, b < ws.heap.size → w'.cell? ⟨b, o, none⟩ = ws.cell? ⟨b, o, none⟩) ∧ Hid (Below ws.heap.size ws w')) (assumption) (first
        | (go_at_call 54; refine (isSort_any N _ B k _ (HBF.out.go HB0d.out).1).mono ?_; rintro e w1 ⟨rfl, hb1⟩; rw [HIN.out]; have S1 := old_of (bel HB0d.out hb1); have HB1 := S1.2; clear hb1)
        | (go_at_call 68; refine (ask_any N _ _ B R _ _ (HBF.out.go HB1.out).1 (HBF.out.go HB1.out).2).mono ?_; rintro e w2 ⟨rfl, hb2⟩; rw [HA.out]; have S2 := old_of (bel HB1.out hb2); have HB2 := S2.2; clear hb2))
      have HB2 := S2.2; have c2 := S2.1; clear S2 S0d
      go_wp2_with (go_at_call 69; refine (wrongOf_any N _ _ B R k _ (HBF.out.go HB2.out).1 (HBF.out.go HB2.out).2 HG.out hk).mono ?_; rintro e w3 ⟨rfl, hb3⟩; (try clear c2); have HB3 := Lib.hid (bel HB2.out hb3); have c3 := (old_of HB3.out).1; clear hb3)
      go_ret2
      exact ⟨by rw [eWrong, if_neg (by simp [HC.out]), if_pos HIN.out]; rfl, fin HB.out HB3.out⟩
  · have HA : Hid (eAsk B R is = chk B R) := ask_chk hc
    have hcb : (chk B R != 0) = true := by simp [hc]
    have HC : Hid _ := Lib.hid hc
    clear hc his
    go_enter Try.func21, Try.ntmps21
    go_wp2
    clear hws
    go_region_held3 (fun w' => (∀ b o, b < ws.heap.size → w'.cell? ⟨b, o, none⟩ = ws.cell? ⟨b, o, none⟩) ∧ Hid (Below ws.heap.size ws w')) (assumption) (first
      | (go_at_call 54; refine (isSort_any N _ B s _ (HBF.out.go HB0d.out).1).mono ?_; rintro e w1 ⟨rfl, hb1⟩; rw [HIN.out]; have S1 := old_of (bel HB0d.out hb1); have HB1 := S1.2; clear hb1)
      | (go_at_call 68; refine (ask_any N _ _ B R _ _ (HBF.out.go HB1.out).1 (HBF.out.go HB1.out).2).mono ?_; rintro e w2 ⟨rfl, hb2⟩; rw [HA.out]; have S2 := old_of (bel HB1.out hb2); have HB2 := S2.2; clear hb2))
    have HB2 := S2.2; have c2 := S2.1; clear S2 S0d
    go_wp2
    go_ret2
    exact ⟨by rw [eWrong, if_pos HC.out]; rfl, fin HB.out HB2.out⟩

theorem fewest_1000 {B : Bk} {R : Fr} (hg : Good B R) (h0 : 0 < B.ns) : minTo B.ns (wrong B R) 1000 = fewest B R := by
  unfold fewest
  have key : ∀ n a b, (∃ i, i < n ∧ wrong B R i ≤ a) → (∃ i, i < n ∧ wrong B R i ≤ b) → minTo n (wrong B R) a ≤ minTo n (wrong B R) b := fun n a b ⟨i, hi, h⟩ _ => by
    rcases minTo_hit n (wrong B R) b with e | ⟨j, hj, e⟩
    · rw [e]
      rename_i hh; obtain ⟨k, hk, h2⟩ := hh
      exact Nat.le_trans (minTo_le_at hk) h2
    · rw [e]; exact minTo_le_at hj
  have hw := wrong_le hg 0
  exact Nat.le_antisymm (key _ _ _ ⟨0, h0, by omega⟩ ⟨0, h0, Nat.le_refl _⟩) (key _ _ _ ⟨0, h0, Nat.le_refl _⟩ ⟨0, h0, by omega⟩)

set_option maxHeartbeats 2000000 in
theorem rFewest_any (N : Nat) (v u : Value) (B : Bk) (R : Fr) (w : World) (h : BookAt N w v B) (hf : FruitsAt N w u R) :
    Calls Try.prog 23 #[v, u] w fun e w' => e = .returned (.tuple #[.int .i64 (eFewest B R).1, .int .i64 (eFewest B R).2]) ∧ Below w.heap.size w w' := by
  have h' := h
  obtain ⟨_, a1, c1, a2, c2, a3, c3, rfl, _⟩ := h'
  obtain ⟨ws, hws, HB, hsz, hblk⟩ := box1 w (.cells #[.slice a1 B.nv c1, .slice a2 B.nf c2, .slice a3 B.ns c3, .int .i64 B.wr] 25)
  have q0 := cell_blk hblk 0 rfl
  have q1 := cell_blk hblk 1 rfl
  have q2 := cell_blk hblk 2 rfl
  have q3 := cell_blk hblk 3 rfl
  obtain ⟨HBF, HB0⟩ := entry HB.out h hf
  clear hblk h hf
  by_cases hc : chk B R = 0
  case neg =>
    have hcb : (chk B R != 0) = true := by simp [hc]
    have HC : Hid (¬ chk B R = 0) := hc
    clear hc
    go_enter Try.func23, Try.ntmps23
    go_wp2_with (go_at_call 19; refine (rCheck_any N _ _ B R _ (HBF.out.go HB0.out).1 (HBF.out.go HB0.out).2).mono ?_; rintro e w1 ⟨rfl, hb1⟩; (try clear c0); have HB1 := Lib.hid (bel HB0.out hb1); have c1 := (old_of HB1.out).1; clear hb1)
    go_ret2
    exact ⟨by rw [eFewest, if_pos HC.out]; rfl, fin HB.out HB1.out⟩
  have HG : Hid (Good B R) := chk_good hc
  have hcb : (chk B R != 0) = false := by simp [hc]
  have HC : Hid (chk B R = 0) := hc
  have hns := (chk_good hc).ns
  clear hc
  by_cases h0 : B.ns = 0
  · have h0b : ((B.ns : Int) == 0) = true := by simp [h0]
    have H0 : Hid (B.ns = 0) := h0
    clear h0
    go_enter Try.func23, Try.ntmps23
    go_wp2_with (go_at_call 19; refine (rCheck_any N _ _ B R _ (HBF.out.go HB0.out).1 (HBF.out.go HB0.out).2).mono ?_; rintro e w1 ⟨rfl, hb1⟩; (try clear c0); have HB1 := Lib.hid (bel HB0.out hb1); have c1 := (old_of HB1.out).1; clear hb1)
    go_ret2
    exact ⟨by rw [eFewest, if_neg (by simp [HC.out]), if_pos H0.out]; rfl, fin HB.out HB1.out⟩
  · have h0b : ((B.ns : Int) == 0) = false := by simp [h0]
    have H0 : Hid (¬ B.ns = 0) := h0
    clear h0
    go_enter Try.func23, Try.ntmps23
    go_wp2_with (go_at_call 19; refine (rCheck_any N _ _ B R _ (HBF.out.go HB0.out).1 (HBF.out.go HB0.out).2).mono ?_; rintro e w1 ⟨rfl, hb1⟩; (try clear c0); have HB1 := Lib.hid (bel HB0.out hb1); have c1 := (old_of HB1.out).1; clear hb1)
    clear hws
    go_loopw [7, 8] (fun t i wr => ∃ k : Nat, k ≤ B.ns ∧ i = .int .i64 k ∧ t = .int .i64 (minTo k (wrong B R) 1000) ∧ Hid (Below ws.heap.size ws wr)) (fun _ i _ => B.ns - (intOf i).toNat)
    case atStart => exact ⟨0, Nat.zero_le _, rfl, rfl, HB1.out⟩
    clear c1 HB1
    case round =>
    obtain ⟨k, hk, rfl, rfl, HBr⟩ := hrel
    have cr := (old_of HBr.out).1
    have hszr := Nat.lt_of_lt_of_le hsz HBr.out.size
    have HBFr := HBF
    have HBF := Lib.hid (HBF.out.go HBr.out)
    clear HBFr
    have HB0 : Hid (Below wr.heap.size wr wr) := Below.refl _ _
    by_cases hkn : k < B.ns
    · have HE : Hid (minTo (k + 1) (wrong B R) 1000 = min (minTo k (wrong B R) 1000) (wrong B R k)) := rfl
      have g1 := minTo_le k (wrong B R) 1000
      have g2 := wrong_le HG.out k
      generalize minTo k (wrong B R) 1000 = t at *
      go_wp2_with (go_at_call 69; refine (wrongOf_any N _ _ B R k _ (HBF.out.go HB0.out).1 (HBF.out.go HB0.out).2 HG.out hkn).mono ?_; rintro e w3 ⟨rfl, hb3⟩; (try clear c0); have HB3 := Lib.hid (bel HB0.out hb3); have c3 := (old_of HB3.out).1; clear hb3)
      go_roundw
      case rel => exact ⟨k + 1, by omega, by go_num, by rw [HE.out]; first | rfl | (congr 1; omega), fin HBr.out HB3.out⟩
      case measure => simp [intOf]; omega
    · have Hk : Hid (k = B.ns) := by show k = _; omega
      go_wp2
      go_ret2
      exact ⟨by rw [eFewest, if_neg (by simp [HC.out]), if_neg H0.out, ← fewest_1000 HG.out (Nat.pos_of_ne_zero H0.out), ← Hk.out]; rfl, fin HB.out HBr.out⟩

end Go.Proofs.Ytmmadlpkolcgkaa
