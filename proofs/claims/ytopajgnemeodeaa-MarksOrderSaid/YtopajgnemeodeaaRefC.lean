/-
  The chapter's own answers: ask, Wrong, Fewest, SortsOf, known, Sorts, Is.
-/
import Derived.Test.YtopajgnemeodeaaRefA
namespace Go.Proofs.Ytopajgnemeodeaa
open Go.RowKit

def eAsk (B : Bk) (R : Fr) (is : Bool) : Int := if chk B R ≠ 0 then chk B R else if is then 0 else 1

theorem ask_chk {B : Bk} {R : Fr} {is : Bool} (h : chk B R ≠ 0) : eAsk B R is = chk B R := if_pos h
theorem ask_ok {B : Bk} {R : Fr} (h : chk B R = 0) : eAsk B R true = 0 := by simp [eAsk, h]
theorem ask_arg {B : Bk} {R : Fr} (h : chk B R = 0) : eAsk B R false = 1 := by simp [eAsk, h]

theorem box1 (w : World) (o : Obj) : ∃ ws : World, w.alloc o = ws ∧ Hid (Below w.heap.size w ws) ∧ w.heap.size < ws.heap.size ∧ ws.heap[w.heap.size]? = some o :=
  ⟨_, rfl, below_alloc (Nat.le_refl _) _, by simp, World.alloc_heap_new _ _⟩
theorem box2 (w : World) (o o' : Obj) : ∃ ws : World, (w.alloc o).alloc o' = ws ∧ Hid (Below w.heap.size w ws) ∧ w.heap.size < ws.heap.size ∧ w.heap.size + 1 < ws.heap.size ∧ ws.heap[w.heap.size]? = some o ∧ ws.heap[w.heap.size + 1]? = some o' := by
  refine ⟨_, rfl, below2 (Nat.le_refl _) _ _, by simp; omega, by simp, ?_, ?_⟩
  · rw [Below.heap_alloc _ _ _ (by simp)]; exact World.alloc_heap_new _ _
  · have := World.alloc_heap_new (w.alloc o) o'
    rwa [World.size_alloc] at this

theorem bel {ws wj wk : World} (h : Below ws.heap.size ws wj) (k : Below wj.heap.size wj wk) : Below ws.heap.size ws wk := step h (Nat.le_refl _) k
theorem fin {w ws wk : World} (h : Below w.heap.size w ws) (k : Below ws.heap.size ws wk) : Below w.heap.size w wk := h.trans (k.mono h.size)

theorem BookAt.go {n : Nat} {ws wk : World} {v : Value} {B : Bk} (h : BookAt n ws v B) (k : Below ws.heap.size ws wk) : BookAt n wk v B :=
  h.mono (k.mono h.1) (Nat.le_refl _) (Nat.le_trans h.1 k.size)

theorem BookAt.raise {n n' : Nat} {w : World} {v : Value} {B : Bk} (h : BookAt n w v B) (hn : n ≤ n') (hs : n' ≤ w.heap.size) : BookAt n' w v B :=
  h.mono (Below.refl _ _) hn hs

/-- a book and fruits -/
def BF (n : Nat) (w : World) (v u : Value) (B : Bk) (R : Fr) : Prop := BookAt n w v B ∧ FruitsAt n w u R
theorem BF.go {n : Nat} {ws wk : World} {v u : Value} {B : Bk} {R : Fr} (h : BF n ws v u B R) (k : Below ws.heap.size ws wk) : BF n wk v u B R :=
  ⟨h.1.go k, RowsAt.mono h.2 (k.mono h.1.1) (Nat.le_refl _)⟩
theorem entry {N : Nat} {w ws : World} {v u : Value} {B : Bk} {R : Fr} (hB : Below w.heap.size w ws) (h : BookAt N w v B) (hf : FruitsAt N w u R) :
    Hid (BF N ws v u B R) ∧ Hid (Below ws.heap.size ws ws) :=
  ⟨BF.go ⟨h, hf⟩ hB, Below.refl _ _⟩

set_option maxHeartbeats 800000 in
theorem ask_any (N : Nat) (v u : Value) (B : Bk) (R : Fr) (is : Bool) (w : World) (h : BookAt N w v B) (hf : FruitsAt N w u R) :
    Calls Try.prog 68 #[v, u, .bool is] w fun e w' => e = .returned (.int .i64 (eAsk B R is)) ∧ Below w.heap.size w w' := by
  have h' := h
  obtain ⟨_, a1, c1, a2, c2, a3, c3, rfl, _⟩ := h'
  obtain ⟨ws, hws, HB, hsz, hblk⟩ := box1 w (.cells #[.slice a1 B.nv c1, .slice a2 B.nf c2, .slice a3 B.ns c3, .int .i64 B.wr] 25)
  have q0 := cell_blk hblk 0 rfl
  have q1 := cell_blk hblk 1 rfl
  have q2 := cell_blk hblk 2 rfl
  have q3 := cell_blk hblk 3 rfl
  obtain ⟨HBF, HB0⟩ := entry HB.out h hf
  clear hblk h hf
  by_cases hc : chk B R = 0
  · have hcb : (chk B R != 0) = false := by simp [hc]
    have HC : Hid _ := Lib.hid hc
    clear hc
    cases is
    all_goals
      go_enter Try.func68, Try.ntmps68
      go_wp2_with (go_at_call 19; refine (rCheck_any N _ _ B R _ (HBF.out.go HB0.out).1 (HBF.out.go HB0.out).2).mono ?_; rintro e w1 ⟨rfl, hb1⟩; (try clear c0); have HB1 := Lib.hid (bel HB0.out hb1); have c1 := (old_of HB1.out).1; clear hb1)
      go_ret
      exact ⟨ret_int (by simp [eAsk, HC.out]), fin HB.out HB1.out⟩
  · have hcb : (chk B R != 0) = true := by simp [hc]
    have HC : Hid _ := Lib.hid hc
    clear hc
    go_enter Try.func68, Try.ntmps68
    go_wp2_with (go_at_call 19; refine (rCheck_any N _ _ B R _ (HBF.out.go HB0.out).1 (HBF.out.go HB0.out).2).mono ?_; rintro e w1 ⟨rfl, hb1⟩; (try clear c0); have HB1 := Lib.hid (bel HB0.out hb1); have c1 := (old_of HB1.out).1; clear hb1)
    go_ret
    exact ⟨ret_int (by unfold eAsk; rw [if_pos HC.out]), fin HB.out HB1.out⟩

set_option maxHeartbeats 2000000 in
theorem rWrong_any (N : Nat) (v u : Value) (B : Bk) (R : Fr) (s : Int) (w : World) (h : BookAt N w v B) (hf : FruitsAt N w u R) :
    Calls Try.prog 21 #[v, u, .int .i64 s] w fun e w' => e = .returned (.tuple #[.int .i64 (eWrong B R s).1, .int .i64 (eWrong B R s).2]) ∧ Below w.heap.size w w' := by
  have h' := h
  obtain ⟨_, a1, c1, a2, c2, a3, c3, rfl, _⟩ := h'
  obtain ⟨ws, hws, HB, hsz, hblk⟩ := box1 w (.cells #[.slice a1 B.nv c1, .slice a2 B.nf c2, .slice a3 B.ns c3, .int .i64 B.wr] 25)
  have q0 := cell_blk hblk 0 rfl
  have q1 := cell_blk hblk 1 rfl
  have q2 := cell_blk hblk 2 rfl
  have q3 := cell_blk hblk 3 rfl
  obtain ⟨HBF, HB0⟩ := entry HB.out h hf
  clear hblk h hf
  have S0d := old_of HB0.out.drew; have HB0d := S0d.2
  obtain ⟨is, his⟩ : ∃ is, (decide (0 ≤ s) && decide (s < (B.ns : Int))) = is := ⟨_, rfl⟩
  have HIN : Hid _ := Lib.hid his
  by_cases hc : chk B R = 0
  · have HC : Hid _ := Lib.hid hc
    cases is with
    | false =>
      have HA : Hid (eAsk B R false = 1) := ask_arg hc
      clear hc his
      go_enter Try.func21, Try.ntmps21
      go_wp2
      clear hws
      go_region_held3 (fun w' => (∀ b o, b < ws.heap.size → w'.cell? ⟨b, o, none⟩ = ws.cell? ⟨b, o, none⟩) ∧ Hid (Below ws.heap.size ws w')) (assumption) (first
        | (go_at_call 54; refine (isSort_any N _ B s _ (HBF.out.go HB0d.out).1).mono ?_; rintro e w1 ⟨rfl, hb1⟩; rw [HIN.out]; have S1 := old_of (bel HB0d.out hb1); have HB1 := S1.2; clear hb1)
        | (go_at_call 68; refine (ask_any N _ _ B R _ _ (HBF.out.go HB1.out).1 (HBF.out.go HB1.out).2).mono ?_; rintro e w2 ⟨rfl, hb2⟩; rw [HA.out]; have S2 := old_of (bel HB1.out hb2); have HB2 := S2.2; clear hb2))
      have HB2 := S2.2; have c2 := S2.1; clear S2 S0d
      go_wp2
      go_ret2
      exact ⟨by rw [eWrong, if_neg (by simp [HC.out]), if_neg (by rw [HIN.out]; simp)]; rfl, fin HB.out HB2.out⟩
    | true =>
      obtain ⟨k, rfl, hk⟩ : ∃ k : Nat, s = k ∧ k < B.ns := ⟨s.toNat, by simp at his; omega, by simp at his; omega⟩
      have HA : Hid (eAsk B R true = 0) := ask_ok hc
      have HG : Hid (Good B R) := chk_good hc
      clear hc his
      go_enter Try.func21, Try.ntmps21
      go_wp2
      clear hws
      go_region_held3 (fun w' => (∀ b o, b < ws.heap.size → w'.cell? ⟨b, o, none⟩ = ws.cell? ⟨b, o, none⟩) ∧ Hid (Below ws.heap.size ws w')) (assumption) (first
        | (go_at_call 54; refine (isSort_any N _ B k _ (HBF.out.go HB0d.out).1).mono ?_; rintro e w1 ⟨rfl, hb1⟩; rw [HIN.out]; have S1 := old_of (bel HB0d.out hb1); have HB1 := S1.2; clear hb1)
        | (go_at_call 68; refine (ask_any N _ _ B R _ _ (HBF.out.go HB1.out).1 (HBF.out.go HB1.out).2).mono ?_; rintro e w2 ⟨rfl, hb2⟩; rw [HA.out]; have S2 := old_of (bel HB1.out hb2); have HB2 := S2.2; clear hb2))
      have HB2 := S2.2; have c2 := S2.1; clear S2 S0d
      go_wp2_with (go_at_call 69; refine (wrongOf_any N _ _ B R k _ (HBF.out.go HB2.out).1 (HBF.out.go HB2.out).2 HG.out hk).mono ?_; rintro e w3 ⟨rfl, hb3⟩; (try clear c2); have HB3 := Lib.hid (bel HB2.out hb3); have c3 := (old_of HB3.out).1; clear hb3)
      go_ret2
      exact ⟨by rw [eWrong, if_neg (by simp [HC.out]), if_pos HIN.out]; rfl, fin HB.out HB3.out⟩
  · have HA : Hid (eAsk B R is = chk B R) := ask_chk hc
    have hcb : (chk B R != 0) = true := by simp [hc]
    have HC : Hid _ := Lib.hid hc
    clear hc his
    go_enter Try.func21, Try.ntmps21
    go_wp2
    clear hws
    go_region_held3 (fun w' => (∀ b o, b < ws.heap.size → w'.cell? ⟨b, o, none⟩ = ws.cell? ⟨b, o, none⟩) ∧ Hid (Below ws.heap.size ws w')) (assumption) (first
      | (go_at_call 54; refine (isSort_any N _ B s _ (HBF.out.go HB0d.out).1).mono ?_; rintro e w1 ⟨rfl, hb1⟩; rw [HIN.out]; have S1 := old_of (bel HB0d.out hb1); have HB1 := S1.2; clear hb1)
      | (go_at_call 68; refine (ask_any N _ _ B R _ _ (HBF.out.go HB1.out).1 (HBF.out.go HB1.out).2).mono ?_; rintro e w2 ⟨rfl, hb2⟩; rw [HA.out]; have S2 := old_of (bel HB1.out hb2); have HB2 := S2.2; clear hb2))
    have HB2 := S2.2; have c2 := S2.1; clear S2 S0d
    go_wp2
    go_ret2
    exact ⟨by rw [eWrong, if_pos HC.out]; rfl, fin HB.out HB2.out⟩

theorem fewest_1000 {B : Bk} {R : Fr} (hg : Good B R) (h0 : 0 < B.ns) : minTo B.ns (wrong B R) 1000 = fewest B R := by
  unfold fewest
  have key : ∀ n a b, (∃ i, i < n ∧ wrong B R i ≤ a) → (∃ i, i < n ∧ wrong B R i ≤ b) → minTo n (wrong B R) a ≤ minTo n (wrong B R) b := fun n a b ⟨i, hi, h⟩ _ => by
    rcases minTo_hit n (wrong B R) b with e | ⟨j, hj, e⟩
    · rw [e]
      rename_i hh; obtain ⟨k, hk, h2⟩ := hh
      exact Nat.le_trans (minTo_le_at hk) h2
    · rw [e]; exact minTo_le_at hj
  have hw := wrong_le hg 0
  exact Nat.le_antisymm (key _ _ _ ⟨0, h0, by omega⟩ ⟨0, h0, Nat.le_refl _⟩) (key _ _ _ ⟨0, h0, Nat.le_refl _⟩ ⟨0, h0, by omega⟩)

set_option maxHeartbeats 2000000 in
theorem rFewest_any (N : Nat) (v u : Value) (B : Bk) (R : Fr) (w : World) (h : BookAt N w v B) (hf : FruitsAt N w u R) :
    Calls Try.prog 23 #[v, u] w fun e w' => e = .returned (.tuple #[.int .i64 (eFewest B R).1, .int .i64 (eFewest B R).2]) ∧ Below w.heap.size w w' := by
  have h' := h
  obtain ⟨_, a1, c1, a2, c2, a3, c3, rfl, _⟩ := h'
  obtain ⟨ws, hws, HB, hsz, hblk⟩ := box1 w (.cells #[.slice a1 B.nv c1, .slice a2 B.nf c2, .slice a3 B.ns c3, .int .i64 B.wr] 25)
  have q0 := cell_blk hblk 0 rfl
  have q1 := cell_blk hblk 1 rfl
  have q2 := cell_blk hblk 2 rfl
  have q3 := cell_blk hblk 3 rfl
  obtain ⟨HBF, HB0⟩ := entry HB.out h hf
  clear hblk h hf
  by_cases hc : chk B R = 0
  case neg =>
    have hcb : (chk B R != 0) = true := by simp [hc]
    have HC : Hid (¬ chk B R = 0) := hc
    clear hc
    go_enter Try.func23, Try.ntmps23
    go_wp2_with (go_at_call 19; refine (rCheck_any N _ _ B R _ (HBF.out.go HB0.out).1 (HBF.out.go HB0.out).2).mono ?_; rintro e w1 ⟨rfl, hb1⟩; (try clear c0); have HB1 := Lib.hid (bel HB0.out hb1); have c1 := (old_of HB1.out).1; clear hb1)
    go_ret2
    exact ⟨by rw [eFewest, if_pos HC.out]; rfl, fin HB.out HB1.out⟩
  have HG : Hid (Good B R) := chk_good hc
  have hcb : (chk B R != 0) = false := by simp [hc]
  have HC : Hid (chk B R = 0) := hc
  have hns := (chk_good hc).ns
  clear hc
  by_cases h0 : B.ns = 0
  · have h0b : ((B.ns : Int) == 0) = true := by simp [h0]
    have H0 : Hid (B.ns = 0) := h0
    clear h0
    go_enter Try.func23, Try.ntmps23
    go_wp2_with (go_at_call 19; refine (rCheck_any N _ _ B R _ (HBF.out.go HB0.out).1 (HBF.out.go HB0.out).2).mono ?_; rintro e w1 ⟨rfl, hb1⟩; (try clear c0); have HB1 := Lib.hid (bel HB0.out hb1); have c1 := (old_of HB1.out).1; clear hb1)
    go_ret2
    exact ⟨by rw [eFewest, if_neg (by simp [HC.out]), if_pos H0.out]; rfl, fin HB.out HB1.out⟩
  · have h0b : ((B.ns : Int) == 0) = false := by simp [h0]
    have H0 : Hid (¬ B.ns = 0) := h0
    clear h0
    go_enter Try.func23, Try.ntmps23
    go_wp2_with (go_at_call 19; refine (rCheck_any N _ _ B R _ (HBF.out.go HB0.out).1 (HBF.out.go HB0.out).2).mono ?_; rintro e w1 ⟨rfl, hb1⟩; (try clear c0); have HB1 := Lib.hid (bel HB0.out hb1); have c1 := (old_of HB1.out).1; clear hb1)
    clear hws
    go_loopw [7, 8] (fun t i wr => ∃ k : Nat, k ≤ B.ns ∧ i = .int .i64 k ∧ t = .int .i64 (minTo k (wrong B R) 1000) ∧ Hid (Below ws.heap.size ws wr)) (fun _ i _ => B.ns - (intOf i).toNat)
    case atStart => exact ⟨0, Nat.zero_le _, rfl, rfl, HB1.out⟩
    clear c1 HB1
    case round =>
    obtain ⟨k, hk, rfl, rfl, HBr⟩ := hrel
    have cr := (old_of HBr.out).1
    have hszr := Nat.lt_of_lt_of_le hsz HBr.out.size
    have HBFr := HBF
    have HBF := Lib.hid (HBF.out.go HBr.out)
    clear HBFr
    have HB0 : Hid (Below wr.heap.size wr wr) := Below.refl _ _
    by_cases hkn : k < B.ns
    · have HE : Hid (minTo (k + 1) (wrong B R) 1000 = min (minTo k (wrong B R) 1000) (wrong B R k)) := rfl
      have g1 := minTo_le k (wrong B R) 1000
      have g2 := wrong_le HG.out k
      generalize minTo k (wrong B R) 1000 = t at *
      go_wp2_with (go_at_call 69; refine (wrongOf_any N _ _ B R k _ (HBF.out.go HB0.out).1 (HBF.out.go HB0.out).2 HG.out hkn).mono ?_; rintro e w3 ⟨rfl, hb3⟩; (try clear c0); have HB3 := Lib.hid (bel HB0.out hb3); have c3 := (old_of HB3.out).1; clear hb3)
      go_roundw
      case rel => exact ⟨k + 1, by omega, by go_num, by rw [HE.out]; first | rfl | (congr 1; omega), fin HBr.out HB3.out⟩
      case measure => simp [intOf]; omega
    · have Hk : Hid (k = B.ns) := by show k = _; omega
      go_wp2
      go_ret2
      exact ⟨by rw [eFewest, if_neg (by simp [HC.out]), if_neg H0.out, ← fewest_1000 HG.out (Nat.pos_of_ne_zero H0.out), ← Hk.out]; rfl, fin HB.out HBr.out⟩

end Go.Proofs.Ytopajgnemeodeaa

namespace Go.Proofs.Ytopajgnemeodeaa
open Go.RowKit

set_option maxHeartbeats 4000000 in
theorem sortsOf_any (N : Nat) (v u : Value) (B : Bk) (R : Fr) (w : World) (h : BookAt N w v B) (hf : FruitsAt N w u R) (hg : Good B R) :
    Calls Try.prog 91 #[v, u] w (GivesI w.heap.size w (sorts B R)) := by
  obtain ⟨i0, hi, hz0, hz1, hz2⟩ := info_parts Try.infoInt
  have h' := h
  obtain ⟨_, a1, c1, a2, c2, a3, c3, rfl, _⟩ := h'
  obtain ⟨ws, hws, HB, hsz, hblk⟩ := box1 w (.cells #[.slice a1 B.nv c1, .slice a2 B.nf c2, .slice a3 B.ns c3, .int .i64 B.wr] 25)
  have q0 := cell_blk hblk 0 rfl
  have q1 := cell_blk hblk 1 rfl
  have q2 := cell_blk hblk 2 rfl
  have q3 := cell_blk hblk 3 rfl
  obtain ⟨HBF, HB0⟩ := entry HB.out h hf
  clear hblk h hf
  have HG : Hid _ := Lib.hid hg
  have hn8 := hg.ns
  clear hg
  go_enter Try.func91, Try.ntmps91
  go_wp2
  clear hws
  go_loopw [5, 6] (fun t i wr => ∃ k : Nat, k ≤ B.ns ∧ i = .int .i64 k ∧ Hid (OwnI ws.heap.size wr t (sel (fun s => decide ((wrong B R s : Int) ≤ B.wr)) k)) ∧ Hid (Below ws.heap.size ws wr)) (fun _ i _ => B.ns - (intOf i).toNat)
  case atStart => exact ⟨0, Nat.zero_le _, rfl, World.ownsRow_nil _ _ _ _, Below.refl _ _⟩
  case round =>
    obtain ⟨k, hk, rfl, ho, HBr⟩ := hrel
    have cr := (old_of HBr.out).1
    have hszr := Nat.lt_of_lt_of_le hsz HBr.out.size
    have HBFr := HBF
    have HBF := Lib.hid (HBF.out.go HBr.out)
    clear HBFr
    have HB0 : Hid (Below wr.heap.size wr wr) := Below.refl _ _
    by_cases hkn : k < B.ns
    · have hsl := sel_len (fun s => decide ((wrong B R s : Int) ≤ B.wr)) k
      have S0d := old_of HB0.out.drew; have HB0d := S0d.2
      by_cases hp : (wrong B R k : Int) ≤ B.wr
      · have HP : Hid (sel (fun s => decide ((wrong B R s : Int) ≤ B.wr)) (k + 1) = sel (fun s => decide ((wrong B R s : Int) ≤ B.wr)) k ++ [(k : Int)]) := sel_hit (by simpa using hp)
        generalize sel (fun s => decide ((wrong B R s : Int) ≤ B.wr)) k = t at *
        go_wp2
        go_region_held3 (fun w' => (∀ b o, b < wr.heap.size → w'.cell? ⟨b, o, none⟩ = wr.cell? ⟨b, o, none⟩) ∧ Hid (Below wr.heap.size wr w')) (assumption) (first
          | (go_at_call 69; refine (wrongOf_any N _ _ B R k _ (HBF.out.go HB0d.out).1 (HBF.out.go HB0d.out).2 HG.out hkn).mono ?_; rintro e w1 ⟨rfl, hb1⟩; have S1 := old_of (bel HB0d.out hb1); have HB1 := S1.2; clear hb1))
        have HB1 := S1.2; have c1 := S1.1; clear S1 S0d
        have hown1 := own_below ho.out HB1.out
        have hw1 : ws.heap.size ≤ w1.heap.size := by have := HB1.out.size; have := HBr.out.size; omega
        go_wp2_with (at_builtin; refine wpList_append_own _ rfl _ _ 22 rfl ws.heap.size 3 i0 (.int .i64 0) 1 8 Try.underlying22 hi hz0 hz1 hz2 rfl (by decide) _ _ _ rfl (hown1.alloc _) ⟨w1.heap.size, 0, none⟩ 1 1 [.int .i64 k] rfl rfl (cell_one_new _ _ _) (by simp [Value.oneCell']) (by unfold maxLen; omega) (by omega) (by simp; omega) ?_; intro v' w2 hown2 hgrow _)
        go_roundw
        case rel => exact ⟨k + 1, by omega, by go_num, by rw [HP.out]; unfold Hid OwnI; rw [List.length_append, List.map_append]; exact hown2, ((fin HBr.out HB1.out).alloc hw1 _).grown hgrow (by simp; omega) (fun j e => (hown1.lt j e).1)⟩
        case measure => simp [intOf]; omega
      · have HP : Hid (sel (fun s => decide ((wrong B R s : Int) ≤ B.wr)) (k + 1) = sel (fun s => decide ((wrong B R s : Int) ≤ B.wr)) k) := sel_miss (by simpa using hp)
        have hd : decide ((wrong B R k : Int) ≤ B.wr) = false := by simpa using hp
        clear hp
        generalize sel (fun s => decide ((wrong B R s : Int) ≤ B.wr)) k = t at *
        go_wp2
        go_region_held3 (fun w' => (∀ b o, b < wr.heap.size → w'.cell? ⟨b, o, none⟩ = wr.cell? ⟨b, o, none⟩) ∧ Hid (Below wr.heap.size wr w')) (assumption) (first
          | (go_at_call 69; refine (wrongOf_any N _ _ B R k _ (HBF.out.go HB0d.out).1 (HBF.out.go HB0d.out).2 HG.out hkn).mono ?_; rintro e w1 ⟨rfl, hb1⟩; have S1 := old_of (bel HB0d.out hb1); have HB1 := S1.2; clear hb1))
        have HB1 := S1.2; have c1 := S1.1; clear S1 S0d
        have HO1 : Hid _ := Lib.hid (own_below ho.out HB1.out)
        go_wp2
        go_roundw
        case rel => exact ⟨k + 1, by omega, by go_num, by rw [HP.out]; exact HO1.out, fin HBr.out HB1.out⟩
        case measure => simp [intOf]; omega
    · have Hk : Hid (k = B.ns) := by show k = _; omega
      go_wp2
      go_ret
      exact ⟨_, rfl, by unfold sorts; rw [← Hk.out]; exact own_mono ho.out HB.out.size, fin HB.out HBr.out⟩

def eKnown (B : Bk) (R : Fr) (is : Bool) : List Int × Int := if eAsk B R is ≠ 0 then ([], eAsk B R is) else if (sorts B R).length = 0 then ([], 3) else (sorts B R, 0)

theorem ask_good {B : Bk} {R : Fr} {is : Bool} (h : eAsk B R is = 0) : chk B R = 0 ∧ is = true := by
  unfold eAsk at h
  by_cases hc : chk B R = 0
  · cases is
    · simp [hc] at h
    · exact ⟨hc, rfl⟩
  · rw [if_pos hc] at h; exact absurd h hc

set_option maxHeartbeats 2000000 in
theorem known_any (N : Nat) (v u : Value) (B : Bk) (R : Fr) (is : Bool) (w : World) (h : BookAt N w v B) (hf : FruitsAt N w u R) :
    Calls Try.prog 72 #[v, u, .bool is] w (GivesIE w.heap.size w (eKnown B R is).1 (eKnown B R is).2) := by
  have h' := h
  obtain ⟨_, a1, c1, a2, c2, a3, c3, rfl, _⟩ := h'
  obtain ⟨ws, hws, HB, hsz, hblk⟩ := box1 w (.cells #[.slice a1 B.nv c1, .slice a2 B.nf c2, .slice a3 B.ns c3, .int .i64 B.wr] 25)
  have q0 := cell_blk hblk 0 rfl
  have q1 := cell_blk hblk 1 rfl
  have q2 := cell_blk hblk 2 rfl
  have q3 := cell_blk hblk 3 rfl
  obtain ⟨HBF, HB0⟩ := entry HB.out h hf
  clear hblk h hf
  by_cases hc : eAsk B R is = 0
  case neg =>
    have hcb : (eAsk B R is != 0) = true := by simp [hc]
    have HC : Hid (¬ eAsk B R is = 0) := hc
    clear hc
    go_enter Try.func72, Try.ntmps72
    go_wp2_with (go_at_call 68; refine (ask_any N _ _ B R is _ (HBF.out.go HB0.out).1 (HBF.out.go HB0.out).2).mono ?_; rintro e w1 ⟨rfl, hb1⟩; (try clear c0); have HB1 := Lib.hid (bel HB0.out hb1); have c1 := (old_of HB1.out).1; clear hb1)
    go_ret2
    rw [eKnown, if_pos HC.out]
    exact ⟨_, rfl, own_nil _ _, fin HB.out HB1.out⟩
  have HG : Hid (Good B R) := chk_good (ask_good hc).1
  have HC : Hid (eAsk B R is = 0) := hc
  clear hc
  by_cases h0 : (sorts B R).length = 0
  · have h0b : (((sorts B R).length : Int) == 0) = true := by simpa using h0
    have H0 : Hid ((sorts B R).length = 0) := h0
    clear h0
    go_enter Try.func72, Try.ntmps72
    go_wp2_with (first
      | (go_at_call 68; refine (ask_any N _ _ B R is _ (HBF.out.go HB0.out).1 (HBF.out.go HB0.out).2).mono ?_; rintro e w1 ⟨rfl, hb1⟩; rw [HC.out]; (try clear c0); have HB1 := Lib.hid (bel HB0.out hb1); have c1 := (old_of HB1.out).1; clear hb1)
      | (go_at_call 91; refine (sortsOf_any N _ _ B R _ (HBF.out.go HB1.out).1 (HBF.out.go HB1.out).2 HG.out).mono ?_; rintro e w2 ⟨x2, rfl, ho2, hb2⟩; obtain ⟨_, _, rfl⟩ := ho2.form; (try clear c1); have HB2 := Lib.hid (bel HB1.out hb2); have c2 := (old_of HB2.out).1; clear hb2))
    go_ret2
    rw [eKnown, if_neg (by simp [HC.out]), if_pos H0.out]
    exact ⟨_, rfl, own_nil _ _, fin HB.out HB2.out⟩
  · have h0b : (((sorts B R).length : Int) == 0) = false := by simpa using h0
    have H0 : Hid (¬ (sorts B R).length = 0) := h0
    clear h0
    go_enter Try.func72, Try.ntmps72
    go_wp2_with (first
      | (go_at_call 68; refine (ask_any N _ _ B R is _ (HBF.out.go HB0.out).1 (HBF.out.go HB0.out).2).mono ?_; rintro e w1 ⟨rfl, hb1⟩; rw [HC.out]; (try clear c0); have HB1 := Lib.hid (bel HB0.out hb1); have c1 := (old_of HB1.out).1; clear hb1)
      | (go_at_call 91; refine (sortsOf_any N _ _ B R _ (HBF.out.go HB1.out).1 (HBF.out.go HB1.out).2 HG.out).mono ?_; rintro e w2 ⟨x2, rfl, ho2, hb2⟩; obtain ⟨_, _, rfl⟩ := ho2.form; have HO : Hid _ := Lib.hid ho2; clear ho2; (try clear c1); have HB2 := Lib.hid (bel HB1.out hb2); have c2 := (old_of HB2.out).1; clear hb2))
    go_ret2
    rw [eKnown, if_neg (by simp [HC.out]), if_neg H0.out]
    exact ⟨_, rfl, own_mono HO.out (fin HB.out HB1.out).size, fin HB.out HB2.out⟩

theorem known_sorts (B : Bk) (R : Fr) : eKnown B R true = eSorts B R := by
  unfold eKnown eSorts eAsk
  by_cases hc : chk B R = 0 <;> simp [hc]

set_option maxHeartbeats 1000000 in
theorem rSorts_any (N : Nat) (v u : Value) (B : Bk) (R : Fr) (w : World) (h : BookAt N w v B) (hf : FruitsAt N w u R) :
    Calls Try.prog 27 #[v, u] w (GivesIE w.heap.size w (eSorts B R).1 (eSorts B R).2) := by
  have h' := h
  obtain ⟨_, a1, c1, a2, c2, a3, c3, rfl, _⟩ := h'
  obtain ⟨ws, hws, HB, hsz, hblk⟩ := box1 w (.cells #[.slice a1 B.nv c1, .slice a2 B.nf c2, .slice a3 B.ns c3, .int .i64 B.wr] 25)
  have q0 := cell_blk hblk 0 rfl
  have q1 := cell_blk hblk 1 rfl
  have q2 := cell_blk hblk 2 rfl
  have q3 := cell_blk hblk 3 rfl
  obtain ⟨HBF, HB0⟩ := entry HB.out h hf
  clear hblk h hf
  rw [← known_sorts]
  go_enter Try.func27, Try.ntmps27
  go_wp2_with (go_at_call 72; refine (known_any N _ _ B R true _ (HBF.out.go HB0.out).1 (HBF.out.go HB0.out).2).mono ?_; rintro e w1 ⟨x1, rfl, ho1, hb1⟩; have HO : Hid _ := Lib.hid ho1; clear ho1; (try clear c0); have HB1 := Lib.hid (bel HB0.out hb1); have c1 := (old_of HB1.out).1; clear hb1)
  go_ret2
  exact ⟨_, rfl, own_mono HO.out HB.out.size, fin HB.out HB1.out⟩

set_option maxHeartbeats 800000 in
theorem known1_any (n : Nat) (w : World) : Calls Try.prog 74 #[.int .i64 1, .int .i64 n] w fun e w' => e = .returned (.int .i64 (if n = 1 then 1 else 3)) ∧ w' = w := by
  by_cases h : n = 1
  · subst h
    go_enter Try.func74, Try.ntmps74
    go_wp2
    go_ret
    exact ⟨rfl, rfl⟩
  · have hb : ((1 : Int) == (n : Int)) = false := by simp; omega
    have hb2 : ((n : Int) == 1) = false := by simp; omega
    have H : Hid _ := Lib.hid h
    clear h
    go_enter Try.func74, Try.ntmps74
    go_wp2
    go_ret
    exact ⟨by first | rfl | (rw [if_neg H.out]; rfl), rfl⟩

set_option maxHeartbeats 4000000 in
theorem rIs_any (N : Nat) (v u : Value) (B : Bk) (R : Fr) (s : Int) (w : World) (h : BookAt N w v B) (hf : FruitsAt N w u R) :
    Calls Try.prog 29 #[v, u, .int .i64 s] w fun e w' => e = .returned (.tuple #[.int .i64 (eIs B R s).1, .int .i64 (eIs B R s).2]) ∧ Below w.heap.size w w' := by
  have h' := h
  obtain ⟨_, a1, c1, a2, c2, a3, c3, rfl, _⟩ := h'
  obtain ⟨ws, hws, HB, hsz, hblk⟩ := box1 w (.cells #[.slice a1 B.nv c1, .slice a2 B.nf c2, .slice a3 B.ns c3, .int .i64 B.wr] 25)
  have q0 := cell_blk hblk 0 rfl
  have q1 := cell_blk hblk 1 rfl
  have q2 := cell_blk hblk 2 rfl
  have q3 := cell_blk hblk 3 rfl
  obtain ⟨HBF, HB0⟩ := entry HB.out h hf
  clear hblk h hf
  have S0d := old_of HB0.out.drew; have HB0d := S0d.2
  obtain ⟨is, his⟩ : ∃ is, (decide (0 ≤ s) && decide (s < (B.ns : Int))) = is := ⟨_, rfl⟩
  have HIN : Hid _ := Lib.hid his
  clear his
  obtain ⟨l, hl⟩ : ∃ l, (eKnown B R is).1 = l := ⟨_, rfl⟩
  obtain ⟨er, her⟩ : ∃ er, (eKnown B R is).2 = er := ⟨_, rfl⟩
  have HL : Hid _ := Lib.hid hl
  have HE : Hid _ := Lib.hid her
  have heI : Hid (eIs B R s = if er ≠ 0 then (0, er) else if (anyB l.length fun i => decide (s = l.getD i 0)) = false then (2, 0) else if l.length = 1 then (1, 0) else (3, 0)) := by
    unfold Hid
    rw [← hl, ← her]
    unfold eIs eKnown eAsk
    rw [HIN.out]
    by_cases hc : chk B R = 0
    · cases is
      · simp [hc]
      · by_cases h0 : (sorts B R).length = 0 <;> simp [hc, h0]
    · simp [hc]
  have hlen : l.length ≤ 8 ∨ er ≠ 0 := by
    rw [← hl, ← her]
    unfold eKnown
    by_cases hc : eAsk B R is = 0
    · left
      have := sorts_len (chk_good (ask_good hc).1).ns R
      by_cases h0 : (sorts B R).length = 0 <;> simp [hc, h0]
      omega
    · right; rw [if_pos hc]; exact hc
  clear hl her
  by_cases he : er = 0
  case neg =>
    have heb : (er != 0) = true := by simp [he]
    have H0 : Hid _ := Lib.hid he
    clear he hlen
    go_enter Try.func29, Try.ntmps29
    go_wp2
    clear hws
    go_region_held3 (fun w' => (∀ b o, b < ws.heap.size → w'.cell? ⟨b, o, none⟩ = ws.cell? ⟨b, o, none⟩) ∧ Hid (Below ws.heap.size ws w')) (assumption) (first
      | (go_at_call 54; refine (isSort_any N _ B s _ (HBF.out.go HB0d.out).1).mono ?_; rintro e w1 ⟨rfl, hb1⟩; rw [HIN.out]; have S1 := old_of (bel HB0d.out hb1); have HB1 := S1.2; clear hb1)
      | (go_at_call 72; refine (known_any N _ _ B R _ _ (HBF.out.go HB1.out).1 (HBF.out.go HB1.out).2).mono ?_; rintro e w2 ⟨x2, rfl, ho2, hb2⟩; rw [HE.out]; clear ho2; have S2 := old_of (bel HB1.out hb2); have HB2 := S2.2; clear hb2))
    have HB2 := S2.2; have c2 := S2.1; clear S2 S0d
    go_wp2
    go_ret2
    exact ⟨by rw [heI.out, if_pos H0.out]; rfl, fin HB.out HB2.out⟩
  have hl8 : l.length ≤ 140737488351232 := by omega
  have HL8 : Hid _ := Lib.hid hl8
  have heb : (er != 0) = false := by simp [he]
  have H0 : Hid _ := Lib.hid he
  have hsw : (anyB l.length fun i => decide (l.getD i 0 = s)) = anyB l.length fun i => decide (s = l.getD i 0) := by congr 1; funext i; rw [Bool.eq_iff_iff]; simp [eq_comm]
  have HSW : Hid _ := Lib.hid hsw
  clear he hlen hsw hl8
  cases hin : (anyB l.length fun i => decide (s = l.getD i 0))
  all_goals
    have HI : Hid _ := Lib.hid hin
    clear hin
    go_enter Try.func29, Try.ntmps29
    go_wp2
    clear hws
    go_region_held3 (fun w' => (∀ b o, b < ws.heap.size → w'.cell? ⟨b, o, none⟩ = ws.cell? ⟨b, o, none⟩) ∧ Hid (Below ws.heap.size ws w')) (assumption) (first
      | (go_at_call 54; refine (isSort_any N _ B s _ (HBF.out.go HB0d.out).1).mono ?_; rintro e w1 ⟨rfl, hb1⟩; rw [HIN.out]; have S1 := old_of (bel HB0d.out hb1); have HB1 := S1.2; clear hb1)
      | (go_at_call 72; refine (known_any N _ _ B R _ _ (HBF.out.go HB1.out).1 (HBF.out.go HB1.out).2).mono ?_; rintro e w2 ⟨x2, rfl, ho2, hb2⟩; rw [HE.out]; rw [HL.out] at ho2; obtain ⟨_, _, rfl⟩ := ho2.form; have HO : Hid _ := Lib.hid ho2; clear ho2; have S2 := old_of (bel HB1.out hb2); have HB2 := S2.2; clear hb2))
    have HB2 := S2.2; have c2 := S2.1; clear S2 S0d
    go_wp2_with (first
      | (go_at_call 48; refine (in_any _ _ _ _ _ _ (HO.out.ints HL8.out)).mono ?_; rintro e w' ⟨rfl, rfl⟩; rw [HSW.out, HI.out])
      | (go_at_call 74; refine (known1_any _ _).mono ?_; rintro e w' ⟨rfl, rfl⟩))
    all_goals
      go_ret2
      exact ⟨by rw [heI.out, H0.out, HI.out]; first | rfl | (by_cases h1 : l.length = 1 <;> simp [h1] <;> omega), fin HB.out HB2.out⟩

end Go.Proofs.Ytopajgnemeodeaa
