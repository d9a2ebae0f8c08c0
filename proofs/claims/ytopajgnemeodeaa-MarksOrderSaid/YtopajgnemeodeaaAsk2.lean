/-
  MarksAsk where the book or the fruits are not valid, or there is no next mark.
-/
import Derived.Test.YtopajgnemeodeaaAsk1
import Derived.Test.YtopajgnemeodeaaCWrong
import Derived.Test.YtopajgnemeodeaaSeen
import Derived.Deep.DeepCutAuto
namespace Go.Proofs.Ytopajgnemeodeaa
open Go.RowKit

set_option maxHeartbeats 4000000 in
set_option maxRecDepth 100000 in
theorem ask_out (N : Nat) (v u : Value) (B : Bk) (R : Fr) (f y : Int) (w : World) (h : BookAt N w v B) (hf : FruitsAt N w u R)
    (hn : rdy B R = false ∨ (decide (0 ≤ f) && decide (f < (R.n : Int))) = false) :
    Calls Try.prog 12 #[v, u, .agg #[.int .i64 f, .int .i64 y]] w fun e w' => e = .returned (.bool true) ∧ Below w.heap.size w w' := by
  have h' := h
  obtain ⟨_, a1, c1, a2, c2, a3, c3, rfl, _⟩ := h'
  obtain ⟨ws, hws, HB, hsz, hsz1, hblk, hblk1⟩ := box2 w (.cells #[.slice a1 B.nv c1, .slice a2 B.nf c2, .slice a3 B.ns c3, .int .i64 B.wr] 25) (.cells #[.int .i64 f, .int .i64 y] 85)
  have q0 := cell_blk hblk 0 rfl
  have q1 := cell_blk hblk 1 rfl
  have q2 := cell_blk hblk 2 rfl
  have q3 := cell_blk hblk 3 rfl
  have p0 := cell_blk hblk1 0 rfl
  have p1 := cell_blk hblk1 1 rfl
  obtain ⟨HBF, HB0⟩ := entry HB.out h hf
  clear hblk hblk1 h hf
  cases hr : rdy B R with
  | false =>
    have HR := Lib.hid hr
    clear hr hn
    go_enter Try.func12, Try.ntmps12
    go_wp2_with (first
      | (go_at_call 44; refine (ready_any N _ _ B R _ (HBF.out.go HB0.out).1 (HBF.out.go HB0.out).2).mono ?_; rintro e w1 ⟨rfl, hb1⟩; rw [HR.out]; (try clear c0); have HB1 := Lib.hid (bel HB0.out hb1); have c1 := (old_of HB1.out).1; clear hb1)
      | (go_at_call 15; refine (works_any _).mono ?_; rintro e w2 ⟨rfl, hb2⟩; (try clear c1); have HB2 := Lib.hid (bel HB1.out hb2); have c2 := (old_of HB2.out).1; clear hb2))
    go_ret
    exact ⟨rfl, fin HB.out HB2.out⟩
  | true =>
    have HR := Lib.hid hr
    have HI : Hid ((decide (0 ≤ f) && decide (f < (R.n : Int))) = false) := by
      rcases hn with hn | hn
      · rw [hr] at hn; simp at hn
      · exact hn
    clear hr hn
    go_enter Try.func12, Try.ntmps12
    go_wp2_with (first
      | (go_at_call 44; refine (ready_any N _ _ B R _ (HBF.out.go HB0.out).1 (HBF.out.go HB0.out).2).mono ?_; rintro e w1 ⟨rfl, hb1⟩; rw [HR.out]; (try clear c0); have HB1 := Lib.hid (bel HB0.out hb1); have c1 := (old_of HB1.out).1; clear hb1)
      | (go_at_call 60; refine (isFruit_any N _ R _ _ (HBF.out.go HB1.out).2).mono ?_; rintro e w2 ⟨rfl, rfl⟩; rw [HI.out])
      | (go_at_call 15; refine (works_any _).mono ?_; rintro e w3 ⟨rfl, hb3⟩; (try clear c1); have HB3 := Lib.hid (bel HB1.out hb3); have c3 := (old_of HB3.out).1; clear hb3))
    go_ret
    exact ⟨rfl, fin HB.out HB3.out⟩

theorem next_none {B : Bk} {R : Fr} {f : Nat} (hc : chk B R = 0) (hf : f < R.n) (h : (sorts B R).length < 2 ∨ (nx B R f B.nv).2.2 = false) : eNext B R (f : Int) = (0, 3) := by
  unfold eNext
  rw [if_neg (by simp [hc]), if_neg (by simp; omega)]
  split
  · rfl
  · rw [if_pos]
    rcases h with h | h
    · omega
    · simpa using h

theorem next_some {B : Bk} {R : Fr} {f : Nat} (hc : chk B R = 0) (hf : f < R.n) (h1 : ¬ (sorts B R).length < 2) (h2 : (nx B R f B.nv).2.2 = true) : eNext B R (f : Int) = (((nx B R f B.nv).1 : Int), 0) := by
  unfold eNext
  rw [if_neg (by simp [hc]), if_neg (by simp; omega), if_neg h1, if_neg (by simp [h2])]
  rfl

theorem after_ok {B : Bk} {R : Fr} {f m : Nat} (hc : chk B R = 0) (hf : f < R.n) (hm : m < B.nv) (hx : R.X f m = -1) (hl : (sorts B R).length ≠ 0) : eAfter B R (f : Int) (m : Int) = ((afterOf B R f m : Int), 0) := by
  unfold eAfter
  rw [if_neg (by simp [hc]), if_neg (by simp [inPlace]; omega), if_neg (by simp [hx]), if_neg hl]
  rfl

set_option maxHeartbeats 8000000 in
set_option maxRecDepth 100000 in
theorem ask_none (N : Nat) (v u : Value) (B : Bk) (R : Fr) (f : Nat) (y : Int) (w : World) (h : BookAt N w v B) (hf : FruitsAt N w u R)
    (hr : rdy B R = true) (hfn : f < R.n) (hn : (sorts B R).length < 2 ∨ (nx B R f B.nv).2.2 = false) :
    Calls Try.prog 12 #[v, u, .agg #[.int .i64 f, .int .i64 y]] w fun e w' => e = .returned (.bool true) ∧ Below w.heap.size w w' := by
  have h' := h
  obtain ⟨_, a1, c1, a2, c2, a3, c3, rfl, _⟩ := h'
  obtain ⟨ws, hws, HB, hsz, hsz1, hblk, hblk1⟩ := box2 w (.cells #[.slice a1 B.nv c1, .slice a2 B.nf c2, .slice a3 B.ns c3, .int .i64 B.wr] 25) (.cells #[.int .i64 f, .int .i64 y] 85)
  have q0 := cell_blk hblk 0 rfl
  have q1 := cell_blk hblk 1 rfl
  have q2 := cell_blk hblk 2 rfl
  have q3 := cell_blk hblk 3 rfl
  have p0 := cell_blk hblk1 0 rfl
  have p1 := cell_blk hblk1 1 rfl
  obtain ⟨HBF, HB0⟩ := entry HB.out h hf
  clear hblk hblk1 h hf
  obtain ⟨af, cf, rfl, hRn, hRr⟩ := id HBF.out.2
  have hNs : N ≤ ws.heap.size := HBF.out.1.1
  obtain ⟨b5, o5, rfl, hb5, hrr⟩ := hRr (by omega)
  obtain ⟨r5, hq5, hi5⟩ := hrr f hfn
  have HI5 := Lib.hid hi5
  obtain ⟨a6, c6, rfl, hL6, _⟩ := hi5
  have g5 : b5 < ws.heap.size := Nat.lt_of_lt_of_le hb5 hNs
  have HNS := Lib.hid hNs
  clear hrr hRr hb5 hNs
  have HR := Lib.hid hr
  have HCK := Lib.hid (rdy_parts hr).1
  have HG := Lib.hid (rdy_parts hr).2.2
  have hns := HG.out.ns
  have hnv := HG.out.nv
  have hLf := HG.out.L f hfn
  have HI : Hid ((decide (0 ≤ (f : Int)) && decide ((f : Int) < (R.n : Int))) = true) := by unfold Hid; simp; omega
  have hfi : (f : Int) < (R.n : Int) := by omega
  obtain ⟨l1, hl1⟩ : ∃ l, sorts B R = l := ⟨_, rfl⟩
  obtain ⟨e1, he1⟩ : ∃ e, (if l1.length = 0 then (3 : Int) else 0) = e := ⟨_, rfl⟩
  have HE1 : Hid (eSorts B R = (l1, e1)) := by unfold Hid; rw [eSorts_ok (rdy_parts hr).1, hl1, he1]
  have HE2 : Hid (eNext B R (f : Int) = (0, 3)) := next_none (rdy_parts hr).1 hfn hn
  have hlen : l1.length ≤ B.ns := by rw [← hl1]; exact sel_len _ _
  obtain ⟨cn, hcn⟩ : ∃ n, (cnt (R.L f) fun i => decide (R.X f i ≠ -1)) = n := ⟨_, rfl⟩
  have HCN := Lib.hid hcn
  have hfull : ¬ l1.length < 2 → ((cn : Int) == (B.nv : Int)) = true := fun h2 => by
    rw [← hl1] at h2
    rcases hn with hn | hn
    · exact absurd hn h2
    · have := (nx_spec B R f B.nv).2 hn
      rw [← hcn, hLf, full_cnt (p := fun i => decide (R.X f i ≠ -1)) fun i hi => by simpa using this i hi]
      simp
  have hlni : (l1.length : Int) ≤ (B.ns : Int) := by omega
  clear hr hn hfn hl1 hcn hlen hLf
  go_enter Try.func12, Try.ntmps12
  by_cases h0 : l1.length = 0
  · have h1 : e1 = 3 := by rw [← he1, if_pos h0]
    subst h1
    clear he1 hfull
    go_upto_region 8 with (first
      | (go_at_call 44; refine (ready_any N _ _ B R _ (HBF.out.go HB0.out).1 (HBF.out.go HB0.out).2).mono ?_; rintro e w1 ⟨rfl, hb1⟩; rw [HR.out]; (try clear c0); have HB1 := Lib.hid (bel HB0.out hb1); have c1 := (old_of HB1.out).1; clear hb1)
      | (go_at_call 60; refine (isFruit_any N _ R _ _ (HBF.out.go HB1.out).2).mono ?_; rintro e w2 ⟨rfl, rfl⟩; rw [HI.out])
      | (go_at_call 26; refine (mSorts_any N _ _ B R _ (HBF.out.go HB1.out).1 (HBF.out.go HB1.out).2).mono ?_; rintro e w2 ⟨u3, rfl, hu3, hb2⟩; rw [HE1.out] at hu3; rw [HE1.out]; obtain ⟨ao3, co3, rfl⟩ := hu3.form; clear hu3; (try clear c1); have HB2 := Lib.hid (bel HB1.out hb2); have c2 := (old_of HB2.out).1; clear hb2)
      | (go_at_call 38; refine (mNext_any N _ _ B R _ _ (HBF.out.go HB2.out).1 (HBF.out.go HB2.out).2).mono ?_; rintro e w3 ⟨rfl, hb3⟩; rw [HE2.out]; (try clear c2); have HB3 := Lib.hid (bel HB2.out hb3); have c3 := (old_of HB3.out).1; clear hb3)
      | (go_at_call 55; refine (isKnown3 _).mono ?_; rintro e wB ⟨rfl, rfl⟩))
    clear hws
    have S3d := old_of HB3.out.drew; have HB3d := S3d.2
    refine wp_region_held_drew (S := (fun w' => (∀ b o, b < ws.heap.size → w'.cell? ⟨b, o, none⟩ = ws.cell? ⟨b, o, none⟩) ∧ Hid (Below ws.heap.size ws w'))) (by kernel_rfl) S3d (fun hHeld => ?_)
    (refine wpAnyH_take (i := 0) (v := ?_) rfl (by kernel_rfl) (by kernel_rfl) (by kernel_rfl) (fun _ _ _ h => h) (Or.inl ⟨by rfl, ?_⟩) (by assumption) ?_; rotate_left; (focus (intro w hSw; (try dsimp only at hSw); go_simp; (try with_reducible rfl))); (try simp only [List.getElem_toArray, List.getElem_cons_zero, List.getElem_cons_succ, Act.put, List.setIfInBounds_toArray, List.set_cons_zero, List.set_cons_succ])); (refine wpAnyH_take (i := 1) (v := ?_) rfl (by kernel_rfl) (by kernel_rfl) (by kernel_rfl) (fun _ _ _ h => h) (Or.inl ⟨by rfl, ?_⟩) (by assumption) ?_; rotate_left; (focus (intro w hSw; (try dsimp only at hSw); go_simp; (try with_reducible rfl))); (try simp only [List.getElem_toArray, List.getElem_cons_zero, List.getElem_cons_succ, Act.put, List.setIfInBounds_toArray, List.set_cons_zero, List.set_cons_succ])); (refine wpAnyH_take (i := 2) (v := ?_) rfl (by kernel_rfl) (by kernel_rfl) (by kernel_rfl) (fun _ _ _ h => h) (Or.inl ⟨by rfl, ?_⟩) (by assumption) ?_; rotate_left; (focus (intro w hSw; (try dsimp only at hSw); go_simp; (try with_reducible rfl))); (try simp only [List.getElem_toArray, List.getElem_cons_zero, List.getElem_cons_succ, Act.put, List.setIfInBounds_toArray, List.set_cons_zero, List.set_cons_succ]))
    (refine wpAnyH_take (i := 3) (v := undef) rfl (by kernel_rfl) (by kernel_rfl) (by kernel_rfl) (fun _ _ _ h => h) (Or.inr ⟨by rfl, rfl⟩) (by assumption) ?_; (try simp only [List.getElem_toArray, List.getElem_cons_zero, List.getElem_cons_succ, Act.put, List.setIfInBounds_toArray, List.set_cons_zero, List.set_cons_succ])); (refine wpAnyH_take (i := 4) (v := undef) rfl (by kernel_rfl) (by kernel_rfl) (by kernel_rfl) (fun _ _ _ h => h) (Or.inr ⟨by rfl, rfl⟩) (by assumption) ?_; (try simp only [List.getElem_toArray, List.getElem_cons_zero, List.getElem_cons_succ, Act.put, List.setIfInBounds_toArray, List.set_cons_zero, List.set_cons_succ])); (refine wpAnyH_take (i := 5) (v := undef) rfl (by kernel_rfl) (by kernel_rfl) (by kernel_rfl) (fun _ _ _ h => h) (Or.inr ⟨by rfl, rfl⟩) (by assumption) ?_; (try simp only [List.getElem_toArray, List.getElem_cons_zero, List.getElem_cons_succ, Act.put, List.setIfInBounds_toArray, List.set_cons_zero, List.set_cons_succ]))
    (refine wpAnyH_take (i := 6) (v := ?_) rfl (by kernel_rfl) (by kernel_rfl) (by kernel_rfl) (fun _ _ _ h => h) (Or.inl ⟨by rfl, ?_⟩) (by assumption) ?_; rotate_left; (focus (intro w hSw; (try dsimp only at hSw); go_simp; (try with_reducible rfl))); (try simp only [List.getElem_toArray, List.getElem_cons_zero, List.getElem_cons_succ, Act.put, List.setIfInBounds_toArray, List.set_cons_zero, List.set_cons_succ])); (refine wpAnyH_take (i := 7) (v := ?_) rfl (by kernel_rfl) (by kernel_rfl) (by kernel_rfl) (fun _ _ _ h => h) (Or.inl ⟨by rfl, ?_⟩) (by assumption) ?_; rotate_left; (focus (intro w hSw; (try dsimp only at hSw); go_simp; (try with_reducible rfl))); (try simp only [List.getElem_toArray, List.getElem_cons_zero, List.getElem_cons_succ, Act.put, List.setIfInBounds_toArray, List.set_cons_zero, List.set_cons_succ]))
    (refine wpAnyH_take (i := 8) (v := undef) rfl (by kernel_rfl) (by kernel_rfl) (by kernel_rfl) (fun _ _ _ h => h) (Or.inr ⟨by rfl, rfl⟩) (by assumption) ?_; (try simp only [List.getElem_toArray, List.getElem_cons_zero, List.getElem_cons_succ, Act.put, List.setIfInBounds_toArray, List.set_cons_zero, List.set_cons_succ])); (refine wpAnyH_take (i := 9) (v := undef) rfl (by kernel_rfl) (by kernel_rfl) (by kernel_rfl) (fun _ _ _ h => h) (Or.inr ⟨by rfl, rfl⟩) (by assumption) ?_; (try simp only [List.getElem_toArray, List.getElem_cons_zero, List.getElem_cons_succ, Act.put, List.setIfInBounds_toArray, List.set_cons_zero, List.set_cons_succ])); (refine wpAnyH_take (i := 10) (v := undef) rfl (by kernel_rfl) (by kernel_rfl) (by kernel_rfl) (fun _ _ _ h => h) (Or.inr ⟨by rfl, rfl⟩) (by assumption) ?_; (try simp only [List.getElem_toArray, List.getElem_cons_zero, List.getElem_cons_succ, Act.put, List.setIfInBounds_toArray, List.set_cons_zero, List.set_cons_succ])); (refine wpAnyH_take (i := 11) (v := undef) rfl (by kernel_rfl) (by kernel_rfl) (by kernel_rfl) (fun _ _ _ h => h) (Or.inr ⟨by rfl, rfl⟩) (by assumption) ?_; (try simp only [List.getElem_toArray, List.getElem_cons_zero, List.getElem_cons_succ, Act.put, List.setIfInBounds_toArray, List.set_cons_zero, List.set_cons_succ])); (refine wpAnyH_take (i := 12) (v := undef) rfl (by kernel_rfl) (by kernel_rfl) (by kernel_rfl) (fun _ _ _ h => h) (Or.inr ⟨by rfl, rfl⟩) (by assumption) ?_; (try simp only [List.getElem_toArray, List.getElem_cons_zero, List.getElem_cons_succ, Act.put, List.setIfInBounds_toArray, List.set_cons_zero, List.set_cons_succ])); (refine wpAnyH_take (i := 13) (v := undef) rfl (by kernel_rfl) (by kernel_rfl) (by kernel_rfl) (fun _ _ _ h => h) (Or.inr ⟨by rfl, rfl⟩) (by assumption) ?_; (try simp only [List.getElem_toArray, List.getElem_cons_zero, List.getElem_cons_succ, Act.put, List.setIfInBounds_toArray, List.set_cons_zero, List.set_cons_succ])); (refine wpAnyH_take (i := 14) (v := undef) rfl (by kernel_rfl) (by kernel_rfl) (by kernel_rfl) (fun _ _ _ h => h) (Or.inr ⟨by rfl, rfl⟩) (by assumption) ?_; (try simp only [List.getElem_toArray, List.getElem_cons_zero, List.getElem_cons_succ, Act.put, List.setIfInBounds_toArray, List.set_cons_zero, List.set_cons_succ])); (refine wpAnyH_take (i := 15) (v := undef) rfl (by kernel_rfl) (by kernel_rfl) (by kernel_rfl) (fun _ _ _ h => h) (Or.inr ⟨by rfl, rfl⟩) (by assumption) ?_; (try simp only [List.getElem_toArray, List.getElem_cons_zero, List.getElem_cons_succ, Act.put, List.setIfInBounds_toArray, List.set_cons_zero, List.set_cons_succ])); (refine wpAnyH_take (i := 16) (v := undef) rfl (by kernel_rfl) (by kernel_rfl) (by kernel_rfl) (fun _ _ _ h => h) (Or.inr ⟨by rfl, rfl⟩) (by assumption) ?_; (try simp only [List.getElem_toArray, List.getElem_cons_zero, List.getElem_cons_succ, Act.put, List.setIfInBounds_toArray, List.set_cons_zero, List.set_cons_succ])); (refine wpAnyH_take (i := 17) (v := undef) rfl (by kernel_rfl) (by kernel_rfl) (by kernel_rfl) (fun _ _ _ h => h) (Or.inr ⟨by rfl, rfl⟩) (by assumption) ?_; (try simp only [List.getElem_toArray, List.getElem_cons_zero, List.getElem_cons_succ, Act.put, List.setIfInBounds_toArray, List.set_cons_zero, List.set_cons_succ]))
    (refine wpAnyH_take (i := 18) (v := ?_) rfl (by kernel_rfl) (by kernel_rfl) (by kernel_rfl) (fun _ _ _ h => h) (Or.inl ⟨by rfl, ?_⟩) (by assumption) ?_; rotate_left; (focus (intro w hSw; (try dsimp only at hSw); go_simp; (try with_reducible rfl))); (try simp only [List.getElem_toArray, List.getElem_cons_zero, List.getElem_cons_succ, Act.put, List.setIfInBounds_toArray, List.set_cons_zero, List.set_cons_succ])); (refine wpAnyH_take (i := 19) (v := ?_) rfl (by kernel_rfl) (by kernel_rfl) (by kernel_rfl) (fun _ _ _ h => h) (Or.inl ⟨by rfl, ?_⟩) (by assumption) ?_; rotate_left; (focus (intro w hSw; (try dsimp only at hSw); go_simp; (try with_reducible rfl))); (try simp only [List.getElem_toArray, List.getElem_cons_zero, List.getElem_cons_succ, Act.put, List.setIfInBounds_toArray, List.set_cons_zero, List.set_cons_succ]))
    refine wpAnyH_ready (rs := [20]) (by kernel_rfl) (by simp) ?_; refine AllReadyH.cons rfl (fun K hK => ?_) AllReadyH.nil; go_simp
    go_at_call 15
    refine (works_any _).mono ?_
    rintro e w4 ⟨rfl, hb4⟩
    have S4 := old_of (bel HB3d.out hb4)
    have HB4 := S4.2
    clear hb4
    refine hK.out _ _ S4 (fun hHeld => ?_); clear hK K; (try simp only [List.getElem_toArray, List.getElem_cons_zero, List.getElem_cons_succ, Act.put, List.setIfInBounds_toArray, List.set_cons_zero, List.set_cons_succ])
    (refine wpAnyH_take (i := 21) (v := ?_) rfl (by kernel_rfl) (by kernel_rfl) (by kernel_rfl) (fun _ _ _ h => h) (Or.inl ⟨by rfl, ?_⟩) (by assumption) ?_; rotate_left; (focus (intro w hSw; (try dsimp only at hSw); go_simp; (try with_reducible rfl))); (try simp only [List.getElem_toArray, List.getElem_cons_zero, List.getElem_cons_succ, Act.put, List.setIfInBounds_toArray, List.set_cons_zero, List.set_cons_succ])); (refine wpAnyH_take (i := 22) (v := ?_) rfl (by kernel_rfl) (by kernel_rfl) (by kernel_rfl) (fun _ _ _ h => h) (Or.inl ⟨by rfl, ?_⟩) (by assumption) ?_; rotate_left; (focus (intro w hSw; (try dsimp only at hSw); go_simp; (try with_reducible rfl))); (try simp only [List.getElem_toArray, List.getElem_cons_zero, List.getElem_cons_succ, Act.put, List.setIfInBounds_toArray, List.set_cons_zero, List.set_cons_succ]))
    refine wpAnyH_done (by kernel_rfl) ?_ _; clear hHeld
    go_wp2_with fail
    go_ret
    exact ⟨rfl, fin HB.out HB4.out⟩
  · have h1 : e1 = 0 := by rw [← he1, if_neg h0]
    subst h1
    clear he1
    by_cases h2 : l1.length < 2
    · have h3 : ((l1.length : Int) == 1) = true := by simp; omega
      clear hfull h0
      go_upto_region 8 with (first
        | (go_at_call 44; refine (ready_any N _ _ B R _ (HBF.out.go HB0.out).1 (HBF.out.go HB0.out).2).mono ?_; rintro e w1 ⟨rfl, hb1⟩; rw [HR.out]; (try clear c0); have HB1 := Lib.hid (bel HB0.out hb1); have c1 := (old_of HB1.out).1; clear hb1)
        | (go_at_call 60; refine (isFruit_any N _ R _ _ (HBF.out.go HB1.out).2).mono ?_; rintro e w2 ⟨rfl, rfl⟩; rw [HI.out])
        | (go_at_call 26; refine (mSorts_any N _ _ B R _ (HBF.out.go HB1.out).1 (HBF.out.go HB1.out).2).mono ?_; rintro e w2 ⟨u3, rfl, hu3, hb2⟩; rw [HE1.out] at hu3; rw [HE1.out]; obtain ⟨ao3, co3, rfl⟩ := hu3.form; clear hu3; (try clear c1); have HB2 := Lib.hid (bel HB1.out hb2); have c2 := (old_of HB2.out).1; clear hb2)
        | (go_at_call 38; refine (mNext_any N _ _ B R _ _ (HBF.out.go HB2.out).1 (HBF.out.go HB2.out).2).mono ?_; rintro e w3 ⟨rfl, hb3⟩; rw [HE2.out]; (try clear c2); have HB3 := Lib.hid (bel HB2.out hb3); have c3 := (old_of HB3.out).1; clear hb3)
        | (go_at_call 55; first | (refine (isKnown0 _).mono ?_; rintro e wB ⟨rfl, rfl⟩) | (refine (isKnown3 _).mono ?_; rintro e wB ⟨rfl, rfl⟩)))
      clear hws
      have S3d := old_of HB3.out.drew; have HB3d := S3d.2
      refine wp_region_held_drew (S := (fun w' => (∀ b o, b < ws.heap.size → w'.cell? ⟨b, o, none⟩ = ws.cell? ⟨b, o, none⟩) ∧ Hid (Below ws.heap.size ws w'))) (by kernel_rfl) S3d (fun hHeld => ?_)
      (refine wpAnyH_take (i := 0) (v := ?_) rfl (by kernel_rfl) (by kernel_rfl) (by kernel_rfl) (fun _ _ _ h => h) (Or.inl ⟨by rfl, ?_⟩) (by assumption) ?_; rotate_left; (focus (intro w hSw; (try dsimp only at hSw); go_simp; (try with_reducible rfl))); (try simp only [List.getElem_toArray, List.getElem_cons_zero, List.getElem_cons_succ, Act.put, List.setIfInBounds_toArray, List.set_cons_zero, List.set_cons_succ])); (refine wpAnyH_take (i := 1) (v := ?_) rfl (by kernel_rfl) (by kernel_rfl) (by kernel_rfl) (fun _ _ _ h => h) (Or.inl ⟨by rfl, ?_⟩) (by assumption) ?_; rotate_left; (focus (intro w hSw; (try dsimp only at hSw); go_simp; (try with_reducible rfl))); (try simp only [List.getElem_toArray, List.getElem_cons_zero, List.getElem_cons_succ, Act.put, List.setIfInBounds_toArray, List.set_cons_zero, List.set_cons_succ])); (refine wpAnyH_take (i := 2) (v := ?_) rfl (by kernel_rfl) (by kernel_rfl) (by kernel_rfl) (fun _ _ _ h => h) (Or.inl ⟨by rfl, ?_⟩) (by assumption) ?_; rotate_left; (focus (intro w hSw; (try dsimp only at hSw); go_simp; (try with_reducible rfl))); (try simp only [List.getElem_toArray, List.getElem_cons_zero, List.getElem_cons_succ, Act.put, List.setIfInBounds_toArray, List.set_cons_zero, List.set_cons_succ])); (refine wpAnyH_take (i := 3) (v := ?_) rfl (by kernel_rfl) (by kernel_rfl) (by kernel_rfl) (fun _ _ _ h => h) (Or.inl ⟨by rfl, ?_⟩) (by assumption) ?_; rotate_left; (focus (intro w hSw; (try dsimp only at hSw); go_simp; (try with_reducible rfl))); (try simp only [List.getElem_toArray, List.getElem_cons_zero, List.getElem_cons_succ, Act.put, List.setIfInBounds_toArray, List.set_cons_zero, List.set_cons_succ])); (refine wpAnyH_take (i := 4) (v := ?_) rfl (by kernel_rfl) (by kernel_rfl) (by kernel_rfl) (fun _ _ _ h => h) (Or.inl ⟨by rfl, ?_⟩) (by assumption) ?_; rotate_left; (focus (intro w hSw; (try dsimp only at hSw); go_simp; (try with_reducible rfl))); (try simp only [List.getElem_toArray, List.getElem_cons_zero, List.getElem_cons_succ, Act.put, List.setIfInBounds_toArray, List.set_cons_zero, List.set_cons_succ])); (refine wpAnyH_take (i := 5) (v := ?_) rfl (by kernel_rfl) (by kernel_rfl) (by kernel_rfl) (fun _ _ _ h => h) (Or.inl ⟨by rfl, ?_⟩) (by assumption) ?_; rotate_left; (focus (intro w hSw; (try dsimp only at hSw); go_simp; (try with_reducible rfl))); (try simp only [List.getElem_toArray, List.getElem_cons_zero, List.getElem_cons_succ, Act.put, List.setIfInBounds_toArray, List.set_cons_zero, List.set_cons_succ])); (refine wpAnyH_take (i := 6) (v := ?_) rfl (by kernel_rfl) (by kernel_rfl) (by kernel_rfl) (fun _ _ _ h => h) (Or.inl ⟨by rfl, ?_⟩) (by assumption) ?_; rotate_left; (focus (intro w hSw; (try dsimp only at hSw); go_simp; (try with_reducible rfl))); (try simp only [List.getElem_toArray, List.getElem_cons_zero, List.getElem_cons_succ, Act.put, List.setIfInBounds_toArray, List.set_cons_zero, List.set_cons_succ])); (refine wpAnyH_take (i := 7) (v := ?_) rfl (by kernel_rfl) (by kernel_rfl) (by kernel_rfl) (fun _ _ _ h => h) (Or.inl ⟨by rfl, ?_⟩) (by assumption) ?_; rotate_left; (focus (intro w hSw; (try dsimp only at hSw); go_simp; (try with_reducible rfl))); (try simp only [List.getElem_toArray, List.getElem_cons_zero, List.getElem_cons_succ, Act.put, List.setIfInBounds_toArray, List.set_cons_zero, List.set_cons_succ]))
      (refine wpAnyH_take (i := 8) (v := undef) rfl (by kernel_rfl) (by kernel_rfl) (by kernel_rfl) (fun _ _ _ h => h) (Or.inr ⟨by rfl, rfl⟩) (by assumption) ?_; (try simp only [List.getElem_toArray, List.getElem_cons_zero, List.getElem_cons_succ, Act.put, List.setIfInBounds_toArray, List.set_cons_zero, List.set_cons_succ])); (refine wpAnyH_take (i := 9) (v := undef) rfl (by kernel_rfl) (by kernel_rfl) (by kernel_rfl) (fun _ _ _ h => h) (Or.inr ⟨by rfl, rfl⟩) (by assumption) ?_; (try simp only [List.getElem_toArray, List.getElem_cons_zero, List.getElem_cons_succ, Act.put, List.setIfInBounds_toArray, List.set_cons_zero, List.set_cons_succ])); (refine wpAnyH_take (i := 10) (v := undef) rfl (by kernel_rfl) (by kernel_rfl) (by kernel_rfl) (fun _ _ _ h => h) (Or.inr ⟨by rfl, rfl⟩) (by assumption) ?_; (try simp only [List.getElem_toArray, List.getElem_cons_zero, List.getElem_cons_succ, Act.put, List.setIfInBounds_toArray, List.set_cons_zero, List.set_cons_succ])); (refine wpAnyH_take (i := 11) (v := undef) rfl (by kernel_rfl) (by kernel_rfl) (by kernel_rfl) (fun _ _ _ h => h) (Or.inr ⟨by rfl, rfl⟩) (by assumption) ?_; (try simp only [List.getElem_toArray, List.getElem_cons_zero, List.getElem_cons_succ, Act.put, List.setIfInBounds_toArray, List.set_cons_zero, List.set_cons_succ])); (refine wpAnyH_take (i := 12) (v := undef) rfl (by kernel_rfl) (by kernel_rfl) (by kernel_rfl) (fun _ _ _ h => h) (Or.inr ⟨by rfl, rfl⟩) (by assumption) ?_; (try simp only [List.getElem_toArray, List.getElem_cons_zero, List.getElem_cons_succ, Act.put, List.setIfInBounds_toArray, List.set_cons_zero, List.set_cons_succ])); (refine wpAnyH_take (i := 13) (v := undef) rfl (by kernel_rfl) (by kernel_rfl) (by kernel_rfl) (fun _ _ _ h => h) (Or.inr ⟨by rfl, rfl⟩) (by assumption) ?_; (try simp only [List.getElem_toArray, List.getElem_cons_zero, List.getElem_cons_succ, Act.put, List.setIfInBounds_toArray, List.set_cons_zero, List.set_cons_succ])); (refine wpAnyH_take (i := 14) (v := undef) rfl (by kernel_rfl) (by kernel_rfl) (by kernel_rfl) (fun _ _ _ h => h) (Or.inr ⟨by rfl, rfl⟩) (by assumption) ?_; (try simp only [List.getElem_toArray, List.getElem_cons_zero, List.getElem_cons_succ, Act.put, List.setIfInBounds_toArray, List.set_cons_zero, List.set_cons_succ])); (refine wpAnyH_take (i := 15) (v := undef) rfl (by kernel_rfl) (by kernel_rfl) (by kernel_rfl) (fun _ _ _ h => h) (Or.inr ⟨by rfl, rfl⟩) (by assumption) ?_; (try simp only [List.getElem_toArray, List.getElem_cons_zero, List.getElem_cons_succ, Act.put, List.setIfInBounds_toArray, List.set_cons_zero, List.set_cons_succ])); (refine wpAnyH_take (i := 16) (v := undef) rfl (by kernel_rfl) (by kernel_rfl) (by kernel_rfl) (fun _ _ _ h => h) (Or.inr ⟨by rfl, rfl⟩) (by assumption) ?_; (try simp only [List.getElem_toArray, List.getElem_cons_zero, List.getElem_cons_succ, Act.put, List.setIfInBounds_toArray, List.set_cons_zero, List.set_cons_succ])); (refine wpAnyH_take (i := 17) (v := undef) rfl (by kernel_rfl) (by kernel_rfl) (by kernel_rfl) (fun _ _ _ h => h) (Or.inr ⟨by rfl, rfl⟩) (by assumption) ?_; (try simp only [List.getElem_toArray, List.getElem_cons_zero, List.getElem_cons_succ, Act.put, List.setIfInBounds_toArray, List.set_cons_zero, List.set_cons_succ]))
      (refine wpAnyH_take (i := 18) (v := ?_) rfl (by kernel_rfl) (by kernel_rfl) (by kernel_rfl) (fun _ _ _ h => h) (Or.inl ⟨by rfl, ?_⟩) (by assumption) ?_; rotate_left; (focus (intro w hSw; (try dsimp only at hSw); go_simp; (try with_reducible rfl))); (try simp only [List.getElem_toArray, List.getElem_cons_zero, List.getElem_cons_succ, Act.put, List.setIfInBounds_toArray, List.set_cons_zero, List.set_cons_succ])); (refine wpAnyH_take (i := 19) (v := ?_) rfl (by kernel_rfl) (by kernel_rfl) (by kernel_rfl) (fun _ _ _ h => h) (Or.inl ⟨by rfl, ?_⟩) (by assumption) ?_; rotate_left; (focus (intro w hSw; (try dsimp only at hSw); go_simp; (try with_reducible rfl))); (try simp only [List.getElem_toArray, List.getElem_cons_zero, List.getElem_cons_succ, Act.put, List.setIfInBounds_toArray, List.set_cons_zero, List.set_cons_succ]))
      refine wpAnyH_ready (rs := [20]) (by kernel_rfl) (by simp) ?_; refine AllReadyH.cons rfl (fun K hK => ?_) AllReadyH.nil; go_simp
      go_at_call 15
      refine (works_any _).mono ?_
      rintro e w4 ⟨rfl, hb4⟩
      have S4 := old_of (bel HB3d.out hb4)
      have HB4 := S4.2
      clear hb4
      refine hK.out _ _ S4 (fun hHeld => ?_); clear hK K; (try simp only [List.getElem_toArray, List.getElem_cons_zero, List.getElem_cons_succ, Act.put, List.setIfInBounds_toArray, List.set_cons_zero, List.set_cons_succ])
      (refine wpAnyH_take (i := 21) (v := ?_) rfl (by kernel_rfl) (by kernel_rfl) (by kernel_rfl) (fun _ _ _ h => h) (Or.inl ⟨by rfl, ?_⟩) (by assumption) ?_; rotate_left; (focus (intro w hSw; (try dsimp only at hSw); go_simp; (try with_reducible rfl))); (try simp only [List.getElem_toArray, List.getElem_cons_zero, List.getElem_cons_succ, Act.put, List.setIfInBounds_toArray, List.set_cons_zero, List.set_cons_succ])); (refine wpAnyH_take (i := 22) (v := ?_) rfl (by kernel_rfl) (by kernel_rfl) (by kernel_rfl) (fun _ _ _ h => h) (Or.inl ⟨by rfl, ?_⟩) (by assumption) ?_; rotate_left; (focus (intro w hSw; (try dsimp only at hSw); go_simp; (try with_reducible rfl))); (try simp only [List.getElem_toArray, List.getElem_cons_zero, List.getElem_cons_succ, Act.put, List.setIfInBounds_toArray, List.set_cons_zero, List.set_cons_succ]))
      refine wpAnyH_done (by kernel_rfl) ?_ _; clear hHeld
      go_wp2_with fail
      go_ret
      exact ⟨rfl, fin HB.out HB4.out⟩
    · have h3 : ((l1.length : Int) == 1) = false := by simp; omega
      have h4 := hfull h2
      clear hfull h0
      go_upto_region 8 with (first
        | (go_at_call 44; refine (ready_any N _ _ B R _ (HBF.out.go HB0.out).1 (HBF.out.go HB0.out).2).mono ?_; rintro e w1 ⟨rfl, hb1⟩; rw [HR.out]; (try clear c0); have HB1 := Lib.hid (bel HB0.out hb1); have c1 := (old_of HB1.out).1; clear hb1)
        | (go_at_call 60; refine (isFruit_any N _ R _ _ (HBF.out.go HB1.out).2).mono ?_; rintro e w2 ⟨rfl, rfl⟩; rw [HI.out])
        | (go_at_call 26; refine (mSorts_any N _ _ B R _ (HBF.out.go HB1.out).1 (HBF.out.go HB1.out).2).mono ?_; rintro e w2 ⟨u3, rfl, hu3, hb2⟩; rw [HE1.out] at hu3; rw [HE1.out]; obtain ⟨ao3, co3, rfl⟩ := hu3.form; clear hu3; (try clear c1); have HB2 := Lib.hid (bel HB1.out hb2); have c2 := (old_of HB2.out).1; clear hb2)
        | (go_at_call 38; refine (mNext_any N _ _ B R _ _ (HBF.out.go HB2.out).1 (HBF.out.go HB2.out).2).mono ?_; rintro e w3 ⟨rfl, hb3⟩; rw [HE2.out]; (try clear c2); have HB3 := Lib.hid (bel HB2.out hb3); have c3 := (old_of HB3.out).1; clear hb3)
        | (go_at_call 55; first | (refine (isKnown0 _).mono ?_; rintro e wB ⟨rfl, rfl⟩) | (refine (isKnown3 _).mono ?_; rintro e wB ⟨rfl, rfl⟩)))
      clear hws
      have S3d := old_of HB3.out.drew; have HB3d := S3d.2
      refine wp_region_held_drew (S := (fun w' => (∀ b o, b < ws.heap.size → w'.cell? ⟨b, o, none⟩ = ws.cell? ⟨b, o, none⟩) ∧ Hid (Below ws.heap.size ws w'))) (by kernel_rfl) S3d (fun hHeld => ?_)
      (refine wpAnyH_take (i := 0) (v := ?_) rfl (by kernel_rfl) (by kernel_rfl) (by kernel_rfl) (fun _ _ _ h => h) (Or.inl ⟨by rfl, ?_⟩) (by assumption) ?_; rotate_left; (focus (intro w hSw; (try dsimp only at hSw); go_simp; (try with_reducible rfl))); (try simp only [List.getElem_toArray, List.getElem_cons_zero, List.getElem_cons_succ, Act.put, List.setIfInBounds_toArray, List.set_cons_zero, List.set_cons_succ])); (refine wpAnyH_take (i := 1) (v := ?_) rfl (by kernel_rfl) (by kernel_rfl) (by kernel_rfl) (fun _ _ _ h => h) (Or.inl ⟨by rfl, ?_⟩) (by assumption) ?_; rotate_left; (focus (intro w hSw; (try dsimp only at hSw); go_simp; (try with_reducible rfl))); (try simp only [List.getElem_toArray, List.getElem_cons_zero, List.getElem_cons_succ, Act.put, List.setIfInBounds_toArray, List.set_cons_zero, List.set_cons_succ])); (refine wpAnyH_take (i := 2) (v := ?_) rfl (by kernel_rfl) (by kernel_rfl) (by kernel_rfl) (fun _ _ _ h => h) (Or.inl ⟨by rfl, ?_⟩) (by assumption) ?_; rotate_left; (focus (intro w hSw; (try dsimp only at hSw); go_simp; (try with_reducible rfl))); (try simp only [List.getElem_toArray, List.getElem_cons_zero, List.getElem_cons_succ, Act.put, List.setIfInBounds_toArray, List.set_cons_zero, List.set_cons_succ])); (refine wpAnyH_take (i := 3) (v := ?_) rfl (by kernel_rfl) (by kernel_rfl) (by kernel_rfl) (fun _ _ _ h => h) (Or.inl ⟨by rfl, ?_⟩) (by assumption) ?_; rotate_left; (focus (intro w hSw; (try dsimp only at hSw); go_simp; (try with_reducible rfl))); (try simp only [List.getElem_toArray, List.getElem_cons_zero, List.getElem_cons_succ, Act.put, List.setIfInBounds_toArray, List.set_cons_zero, List.set_cons_succ])); (refine wpAnyH_take (i := 4) (v := ?_) rfl (by kernel_rfl) (by kernel_rfl) (by kernel_rfl) (fun _ _ _ h => h) (Or.inl ⟨by rfl, ?_⟩) (by assumption) ?_; rotate_left; (focus (intro w hSw; (try dsimp only at hSw); go_simp; (try with_reducible rfl))); (try simp only [List.getElem_toArray, List.getElem_cons_zero, List.getElem_cons_succ, Act.put, List.setIfInBounds_toArray, List.set_cons_zero, List.set_cons_succ])); (refine wpAnyH_take (i := 5) (v := ?_) rfl (by kernel_rfl) (by kernel_rfl) (by kernel_rfl) (fun _ _ _ h => h) (Or.inl ⟨by rfl, ?_⟩) (by assumption) ?_; rotate_left; (focus (intro w hSw; (try dsimp only at hSw); go_simp; (try with_reducible rfl))); (try simp only [List.getElem_toArray, List.getElem_cons_zero, List.getElem_cons_succ, Act.put, List.setIfInBounds_toArray, List.set_cons_zero, List.set_cons_succ])); (refine wpAnyH_take (i := 6) (v := ?_) rfl (by kernel_rfl) (by kernel_rfl) (by kernel_rfl) (fun _ _ _ h => h) (Or.inl ⟨by rfl, ?_⟩) (by assumption) ?_; rotate_left; (focus (intro w hSw; (try dsimp only at hSw); go_simp; (try with_reducible rfl))); (try simp only [List.getElem_toArray, List.getElem_cons_zero, List.getElem_cons_succ, Act.put, List.setIfInBounds_toArray, List.set_cons_zero, List.set_cons_succ])); (refine wpAnyH_take (i := 7) (v := ?_) rfl (by kernel_rfl) (by kernel_rfl) (by kernel_rfl) (fun _ _ _ h => h) (Or.inl ⟨by rfl, ?_⟩) (by assumption) ?_; rotate_left; (focus (intro w hSw; (try dsimp only at hSw); go_simp; (try with_reducible rfl))); (try simp only [List.getElem_toArray, List.getElem_cons_zero, List.getElem_cons_succ, Act.put, List.setIfInBounds_toArray, List.set_cons_zero, List.set_cons_succ])); (refine wpAnyH_take (i := 8) (v := ?_) rfl (by kernel_rfl) (by kernel_rfl) (by kernel_rfl) (fun _ _ _ h => h) (Or.inl ⟨by rfl, ?_⟩) (by assumption) ?_; rotate_left; (focus (intro w hSw; (try dsimp only at hSw); go_simp; (try with_reducible rfl))); (try simp only [List.getElem_toArray, List.getElem_cons_zero, List.getElem_cons_succ, Act.put, List.setIfInBounds_toArray, List.set_cons_zero, List.set_cons_succ])); (refine wpAnyH_take (i := 9) (v := ?_) rfl (by kernel_rfl) (by kernel_rfl) (by kernel_rfl) (fun _ _ _ h => h) (Or.inl ⟨by rfl, ?_⟩) (by assumption) ?_; rotate_left; (focus (intro w hSw; (try dsimp only at hSw); go_simp; (try with_reducible rfl))); (try simp only [List.getElem_toArray, List.getElem_cons_zero, List.getElem_cons_succ, Act.put, List.setIfInBounds_toArray, List.set_cons_zero, List.set_cons_succ])); (refine wpAnyH_take (i := 10) (v := ?_) rfl (by kernel_rfl) (by kernel_rfl) (by kernel_rfl) (fun _ _ _ h => h) (Or.inl ⟨by rfl, ?_⟩) (by assumption) ?_; rotate_left; (focus (intro w hSw; (try dsimp only at hSw); go_simp; (try with_reducible rfl))); (try simp only [List.getElem_toArray, List.getElem_cons_zero, List.getElem_cons_succ, Act.put, List.setIfInBounds_toArray, List.set_cons_zero, List.set_cons_succ])); (refine wpAnyH_take (i := 11) (v := ?_) rfl (by kernel_rfl) (by kernel_rfl) (by kernel_rfl) (fun _ _ _ h => h) (Or.inl ⟨by rfl, ?_⟩) (by assumption) ?_; rotate_left; (focus (intro w hSw; (try dsimp only at hSw); go_simp; (try with_reducible rfl))); (try simp only [List.getElem_toArray, List.getElem_cons_zero, List.getElem_cons_succ, Act.put, List.setIfInBounds_toArray, List.set_cons_zero, List.set_cons_succ])); (refine wpAnyH_take (i := 12) (v := ?_) rfl (by kernel_rfl) (by kernel_rfl) (by kernel_rfl) (fun _ _ _ h => h) (Or.inl ⟨by rfl, ?_⟩) (by assumption) ?_; rotate_left; (focus (intro w hSw; (try dsimp only at hSw); go_simp; (try with_reducible rfl))); (try simp only [List.getElem_toArray, List.getElem_cons_zero, List.getElem_cons_succ, Act.put, List.setIfInBounds_toArray, List.set_cons_zero, List.set_cons_succ]))
      (refine wpAnyH_take (i := 14) (v := ?_) rfl (by kernel_rfl) (by kernel_rfl) (by kernel_rfl) (fun _ _ _ h => h) (Or.inl ⟨by rfl, ?_⟩) (by assumption) ?_; rotate_left; (focus (intro w hSw; (try dsimp only at hSw); go_simp; (try with_reducible rfl))); (try simp only [List.getElem_toArray, List.getElem_cons_zero, List.getElem_cons_succ, Act.put, List.setIfInBounds_toArray, List.set_cons_zero, List.set_cons_succ])); (refine wpAnyH_take (i := 15) (v := ?_) rfl (by kernel_rfl) (by kernel_rfl) (by kernel_rfl) (fun _ _ _ h => h) (Or.inl ⟨by rfl, ?_⟩) (by assumption) ?_; rotate_left; (focus (intro w hSw; (try dsimp only at hSw); go_simp; (try with_reducible rfl))); (try simp only [List.getElem_toArray, List.getElem_cons_zero, List.getElem_cons_succ, Act.put, List.setIfInBounds_toArray, List.set_cons_zero, List.set_cons_succ])); (refine wpAnyH_take (i := 16) (v := ?_) rfl (by kernel_rfl) (by kernel_rfl) (by kernel_rfl) (fun _ _ _ h => h) (Or.inl ⟨by rfl, ?_⟩) (by assumption) ?_; rotate_left; (focus (intro w hSw; (try dsimp only at hSw); go_simp; (try with_reducible rfl))); (try simp only [List.getElem_toArray, List.getElem_cons_zero, List.getElem_cons_succ, Act.put, List.setIfInBounds_toArray, List.set_cons_zero, List.set_cons_succ]))
      refine wpAnyH_ready (rs := [13]) (by kernel_rfl) (by simp) ?_; refine AllReadyH.cons rfl (fun K hK => ?_) AllReadyH.nil; go_simp
      go_at_call 52
      refine (seen_any N _ _ _ _ (HI5.out.mono (HB3d.out.mono HNS.out) (Nat.le_refl _))).mono ?_
      rintro e w5 ⟨rfl, rfl⟩
      rw [HCN.out]
      refine hK.out _ _ S3d (fun hHeld => ?_); clear hK K; (try simp only [List.getElem_toArray, List.getElem_cons_zero, List.getElem_cons_succ, Act.put, List.setIfInBounds_toArray, List.set_cons_zero, List.set_cons_succ])
      (refine wpAnyH_take (i := 17) (v := ?_) rfl (by kernel_rfl) (by kernel_rfl) (by kernel_rfl) (fun _ _ _ h => h) (Or.inl ⟨by rfl, ?_⟩) (by assumption) ?_; rotate_left; (focus (intro w hSw; (try dsimp only at hSw); go_simp; (try with_reducible rfl))); (try simp only [List.getElem_toArray, List.getElem_cons_zero, List.getElem_cons_succ, Act.put, List.setIfInBounds_toArray, List.set_cons_zero, List.set_cons_succ])); (refine wpAnyH_take (i := 18) (v := ?_) rfl (by kernel_rfl) (by kernel_rfl) (by kernel_rfl) (fun _ _ _ h => h) (Or.inl ⟨by rfl, ?_⟩) (by assumption) ?_; rotate_left; (focus (intro w hSw; (try dsimp only at hSw); go_simp; (try with_reducible rfl))); (try simp only [List.getElem_toArray, List.getElem_cons_zero, List.getElem_cons_succ, Act.put, List.setIfInBounds_toArray, List.set_cons_zero, List.set_cons_succ])); (refine wpAnyH_take (i := 19) (v := ?_) rfl (by kernel_rfl) (by kernel_rfl) (by kernel_rfl) (fun _ _ _ h => h) (Or.inl ⟨by rfl, ?_⟩) (by assumption) ?_; rotate_left; (focus (intro w hSw; (try dsimp only at hSw); go_simp; (try with_reducible rfl))); (try simp only [List.getElem_toArray, List.getElem_cons_zero, List.getElem_cons_succ, Act.put, List.setIfInBounds_toArray, List.set_cons_zero, List.set_cons_succ]))
      refine wpAnyH_ready (rs := [20]) (by kernel_rfl) (by simp) ?_; refine AllReadyH.cons rfl (fun K hK => ?_) AllReadyH.nil; go_simp
      go_at_call 15
      refine (works_any _).mono ?_
      rintro e w4 ⟨rfl, hb4⟩
      have S4 := old_of (bel HB3d.out hb4)
      have HB4 := S4.2
      clear hb4
      refine hK.out _ _ S4 (fun hHeld => ?_); clear hK K; (try simp only [List.getElem_toArray, List.getElem_cons_zero, List.getElem_cons_succ, Act.put, List.setIfInBounds_toArray, List.set_cons_zero, List.set_cons_succ])
      (refine wpAnyH_take (i := 21) (v := ?_) rfl (by kernel_rfl) (by kernel_rfl) (by kernel_rfl) (fun _ _ _ h => h) (Or.inl ⟨by rfl, ?_⟩) (by assumption) ?_; rotate_left; (focus (intro w hSw; (try dsimp only at hSw); go_simp; (try with_reducible rfl))); (try simp only [List.getElem_toArray, List.getElem_cons_zero, List.getElem_cons_succ, Act.put, List.setIfInBounds_toArray, List.set_cons_zero, List.set_cons_succ])); (refine wpAnyH_take (i := 22) (v := ?_) rfl (by kernel_rfl) (by kernel_rfl) (by kernel_rfl) (fun _ _ _ h => h) (Or.inl ⟨by rfl, ?_⟩) (by assumption) ?_; rotate_left; (focus (intro w hSw; (try dsimp only at hSw); go_simp; (try with_reducible rfl))); (try simp only [List.getElem_toArray, List.getElem_cons_zero, List.getElem_cons_succ, Act.put, List.setIfInBounds_toArray, List.set_cons_zero, List.set_cons_succ]))
      refine wpAnyH_done (by kernel_rfl) ?_ _; clear hHeld
      go_wp2_with fail
      go_ret
      exact ⟨rfl, fin HB.out HB4.out⟩

end Go.Proofs.Ytopajgnemeodeaa
