/-
  The chapter's turnedFruits.
-/
import Derived.Test.YtopajgnemeodeaaOrder2
import Derived.Test.YtopajgnemeodeaaLeave3
import Derived.Test.YtopajgnemeodeaaCApart
import Derived.Deep.DeepCutAuto
namespace Go.Proofs.Ytopajgnemeodeaa
open Go.RowKit

/-- the first rows, and the first ones of one row, are the new ones -/
def mixF (R : Fr) (nv c a k j : Nat) : Nat → Nat → Int := fun f i => if f < k ∨ (f = k ∧ i < j) then (turnF R nv c a).X f i else R.X f i

theorem tmod_nat (a b n : Nat) (h : a + b ≤ 1000) : Int.tmod (IntKind.i64.wrap ((a : Int) + (b : Int))) (n : Int) = (((a + b) % n : Nat) : Int) := by
  have : ((a : Int) + (b : Int)) = ((a + b : Nat) : Int) := by omega
  rw [IntWalk.i64_in _ (by omega), this, Int.tmod_eq_emod_of_nonneg (by omega)]; rfl

theorem RowsIn.alike {w : World} {lo hi : Nat} {v : Value} {n : Nat} {L : Nat → Nat} {x y : Nat → Nat → Int} (h : RowsIn w lo hi v n L x) (e : ∀ f, f < n → ∀ i, i < L f → x f i = y f i) : RowsIn w lo hi v n L y := by
  obtain ⟨rows, M, ho, hb, hlen, h0, hM, hm, hr⟩ := h
  refine ⟨rows, M, ho, hb, hlen, h0, hM, hm, fun j hj => ?_⟩
  obtain ⟨r, hr1, g, cap, rfl, hk⟩ := hr j hj
  refine ⟨_, hr1, g, cap, rfl, fun h0 => ?_⟩
  obtain ⟨a, b, cur, c, d, e', f, k⟩ := hk h0
  exact ⟨a, b, cur, c, d, e', f, fun i hi => by rw [k i hi, e j hj i hi]⟩

set_option maxHeartbeats 4000000 in
set_option maxRecDepth 100000 in
theorem turnedFruits_any (N : Nat) (v u : Value) (B : Bk) (R : Fr) (ts : Int) (tm tf : Nat) (w : World) (h : BookAt N w v B) (hf : FruitsAt N w u R) (hg : Good B R) (h1 : tm ≤ 100) (h2 : tf ≤ 100) :
    Calls Try.prog 58 #[v, u, .agg #[.int .i64 ts, .int .i64 tm, .int .i64 tf]] w fun e w' => ∃ v', e = .returned v' ∧ RowsIn w' w.heap.size w'.heap.size v' R.n R.L (turnF R B.nv tf tm).X ∧ Below w.heap.size w w' := by
  have h' := h
  obtain ⟨_, a1, c1, a2, c2, a3, c3, rfl, _⟩ := h'
  obtain ⟨ws, hws, HB, hsz, hsz1, hblk, hblk1⟩ := box2 w (.cells #[.slice a1 B.nv c1, .slice a2 B.nf c2, .slice a3 B.ns c3, .int .i64 B.wr] 25) (.cells #[.int .i64 ts, .int .i64 tm, .int .i64 tf] 77)
  have q0 := cell_blk hblk 0 rfl
  have q1 := cell_blk hblk 1 rfl
  have q2 := cell_blk hblk 2 rfl
  have q3 := cell_blk hblk 3 rfl
  have p0 := cell_blk hblk1 0 rfl
  have p1 := cell_blk hblk1 1 rfl
  have p2 := cell_blk hblk1 2 rfl
  obtain ⟨HBF, HB0⟩ := entry HB.out h hf
  clear hblk hblk1 h hf
  obtain ⟨af, cf, rfl, hRn, _⟩ := id HBF.out.2
  have HNS : Hid (N ≤ ws.heap.size) := HBF.out.1.1
  have HG := Lib.hid hg
  have hn5 := hg.n
  have hnv := hg.nv
  have HLL : Hid (∀ f, f < R.n → R.L f ≤ 1000) := fun f hf => by rw [HG.out.L f hf]; omega
  clear hg
  go_enter Try.func58, Try.ntmps58
  go_wp2_with (first
    | (go_at_call 17; refine (copyFruits_any N _ R _ (HBF.out.go HB0.out).2 HNS.out (by omega) HLL.out).mono ?_; rintro e w1 ⟨v1, rfl, hr1, hb1⟩; obtain ⟨ao, co, rfl⟩ := hr1.form; have HR1 := Lib.hid hr1; clear hr1; (try clear c0); have HB1 := Lib.hid (bel HB0.out hb1); have c1 := (old_of HB1.out).1; clear hb1))
  clear hws
  go_loopw [8] (fun i wr => ∃ k : Nat, k ≤ R.n ∧ i = .int .i64 k ∧ Hid (RowsIn wr ws.heap.size w1.heap.size (.slice ao R.n co) R.n R.L (mixF R B.nv tf tm k 0)) ∧ Hid (Below ws.heap.size ws wr) ∧ Hid (wr.heap.size = w1.heap.size)) (fun i _ => R.n - (intOf i).toNat)
  case atStart => exact ⟨0, Nat.zero_le _, rfl, HR1.out.alike fun f _ i _ => by simp [mixF], HB1.out, rfl⟩
  clear c1 HB1
  case round =>
  obtain ⟨k, hk, rfl, HRr, HBr, HZr⟩ := hrel
  have cr := (old_of HBr.out).1
  by_cases hkn : k < R.n
  · have HKN := Lib.hid hkn
    have hki : (k : Int) < (R.n : Int) := by omega
    clear hkn hk
    go_wp2
    go_loopw [9] (fun i wr => ∃ j : Nat, j ≤ B.nv ∧ i = .int .i64 j ∧ Hid (RowsIn wr ws.heap.size w1.heap.size (.slice ao R.n co) R.n R.L (mixF R B.nv tf tm k j)) ∧ Hid (Below ws.heap.size ws wr) ∧ Hid (wr.heap.size = w1.heap.size)) (fun i _ => B.nv - (intOf i).toNat)
    case atStart => exact ⟨0, Nat.zero_le _, rfl, HRr, HBr, HZr⟩
    clear cr HRr HBr HZr
    case round =>
    obtain ⟨j, hj, rfl, HRr, HBr, HZr⟩ := hrel
    have cr := (old_of HBr.out).1
    by_cases hjn : j < B.nv
    · have HJN := Lib.hid hjn
      have hji : (j : Int) < (B.nv : Int) := by omega
      have hjL : j < R.L k := by rw [HG.out.L k HKN.out]; exact hjn
      obtain ⟨F, hF⟩ : ∃ F, (k + tf) % R.n = F := ⟨_, rfl⟩
      obtain ⟨M, hM⟩ : ∃ M, (j + tm) % B.nv = M := ⟨_, rfl⟩
      have hFn : F < R.n := by rw [← hF]; exact rot_lt tf HKN.out
      have hMn : M < B.nv := by rw [← hM]; exact rot_lt tm hjn
      have e1 : Int.tmod (IntKind.i64.wrap ((k : Int) + (tf : Int))) (R.n : Int) = (F : Int) := by rw [← hF]; exact tmod_nat _ _ _ (by have := HKN.out; omega)
      have z1 : ¬ R.n = 0 := by have := HKN.out; omega
      have e2 : Int.tmod (IntKind.i64.wrap ((j : Int) + (tm : Int))) (B.nv : Int) = (M : Int) := by rw [← hM]; exact tmod_nat _ _ _ (by omega)
      have z2 : ¬ B.nv = 0 := by omega
      have HFE := Lib.hid hF
      have HME := Lib.hid hM
      obtain ⟨b5, o5, b6, o6, c6, rfl, hb5, hb6, hq5, hq6⟩ := fruit_at HBF.out.2 (f := F) (m := M) hFn (by rw [HG.out.L F hFn]; exact hMn)
      have g5 : b5 < ws.heap.size := Nat.lt_of_lt_of_le hb5 HNS.out
      have g6 : b6 < ws.heap.size := Nat.lt_of_lt_of_le hb6 HNS.out
      have hFi : (F : Int) < (R.n : Int) := by omega
      have hMi : (M : Int) < (R.L F : Int) := by rw [HG.out.L F hFn]; omega
      have hjLi : (j : Int) < (R.L k : Int) := by omega
      obtain ⟨g0, cap0, g, cap, ev, hy1, hy2, hy3, hg0, hgl, hput⟩ := HRr.out.put HKN.out hjL (R.X F M)
      cases ev
      have HPUT := Lib.hid hput
      have HGL := Lib.hid hgl
      have hy4 := hy3 j
      clear hF hM hb5 hb6 hFn hMn hjn hg0 hgl hput hy3
      have Srd := old_of HBr.out.drew; have HBrd := Srd.2
      go_upto_region 8 with fail
      refine wp_region_held_drew (S := (fun w' => (∀ b o, b < ws.heap.size → w'.cell? ⟨b, o, none⟩ = ws.cell? ⟨b, o, none⟩) ∧ Hid (Below ws.heap.size ws w'))) (by kernel_rfl) Srd (fun hHeld => ?_)
      (refine wpAnyH_take (i := 0) (v := ?_) rfl (by kernel_rfl) (by kernel_rfl) (by kernel_rfl) (fun _ _ _ h => h) (Or.inl ⟨by rfl, ?_⟩) (by assumption) ?_; rotate_left; (focus (intro w hSw; (try dsimp only at hSw); go_simp; (try with_reducible rfl))); (try simp only [List.getElem_toArray, List.getElem_cons_zero, List.getElem_cons_succ, Act.put, List.setIfInBounds_toArray, List.set_cons_zero, List.set_cons_succ])); (refine wpAnyH_take (i := 1) (v := ?_) rfl (by kernel_rfl) (by kernel_rfl) (by kernel_rfl) (fun _ _ _ h => h) (Or.inl ⟨by rfl, ?_⟩) (by assumption) ?_; rotate_left; (focus (intro w hSw; (try dsimp only at hSw); go_simp; (try with_reducible rfl))); (try simp only [List.getElem_toArray, List.getElem_cons_zero, List.getElem_cons_succ, Act.put, List.setIfInBounds_toArray, List.set_cons_zero, List.set_cons_succ])); (refine wpAnyH_take (i := 2) (v := ?_) rfl (by kernel_rfl) (by kernel_rfl) (by kernel_rfl) (fun _ _ _ h => h) (Or.inl ⟨by rfl, ?_⟩) (by assumption) ?_; rotate_left; (focus (intro w hSw; (try dsimp only at hSw); go_simp; (try with_reducible rfl))); (try simp only [List.getElem_toArray, List.getElem_cons_zero, List.getElem_cons_succ, Act.put, List.setIfInBounds_toArray, List.set_cons_zero, List.set_cons_succ]))
      (refine wpAnyH_take (i := 4) (v := ?_) rfl (by kernel_rfl) (by kernel_rfl) (by kernel_rfl) (fun _ _ _ h => h) (Or.inl ⟨by rfl, ?_⟩) (by assumption) ?_; rotate_left; (focus (intro w hSw; (try dsimp only at hSw); go_simp; (try with_reducible rfl))); (try simp only [List.getElem_toArray, List.getElem_cons_zero, List.getElem_cons_succ, Act.put, List.setIfInBounds_toArray, List.set_cons_zero, List.set_cons_succ])); (refine wpAnyH_take (i := 5) (v := ?_) rfl (by kernel_rfl) (by kernel_rfl) (by kernel_rfl) (fun _ _ _ h => h) (Or.inl ⟨by rfl, ?_⟩) (by assumption) ?_; rotate_left; (focus (intro w hSw; (try dsimp only at hSw); go_simp; (try with_reducible rfl))); (try simp only [List.getElem_toArray, List.getElem_cons_zero, List.getElem_cons_succ, Act.put, List.setIfInBounds_toArray, List.set_cons_zero, List.set_cons_succ])); (refine wpAnyH_take (i := 6) (v := ?_) rfl (by kernel_rfl) (by kernel_rfl) (by kernel_rfl) (fun _ _ _ h => h) (Or.inl ⟨by rfl, ?_⟩) (by assumption) ?_; rotate_left; (focus (intro w hSw; (try dsimp only at hSw); go_simp; (try with_reducible rfl))); (try simp only [List.getElem_toArray, List.getElem_cons_zero, List.getElem_cons_succ, Act.put, List.setIfInBounds_toArray, List.set_cons_zero, List.set_cons_succ])); (refine wpAnyH_take (i := 7) (v := ?_) rfl (by kernel_rfl) (by kernel_rfl) (by kernel_rfl) (fun _ _ _ h => h) (Or.inl ⟨by rfl, ?_⟩) (by assumption) ?_; rotate_left; (focus (intro w hSw; (try dsimp only at hSw); go_simp; (try with_reducible rfl))); (try simp only [List.getElem_toArray, List.getElem_cons_zero, List.getElem_cons_succ, Act.put, List.setIfInBounds_toArray, List.set_cons_zero, List.set_cons_succ])); (refine wpAnyH_take (i := 8) (v := ?_) rfl (by kernel_rfl) (by kernel_rfl) (by kernel_rfl) (fun _ _ _ h => h) (Or.inl ⟨by rfl, ?_⟩) (by assumption) ?_; rotate_left; (focus (intro w hSw; (try dsimp only at hSw); go_simp; (try with_reducible rfl))); (try simp only [List.getElem_toArray, List.getElem_cons_zero, List.getElem_cons_succ, Act.put, List.setIfInBounds_toArray, List.set_cons_zero, List.set_cons_succ])); (refine wpAnyH_take (i := 9) (v := ?_) rfl (by kernel_rfl) (by kernel_rfl) (by kernel_rfl) (fun _ _ _ h => h) (Or.inl ⟨by rfl, ?_⟩) (by assumption) ?_; rotate_left; (focus (intro w hSw; (try dsimp only at hSw); go_simp; (try with_reducible rfl))); (try simp only [List.getElem_toArray, List.getElem_cons_zero, List.getElem_cons_succ, Act.put, List.setIfInBounds_toArray, List.set_cons_zero, List.set_cons_succ])); (refine wpAnyH_take (i := 10) (v := ?_) rfl (by kernel_rfl) (by kernel_rfl) (by kernel_rfl) (fun _ _ _ h => h) (Or.inl ⟨by rfl, ?_⟩) (by assumption) ?_; rotate_left; (focus (intro w hSw; (try dsimp only at hSw); go_simp; (try with_reducible rfl))); (try simp only [List.getElem_toArray, List.getElem_cons_zero, List.getElem_cons_succ, Act.put, List.setIfInBounds_toArray, List.set_cons_zero, List.set_cons_succ])); (refine wpAnyH_take (i := 11) (v := ?_) rfl (by kernel_rfl) (by kernel_rfl) (by kernel_rfl) (fun _ _ _ h => h) (Or.inl ⟨by rfl, ?_⟩) (by assumption) ?_; rotate_left; (focus (intro w hSw; (try dsimp only at hSw); go_simp; (try with_reducible rfl))); (try simp only [List.getElem_toArray, List.getElem_cons_zero, List.getElem_cons_succ, Act.put, List.setIfInBounds_toArray, List.set_cons_zero, List.set_cons_succ])); (refine wpAnyH_take (i := 12) (v := ?_) rfl (by kernel_rfl) (by kernel_rfl) (by kernel_rfl) (fun _ _ _ h => h) (Or.inl ⟨by rfl, ?_⟩) (by assumption) ?_; rotate_left; (focus (intro w hSw; (try dsimp only at hSw); go_simp; (try with_reducible rfl))); (try simp only [List.getElem_toArray, List.getElem_cons_zero, List.getElem_cons_succ, Act.put, List.setIfInBounds_toArray, List.set_cons_zero, List.set_cons_succ])); (refine wpAnyH_take (i := 13) (v := ?_) rfl (by kernel_rfl) (by kernel_rfl) (by kernel_rfl) (fun _ _ _ h => h) (Or.inl ⟨by rfl, ?_⟩) (by assumption) ?_; rotate_left; (focus (intro w hSw; (try dsimp only at hSw); go_simp; (try with_reducible rfl))); (try simp only [List.getElem_toArray, List.getElem_cons_zero, List.getElem_cons_succ, Act.put, List.setIfInBounds_toArray, List.set_cons_zero, List.set_cons_succ])); (refine wpAnyH_take (i := 14) (v := ?_) rfl (by kernel_rfl) (by kernel_rfl) (by kernel_rfl) (fun _ _ _ h => h) (Or.inl ⟨by rfl, ?_⟩) (by assumption) ?_; rotate_left; (focus (intro w hSw; (try dsimp only at hSw); go_simp; (try with_reducible rfl))); (try simp only [List.getElem_toArray, List.getElem_cons_zero, List.getElem_cons_succ, Act.put, List.setIfInBounds_toArray, List.set_cons_zero, List.set_cons_succ])); (refine wpAnyH_take (i := 15) (v := ?_) rfl (by kernel_rfl) (by kernel_rfl) (by kernel_rfl) (fun _ _ _ h => h) (Or.inl ⟨by rfl, ?_⟩) (by assumption) ?_; rotate_left; (focus (intro w hSw; (try dsimp only at hSw); go_simp; (try with_reducible rfl))); (try simp only [List.getElem_toArray, List.getElem_cons_zero, List.getElem_cons_succ, Act.put, List.setIfInBounds_toArray, List.set_cons_zero, List.set_cons_succ])); (refine wpAnyH_take (i := 16) (v := ?_) rfl (by kernel_rfl) (by kernel_rfl) (by kernel_rfl) (fun _ _ _ h => h) (Or.inl ⟨by rfl, ?_⟩) (by assumption) ?_; rotate_left; (focus (intro w hSw; (try dsimp only at hSw); go_simp; (try with_reducible rfl))); (try simp only [List.getElem_toArray, List.getElem_cons_zero, List.getElem_cons_succ, Act.put, List.setIfInBounds_toArray, List.set_cons_zero, List.set_cons_succ])); (refine wpAnyH_take (i := 17) (v := ?_) rfl (by kernel_rfl) (by kernel_rfl) (by kernel_rfl) (fun _ _ _ h => h) (Or.inl ⟨by rfl, ?_⟩) (by assumption) ?_; rotate_left; (focus (intro w hSw; (try dsimp only at hSw); go_simp; (try with_reducible rfl))); (try simp only [List.getElem_toArray, List.getElem_cons_zero, List.getElem_cons_succ, Act.put, List.setIfInBounds_toArray, List.set_cons_zero, List.set_cons_succ])); (refine wpAnyH_take (i := 18) (v := ?_) rfl (by kernel_rfl) (by kernel_rfl) (by kernel_rfl) (fun _ _ _ h => h) (Or.inl ⟨by rfl, ?_⟩) (by assumption) ?_; rotate_left; (focus (intro w hSw; (try dsimp only at hSw); go_simp; (try with_reducible rfl))); (try simp only [List.getElem_toArray, List.getElem_cons_zero, List.getElem_cons_succ, Act.put, List.setIfInBounds_toArray, List.set_cons_zero, List.set_cons_succ])); (refine wpAnyH_take (i := 19) (v := ?_) rfl (by kernel_rfl) (by kernel_rfl) (by kernel_rfl) (fun _ _ _ h => h) (Or.inl ⟨by rfl, ?_⟩) (by assumption) ?_; rotate_left; (focus (intro w hSw; (try dsimp only at hSw); go_simp; (try with_reducible rfl))); (try simp only [List.getElem_toArray, List.getElem_cons_zero, List.getElem_cons_succ, Act.put, List.setIfInBounds_toArray, List.set_cons_zero, List.set_cons_succ])); (refine wpAnyH_take (i := 20) (v := ?_) rfl (by kernel_rfl) (by kernel_rfl) (by kernel_rfl) (fun _ _ _ h => h) (Or.inl ⟨by rfl, ?_⟩) (by assumption) ?_; rotate_left; (focus (intro w hSw; (try dsimp only at hSw); go_simp; (try with_reducible rfl))); (try simp only [List.getElem_toArray, List.getElem_cons_zero, List.getElem_cons_succ, Act.put, List.setIfInBounds_toArray, List.set_cons_zero, List.set_cons_succ])); (refine wpAnyH_take (i := 21) (v := ?_) rfl (by kernel_rfl) (by kernel_rfl) (by kernel_rfl) (fun _ _ _ h => h) (Or.inl ⟨by rfl, ?_⟩) (by assumption) ?_; rotate_left; (focus (intro w hSw; (try dsimp only at hSw); go_simp; (try with_reducible rfl))); (try simp only [List.getElem_toArray, List.getElem_cons_zero, List.getElem_cons_succ, Act.put, List.setIfInBounds_toArray, List.set_cons_zero, List.set_cons_succ])); (refine wpAnyH_take (i := 22) (v := ?_) rfl (by kernel_rfl) (by kernel_rfl) (by kernel_rfl) (fun _ _ _ h => h) (Or.inl ⟨by rfl, ?_⟩) (by assumption) ?_; rotate_left; (focus (intro w hSw; (try dsimp only at hSw); go_simp; (try with_reducible rfl))); (try simp only [List.getElem_toArray, List.getElem_cons_zero, List.getElem_cons_succ, Act.put, List.setIfInBounds_toArray, List.set_cons_zero, List.set_cons_succ])); (refine wpAnyH_take (i := 23) (v := ?_) rfl (by kernel_rfl) (by kernel_rfl) (by kernel_rfl) (fun _ _ _ h => h) (Or.inl ⟨by rfl, ?_⟩) (by assumption) ?_; rotate_left; (focus (intro w hSw; (try dsimp only at hSw); go_simp; (try with_reducible rfl))); (try simp only [List.getElem_toArray, List.getElem_cons_zero, List.getElem_cons_succ, Act.put, List.setIfInBounds_toArray, List.set_cons_zero, List.set_cons_succ])); (refine wpAnyH_take (i := 24) (v := ?_) rfl (by kernel_rfl) (by kernel_rfl) (by kernel_rfl) (fun _ _ _ h => h) (Or.inl ⟨by rfl, ?_⟩) (by assumption) ?_; rotate_left; (focus (intro w hSw; (try dsimp only at hSw); go_simp; (try with_reducible rfl))); (try simp only [List.getElem_toArray, List.getElem_cons_zero, List.getElem_cons_succ, Act.put, List.setIfInBounds_toArray, List.set_cons_zero, List.set_cons_succ]))
      refine wpAnyH_ready (rs := [3]) (by kernel_rfl) (by simp) ?_; refine AllReadyH.cons rfl (fun K hK => ?_) AllReadyH.nil; go_simp
      refine hK.out _ _ Srd (fun hHeld => ?_); clear hK K; (try simp only [List.getElem_toArray, List.getElem_cons_zero, List.getElem_cons_succ, Act.put, List.setIfInBounds_toArray, List.set_cons_zero, List.set_cons_succ])
      (refine wpAnyH_take (i := 25) (v := ?_) rfl (by kernel_rfl) (by kernel_rfl) (by kernel_rfl) (fun _ _ _ h => h) (Or.inl ⟨by rfl, ?_⟩) (by assumption) ?_; rotate_left; (focus (intro w hSw; (try dsimp only at hSw); go_simp; (try with_reducible rfl))); (try simp only [List.getElem_toArray, List.getElem_cons_zero, List.getElem_cons_succ, Act.put, List.setIfInBounds_toArray, List.set_cons_zero, List.set_cons_succ]))
      refine wpAnyH_ready (rs := [26]) (by kernel_rfl) (by simp) ?_; refine AllReadyH.cons rfl (fun K hK => ?_) AllReadyH.nil; go_simp
      obtain ⟨w2, hw2⟩ : ∃ w2 : World, (wr.setCell ⟨g, j, none⟩ (.int .i64 (R.X F M))).drew = w2 := ⟨_, rfl⟩
      rw [hw2]
      have hb2 : Below ws.heap.size ws w2 := by rw [← hw2]; exact (HBr.out.setCell (p := ⟨g, j, none⟩) HGL.out _).drew
      have HZ2 : Hid (w2.heap.size = w1.heap.size) := by rw [← hw2]; unfold Hid; simpa [World.setCell] using HZr.out
      have HR2 : Hid (RowsIn w2 ws.heap.size w1.heap.size (.slice (some ⟨g0, 0, none⟩) R.n co) R.n R.L (mixF R B.nv tf tm k (j + 1))) := by
        rw [← hw2]
        refine RowsIn.keep (w := wr.setCell ⟨g, j, none⟩ (.int .i64 (R.X F M))) (HPUT.out.alike fun f hf i hi => ?_) fun _ _ _ _ _ _ _ => rfl
        rw [← HFE.out, ← HME.out]
        by_cases hfi : f = k ∧ i = j
        · obtain ⟨rfl, rfl⟩ := hfi
          simp [mixF, turnF]
        · rw [if_neg hfi]
          unfold mixF
          by_cases hc : f < k ∨ (f = k ∧ i < j)
          · rw [if_pos hc, if_pos (by omega)]
          · rw [if_neg hc, if_neg (by omega)]
      have S2 := old_of hb2
      have HB2 := S2.2
      clear hw2 hb2
      refine hK.out _ _ S2 (fun hHeld => ?_); clear hK K; (try simp only [List.getElem_toArray, List.getElem_cons_zero, List.getElem_cons_succ, Act.put, List.setIfInBounds_toArray, List.set_cons_zero, List.set_cons_succ])
      refine wpAnyH_done (by kernel_rfl) ?_ _; clear hHeld
      clear S2 Srd
      go_wp2
      go_roundw
      case rel => exact ⟨j + 1, by have := HJN.out; omega, by go_num, HR2, HB2, HZ2⟩
      case measure => simp [intOf]; have := HJN.out; omega
    · have HJE : Hid (j = B.nv) := by show j = _; omega
      go_wp2
      go_roundw
      case rel => exact ⟨k + 1, by have := HKN.out; omega, by go_num, HRr.out.alike fun f hf i hi => by
        unfold mixF
        have := HG.out.L f hf
        have := HJE.out
        by_cases hc : f < k ∨ (f = k ∧ i < j)
        · rw [if_pos hc, if_pos (by omega)]
        · rw [if_neg hc, if_neg (by omega)], HBr, HZr⟩
      case measure => simp [intOf]; have := HKN.out; omega
  · have HKE : Hid (k = R.n) := by show k = _; omega
    go_wp2
    go_ret
    refine ⟨_, rfl, ?_, fin HB.out HBr.out⟩
    rw [HZr.out]
    exact (HRr.out.alike fun f hf i _ => by
      unfold mixF
      have := HKE.out
      rw [if_pos (by omega)]).lower HB.out.size

end Go.Proofs.Ytopajgnemeodeaa
