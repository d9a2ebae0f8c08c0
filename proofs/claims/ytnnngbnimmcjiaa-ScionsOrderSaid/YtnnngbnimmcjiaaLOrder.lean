/-
  LOrder: ScionsOrder returns true.
-/
import Derived.Test.YtnnngbnimmcjiaaOrder2
import Derived.Deep.CutBlock
namespace Go.Proofs.Ytnnngbnimmcjiaa
open Go.RowKit

theorem run_min_int4 {P : Program} {w : World} (ts : Array TypeId) (t : TypeId) (k k' k'' k3 : IntKind) (x y z u : Int) : (Builtin.min_ ts t #[.int k x, .int k' y, .int k'' z, .int k3 u]).run P w = .ok (.int k (if u < (if z < (if y < x then y else x) then z else (if y < x then y else x)) then u else (if z < (if y < x then y else x) then z else (if y < x then y else x)))) w := by
  simp [Builtin.min_, Builtin.min2]
theorem run_max_int4 {P : Program} {w : World} (ts : Array TypeId) (t : TypeId) (k k' k'' k3 : IntKind) (x y z u : Int) : (Builtin.max_ ts t #[.int k x, .int k' y, .int k'' z, .int k3 u]).run P w = .ok (.int k (if u > (if z > (if y > x then y else x) then z else (if y > x then y else x)) then u else (if z > (if y > x then y else x) then z else (if y > x then y else x)))) w := by
  simp [Builtin.max_, Builtin.max2]

set_option maxHeartbeats 16000000 in
set_option maxRecDepth 100000 in
theorem corder_any (N : Nat) (v : Value) (B : SB) (xg xw xf xs : Int) (w : World) (h : BookAt N w v B) :
    Calls Try.prog 7 #[v, .agg #[.int .i64 xg, .int .i64 xw, .int .i64 xf, .int .i64 xs]] w fun e w' => e = .returned (.bool true) ∧ Below w.heap.size w w' := by
  have h' := h
  obtain ⟨_, a1, z1, a2, z2, a3, z3, rfl, _⟩ := h'
  obtain ⟨ws, hws, HB, hsz, hsz1, hblk, hblk1⟩ := box2 w (.cells #[.slice a1 B.ns z1, .slice a2 B.ng z2, .slice a3 B.nw z3] 26) (.cells #[.int .i64 xg, .int .i64 xw, .int .i64 xf, .int .i64 xs] 55)
  have q0 := cell_blk hblk 0 rfl
  have q1 := cell_blk hblk 1 rfl
  have q2 := cell_blk hblk 2 rfl
  have p0 := cell_blk hblk1 0 rfl
  have p1 := cell_blk hblk1 1 rfl
  have p2 := cell_blk hblk1 2 rfl
  have p3 := cell_blk hblk1 3 rfl
  have HBK := Lib.hid (h.go HB.out)
  have HB0 : Hid (Below ws.heap.size ws ws) := Below.refl _ _
  have HNS : Hid (N ≤ ws.heap.size) := HBK.out.1
  have hlens := h.lens
  obtain ⟨hlv, hls, hln⟩ := hlens
  clear hblk hblk1 h
  cases hr : readyL B with
  | false =>
    have HRY := Lib.hid hr
    clear hr
    go_enter Try.func7, Try.ntmps7
    go_wp2_with (first
      | (go_at_call 12; refine (ready_any N _ B _ (HBK.out.go HB0.out)).mono ?_; rintro e w1 ⟨rfl, hb1⟩; rw [HRY.out]; (try clear c0); have HB1 := Lib.hid (bel HB0.out hb1); have c1 := (old_of HB1.out).1; clear hb1)
      | (go_at_call 14; refine (works_any _).mono ?_; rintro e w2 ⟨rfl, hb2⟩; (try clear c1); have HB2 := Lib.hid (bel HB1.out hb2); have c2 := (old_of HB2.out).1; clear hb2))
    go_ret
    exact ⟨rfl, fin HB.out HB2.out⟩
  | true =>
  have HRY := Lib.hid hr
  have hv : okL B = true := by unfold readyL at hr; rw [Bool.and_eq_true] at hr; exact hr.2
  have hG := goodL hv
  have HG := Lib.hid hG
  by_cases hg0 : B.ng = 0
  · have hgb : ((B.ng : Int) == 0) = true := by simp; omega
    clear hr hv hG hg0
    go_enter Try.func7, Try.ntmps7
    go_wp2_with (first
      | (go_at_call 12; refine (ready_any N _ B _ (HBK.out.go HB0.out)).mono ?_; rintro e w1 ⟨rfl, hb1⟩; rw [HRY.out]; (try clear c0); have HB1 := Lib.hid (bel HB0.out hb1); have c1 := (old_of HB1.out).1; clear hb1)
      | (go_at_call 14; refine (works_any _).mono ?_; rintro e w2 ⟨rfl, hb2⟩; (try clear c1); have HB2 := Lib.hid (bel HB1.out hb2); have c2 := (old_of HB2.out).1; clear hb2))
    go_ret
    exact ⟨rfl, fin HB.out HB2.out⟩
  by_cases hs0 : B.ns = 0
  · have hgb : ((B.ng : Int) == 0) = false := by simp; omega
    have hsb : ((B.ns : Int) == 0) = true := by simp; omega
    clear hr hv hG hg0 hs0
    go_enter Try.func7, Try.ntmps7
    go_wp2_with (first
      | (go_at_call 12; refine (ready_any N _ B _ (HBK.out.go HB0.out)).mono ?_; rintro e w1 ⟨rfl, hb1⟩; rw [HRY.out]; (try clear c0); have HB1 := Lib.hid (bel HB0.out hb1); have c1 := (old_of HB1.out).1; clear hb1)
      | (go_at_call 14; refine (works_any _).mono ?_; rintro e w2 ⟨rfl, hb2⟩; (try clear c1); have HB2 := Lib.hid (bel HB1.out hb2); have c2 := (old_of HB2.out).1; clear hb2))
    go_ret
    exact ⟨rfl, fin HB.out HB2.out⟩
  have hgb : ((B.ng : Int) == 0) = false := by simp; omega
  have hsb : ((B.ns : Int) == 0) = false := by simp; omega
  obtain ⟨mn, hmn⟩ : ∃ mn : Int, mn = min (min (min xg xw) xf) xs := ⟨_, rfl⟩
  obtain ⟨mx, hmx⟩ : ∃ mx : Int, mx = max (max (max xg xw) xf) xs := ⟨_, rfl⟩
  have hmin4 : ∀ (a : Array TypeId) (b : TypeId) (W : World), (Builtin.min_ a b #[.int .i64 xg, .int .i64 xw, .int .i64 xf, .int .i64 xs]).run Try.prog W = .ok (.int .i64 mn) W := fun a b W => by
    rw [run_min_int4]
    congr 2
    rw [hmn]
    repeat' split
    all_goals omega
  have hmax4 : ∀ (a : Array TypeId) (b : TypeId) (W : World), (Builtin.max_ a b #[.int .i64 xg, .int .i64 xw, .int .i64 xf, .int .i64 xs]).run Try.prog W = .ok (.int .i64 mx) W := fun a b W => by
    rw [run_max_int4]
    congr 2
    rw [hmx]
    repeat' split
    all_goals omega
  by_cases hm0 : mn < 0
  · clear hr hv hG hg0 hs0 hmn hmx
    go_enter Try.func7, Try.ntmps7
    go_wp2_with (first
      | (go_at_call 12; refine (ready_any N _ B _ (HBK.out.go HB0.out)).mono ?_; rintro e w1 ⟨rfl, hb1⟩; rw [HRY.out]; (try clear c0); have HB1 := Lib.hid (bel HB0.out hb1); have c1 := (old_of HB1.out).1; clear hb1)
      | (go_at_call 14; refine (works_any _).mono ?_; rintro e w2 ⟨rfl, hb2⟩; (try clear c1); have HB2 := Lib.hid (bel HB1.out hb2); have c2 := (old_of HB2.out).1; clear hb2))
    go_ret
    exact ⟨rfl, fin HB.out HB2.out⟩
  by_cases hm1 : 100 < mx
  · clear hr hv hG hg0 hs0 hmn hmx
    go_enter Try.func7, Try.ntmps7
    go_wp2_with (first
      | (go_at_call 12; refine (ready_any N _ B _ (HBK.out.go HB0.out)).mono ?_; rintro e w1 ⟨rfl, hb1⟩; rw [HRY.out]; (try clear c0); have HB1 := Lib.hid (bel HB0.out hb1); have c1 := (old_of HB1.out).1; clear hb1)
      | (go_at_call 14; refine (works_any _).mono ?_; rintro e w2 ⟨rfl, hb2⟩; (try clear c1); have HB2 := Lib.hid (bel HB1.out hb2); have c2 := (old_of HB2.out).1; clear hb2))
    go_ret
    exact ⟨rfl, fin HB.out HB2.out⟩
  have hb4 : 0 ≤ xg ∧ xg ≤ 100 ∧ 0 ≤ xw ∧ xw ≤ 100 ∧ 0 ≤ xf ∧ xf ≤ 100 ∧ 0 ≤ xs ∧ xs ≤ 100 := by omega
  obtain ⟨hb40, hb41, hb42, hb43, hb44, hb45, hb46, hb47⟩ := hb4
  obtain ⟨kg, rfl⟩ : ∃ k : Nat, xg = k := ⟨xg.toNat, by omega⟩
  obtain ⟨kw, rfl⟩ : ∃ k : Nat, xw = k := ⟨xw.toNat, by omega⟩
  obtain ⟨kf, rfl⟩ : ∃ k : Nat, xf = k := ⟨xf.toNat, by omega⟩
  obtain ⟨ks, rfl⟩ : ∃ k : Nat, xs = k := ⟨xs.toNat, by omega⟩
  have hkb : kg ≤ 100 ∧ kw ≤ 100 ∧ kf ≤ 100 ∧ ks ≤ 100 := by omega
  obtain ⟨hkg, hkw, hkf, hks⟩ := hkb
  have hns := hG.ns
  have hng := hG.ng
  have hnw := hG.nw
  have hg1 : 0 < B.ng := by omega
  have hs1 : 0 < B.ns := by omega
  have hn0g : ¬ B.ng = 0 := hg0
  have hn0s : ¬ B.ns = 0 := hs0
  clear hr hv hG hmn hmx hb40 hb41 hb42 hb43 hb44 hb45 hb46 hb47 hg0 hs0
  go_enter Try.func7, Try.ntmps7
  go_upto_region 3 with (first
    | (go_at_call 12; refine (ready_any N _ B _ (HBK.out.go HB0.out)).mono ?_; rintro e w0 ⟨rfl, hb1⟩; rw [HRY.out]; have HB1 := Lib.hid (bel HB0.out hb1); have c0 := (old_of HB1.out).1; clear hb1))
  clear hws c0
  have S1d := old_of HB1.out.drew; have HB1d := S1d.2
  refine wp_region_held_drew (S := (fun w' => (∀ b o, b < ws.heap.size → w'.cell? ⟨b, o, none⟩ = ws.cell? ⟨b, o, none⟩) ∧ Hid (Below ws.heap.size ws w'))) (by kernel_rfl) S1d (fun hHeld => ?_)
  (refine wpAnyH_take (i := 0) (v := ?_) rfl (by kernel_rfl) (by kernel_rfl) (by kernel_rfl) (fun _ _ _ h => h) (Or.inl ⟨by rfl, ?_⟩) (by assumption) ?_; rotate_left; (focus (intro w hSw; (try dsimp only at hSw); go_simp; (try with_reducible rfl))); (try simp only [List.getElem_toArray, List.getElem_cons_zero, List.getElem_cons_succ, Act.put, List.setIfInBounds_toArray, List.set_cons_zero, List.set_cons_succ])); (refine wpAnyH_take (i := 1) (v := ?_) rfl (by kernel_rfl) (by kernel_rfl) (by kernel_rfl) (fun _ _ _ h => h) (Or.inl ⟨by rfl, ?_⟩) (by assumption) ?_; rotate_left; (focus (intro w hSw; (try dsimp only at hSw); go_simp; (try with_reducible rfl))); (try simp only [List.getElem_toArray, List.getElem_cons_zero, List.getElem_cons_succ, Act.put, List.setIfInBounds_toArray, List.set_cons_zero, List.set_cons_succ])); (refine wpAnyH_take (i := 2) (v := ?_) rfl (by kernel_rfl) (by kernel_rfl) (by kernel_rfl) (fun _ _ _ h => h) (Or.inl ⟨by rfl, ?_⟩) (by assumption) ?_; rotate_left; (focus (intro w hSw; (try dsimp only at hSw); go_simp; (try with_reducible rfl))); (try simp only [List.getElem_toArray, List.getElem_cons_zero, List.getElem_cons_succ, Act.put, List.setIfInBounds_toArray, List.set_cons_zero, List.set_cons_succ])); (refine wpAnyH_take (i := 3) (v := ?_) rfl (by kernel_rfl) (by kernel_rfl) (by kernel_rfl) (fun _ _ _ h => h) (Or.inl ⟨by rfl, ?_⟩) (by assumption) ?_; rotate_left; (focus (intro w hSw; (try dsimp only at hSw); go_simp; (try with_reducible rfl))); (try simp only [List.getElem_toArray, List.getElem_cons_zero, List.getElem_cons_succ, Act.put, List.setIfInBounds_toArray, List.set_cons_zero, List.set_cons_succ])); (refine wpAnyH_take (i := 4) (v := ?_) rfl (by kernel_rfl) (by kernel_rfl) (by kernel_rfl) (fun _ _ _ h => h) (Or.inl ⟨by rfl, ?_⟩) (by assumption) ?_; rotate_left; (focus (intro w hSw; (try dsimp only at hSw); go_simp; (try with_reducible rfl))); (try simp only [List.getElem_toArray, List.getElem_cons_zero, List.getElem_cons_succ, Act.put, List.setIfInBounds_toArray, List.set_cons_zero, List.set_cons_succ])); (refine wpAnyH_take (i := 5) (v := ?_) rfl (by kernel_rfl) (by kernel_rfl) (by kernel_rfl) (fun _ _ _ h => h) (Or.inl ⟨by rfl, ?_⟩) (by assumption) ?_; rotate_left; (focus (intro w hSw; (try dsimp only at hSw); go_simp; (try with_reducible rfl))); (try simp only [List.getElem_toArray, List.getElem_cons_zero, List.getElem_cons_succ, Act.put, List.setIfInBounds_toArray, List.set_cons_zero, List.set_cons_succ])); (refine wpAnyH_take (i := 6) (v := ?_) rfl (by kernel_rfl) (by kernel_rfl) (by kernel_rfl) (fun _ _ _ h => h) (Or.inl ⟨by rfl, ?_⟩) (by assumption) ?_; rotate_left; (focus (intro w hSw; (try dsimp only at hSw); go_simp; (try with_reducible rfl))); (try simp only [List.getElem_toArray, List.getElem_cons_zero, List.getElem_cons_succ, Act.put, List.setIfInBounds_toArray, List.set_cons_zero, List.set_cons_succ])); (refine wpAnyH_take (i := 7) (v := ?_) rfl (by kernel_rfl) (by kernel_rfl) (by kernel_rfl) (fun _ _ _ h => h) (Or.inl ⟨by rfl, ?_⟩) (by assumption) ?_; rotate_left; (focus (intro w hSw; (try dsimp only at hSw); go_simp; (try with_reducible rfl))); (try simp only [List.getElem_toArray, List.getElem_cons_zero, List.getElem_cons_succ, Act.put, List.setIfInBounds_toArray, List.set_cons_zero, List.set_cons_succ]))
  refine wpAnyH_done (by kernel_rfl) ?_ _; clear hHeld
  obtain ⟨w1, hw1⟩ : ∃ w1, w0.drew = w1 := ⟨_, rfl⟩
  rw [hw1] at HB1d S1d ⊢
  have c1 := S1d.1
  clear hw1 S1d HB1
  go_upto_region 5 with (
    (go_at_call 26; refine (copyT_any N _ B _ (HBK.out.go HB1d.out) (by omega) (by omega) (by omega)).mono ?_; rintro e w2 ⟨v2, rfl, ho2, hb2⟩; obtain ⟨u1, u2, u3, rfl, i1, i2, i3⟩ := ho2; obtain ⟨b1, d1, rfl⟩ := i1.form; obtain ⟨b2, d2, rfl⟩ := i2.form; obtain ⟨b3, d3, rfl⟩ := i3.form; have HI1 := Lib.hid i1; have HI2 := Lib.hid i2; have HI3 := Lib.hid i3; have H12 := Lib.hid hb2; clear i1 i2 i3; clear c1; have HB2 := Lib.hid (bel HB1d.out hb2); clear hb2; obtain ⟨w3, hw3, HB23, hsz3, hblk3⟩ := box1 w2 (.cells #[.slice none 0 0, .slice none 0 0, .slice none 0 0] 26); have x0 := cell_blk hblk3 0 rfl; have x1 := cell_blk hblk3 1 rfl; have x2 := cell_blk hblk3 2 rfl; have f0 := free_blk hblk3 0; have f1 := free_blk hblk3 1; have f2 := free_blk hblk3 2; have HZ3 := Lib.hid hblk3; clear hblk3))
  obtain ⟨wA, hwA, hzA, hbA⟩ := put3 (n := w2.heap.size) HZ3.out (.slice b1 B.ns d1) (.slice b2 B.ng d2) (.slice b3 B.nw d3) (Nat.le_refl _)
  rw [hwA]
  have H2A : Hid (Below w2.heap.size w2 wA) := HB23.out.trans hbA
  have HI1A := Lib.hid (HI1.out.grow H2A.out)
  have HI2A := Lib.hid (HI2.out.grow H2A.out)
  have HI3A := Lib.hid (HI3.out.grow H2A.out)
  have HBA : Hid (Below ws.heap.size ws wA) := bel HB2.out H2A.out
  have h1s : ws.heap.size ≤ w1.heap.size := HB1d.out.size
  have h12s : w1.heap.size ≤ w2.heap.size := H12.out.size
  obtain ⟨o, ho⟩ : ∃ o, w2.heap.size = o := ⟨_, rfl⟩
  rw [ho] at hzA h12s ⊢
  have HZA := Lib.hid hzA
  obtain ⟨lo, hlo⟩ : ∃ lo, w1.heap.size = lo := ⟨_, rfl⟩
  rw [hlo] at HI1A HI2A HI3A h1s h12s
  obtain ⟨g1, rfl⟩ := HI1A.out.1.addr hs1
  obtain ⟨g2, rfl⟩ := HI2A.out.1.addr hg1
  have hlog := HI2A.out.1.lt hg1
  clear x0 x1 x2 f0 f1 f2 hwA hzA hbA hw3 HZ3 HB23 HI1 HI2 HI3 H12 H2A HB1d HB2 ho hlo hsz3
  have hT := turn_good (xg := kg) (xw := kw) (xf := kf) (xs := 0) HG.out hs1 hg1
  have hog : o ≠ g2 := fun e => by
    obtain ⟨_, cur, hc⟩ := HI2A.out.2.1 g2 _ rfl hg1
    have h := HZA.out
    rw [e, hc] at h
    injection h with h
    injection h with _ ht
    exact absurd ht (by decide)
  have hog' := Lib.hid hog
  have HF0 := HG
  go_upto_block 0 with fail
  go_cut [] (fun wx => Hid (PB lo wx (.slice (some ⟨g2, 0, none⟩) B.ng d2) B.ng (turnB B kg kw kf 0).P (turnB B kg kw kf 0).F) ∧ Hid (Kp g2 wA wx))
  case first =>
    as_aux_lemma =>
      have HPS : Hid (PB lo wA (.slice (some ⟨g2, 0, none⟩) B.ng d2) B.ng (mixF 0 (unr B.ng kg) (turnB B kg kw kf 0).P B.P) (mixF 0 (unr B.ng kg) (turnB B kg kw kf 0).F B.F)) := by rw [mix_zero, mix_zero]; exact HI2A.out.1
      have HKS : Hid (Kp g2 wA wA) := Kp.refl _ _
      have hg2s : ws.heap.size ≤ g2 := by omega
      go_wp2_with fail
      go_loopw [8] (fun i wr => ∃ k : Nat, k ≤ B.ng ∧ i = .int .i64 k ∧ Hid (PB lo wr (.slice (some ⟨g2, 0, none⟩) B.ng d2) B.ng (mixF k (unr B.ng kg) (turnB B kg kw kf 0).P B.P) (mixF k (unr B.ng kg) (turnB B kg kw kf 0).F B.F)) ∧ Hid (Kp g2 wA wr)) (fun i _ => B.ng - (intOf i).toNat)
      case atStart => exact ⟨0, Nat.zero_le _, rfl, HPS, HKS⟩
      case round =>
        obtain ⟨k, hk, rfl, HP, HK⟩ := hrel
        by_cases hkn : k < B.ng
        · have hki : (k : Int) < (B.ng : Int) := by omega
          have HBw : Hid (Below ws.heap.size ws wr) := HK.out.below HBA.out hg2s
          obtain ⟨bg, og, e, hbg, hrg⟩ := HBK.out.gardens.cells (by omega)
          cases e
          have hbgs : bg < ws.heap.size := by have := HNS.out; omega
          have c1 := (HBw.out.cell (p := ⟨bg, og + k * 2, none⟩) hbgs).trans (hrg k hkn).1
          have c2 := (HBw.out.cell (p := ⟨bg, og + k * 2 + 1, none⟩) hbgs).trans (hrg k hkn).2
          obtain ⟨pk, hpk⟩ : ∃ z, B.P k = z := ⟨_, rfl⟩
          obtain ⟨fk, hfk, hfk4⟩ : ∃ z : Nat, B.F k = z ∧ z < 4 := ⟨(B.F k).toNat, by have := HG.out.F k hkn; omega, by have := HG.out.F k hkn; omega⟩
          rw [hpk] at c1
          rw [hfk] at c2
          have HPK := Lib.hid hpk
          have HFK := Lib.hid hfk
          have r1 := (HBw.out.cell (p := ⟨w.heap.size, 1, none⟩) hsz).trans q1
          clear hpk hfk hrg
          obtain ⟨wb, hwb, HBb, hszb, hblkb⟩ := box1 wr (.cells #[.int .i64 0, .int .i64 0] 49)
          have z0 := cell_blk hblkb 0 rfl
          have z1 := cell_blk hblkb 1 rfl
          have zf0 := free_blk hblkb 0
          have zf1 := free_blk hblkb 1
          go_upto_region 9 with fail
          obtain ⟨wq, hwq, hcq, hbq⟩ := put2 hblkb (.int .i64 pk) (.int .i64 fk)
          rw [hwq]
          have HBq : Hid (Below wr.heap.size wr wq) := HBb.out.trans hbq
          have hgr := (HP.out.lt hg1).1
          have HKq := Lib.hid (HK.out.go hgr HBq.out)
          have HPq := Lib.hid (HP.out.grow HBq.out)
          have HBW : Hid (Below ws.heap.size ws wq) := HKq.out.below HBA.out hg2s
          obtain ⟨lb, hlb⟩ : ∃ lb, wr.heap.size = lb := ⟨_, rfl⟩
          rw [hlb] at hcq ⊢
          have y0 := cell_blk hcq 0 rfl
          have y1 := cell_blk hcq 1 rfl
          have o1 := cell_blk (HKq.out.heap HZA.out hog'.out) 1 rfl
          have t0 := (HBW.out.cell (p := ⟨w.heap.size + 1, 0, none⟩) hsz1).trans p0
          have t2 := (HBW.out.cell (p := ⟨w.heap.size + 1, 2, none⟩) hsz1).trans p2
          have hlg : lb ≠ g2 := by omega
          have htg : w.heap.size + 1 ≠ g2 := by omega
          obtain ⟨r, hr⟩ : ∃ r, rot B.ng kg k = r := ⟨_, rfl⟩
          have hrn : r < B.ng := by rw [← hr]; exact rot_lt hg1 _ _
          obtain ⟨rf, hrf⟩ : ∃ r, rot 4 kf fk = r := ⟨_, rfl⟩
          have hrem : ((k : Int) + (kg : Int)).tmod (B.ng : Int) = (r : Int) := by rw [← hr, ← Int.natCast_add]; rfl
          have hrem4 : ((fk : Int) + (kf : Int)).tmod 4 = (rf : Int) := by rw [← hrf, ← Int.natCast_add]; rfl
          have hwa : IntKind.i64.wrap ((k : Int) + (kg : Int)) = (k : Int) + (kg : Int) := IntWalk.i64_in _ (by omega)
          have hwf : IntKind.i64.wrap ((fk : Int) + (kf : Int)) = (fk : Int) + (kf : Int) := IntWalk.i64_in _ (by omega)
          have hri : (r : Int) < (B.ng : Int) := by omega
          obtain ⟨e0, e1⟩ := HPq.out.two hrn
          have ef0 := HPq.out.fr hg1 (r * 2)
          have ef1 := HPq.out.fr hg1 (r * 2 + 1)
          have HR := Lib.hid hr
          have HRF := Lib.hid hrf
          clear hwq hwb hblkb hbq hcq hlb hr hrf c1 c2 r1 z0 z1 zf0 zf1
          refine wp_region_held_drew (S := fun w' => w'.cell? ⟨o, 1, none⟩ = some (.slice (some ⟨g2, 0, none⟩) B.ng d2) ∧ w'.cell? ⟨w.heap.size + 1, 0, none⟩ = some (.int .i64 kg) ∧ w'.cell? ⟨w.heap.size + 1, 2, none⟩ = some (.int .i64 kf) ∧ w'.cell? ⟨lb, 0, none⟩ = some (.int .i64 pk) ∧ w'.cell? ⟨lb, 1, none⟩ = some (.int .i64 fk)) (by kernel_rfl) ⟨o1, t0, t2, y0, y1⟩ (fun hHeld => ?_)
          (refine wpAnyH_take (i := 0) (v := ?_) rfl (by kernel_rfl) (by kernel_rfl) (by kernel_rfl) (fun _ _ _ h => h) (Or.inl ⟨by rfl, ?_⟩) (by assumption) ?_; rotate_left; (focus (intro w hSw; (try dsimp only at hSw); go_simp; (try with_reducible rfl))); (try simp only [List.getElem_toArray, List.getElem_cons_zero, List.getElem_cons_succ, Act.put, List.setIfInBounds_toArray, List.set_cons_zero, List.set_cons_succ])); (refine wpAnyH_take (i := 1) (v := ?_) rfl (by kernel_rfl) (by kernel_rfl) (by kernel_rfl) (fun _ _ _ h => h) (Or.inl ⟨by rfl, ?_⟩) (by assumption) ?_; rotate_left; (focus (intro w hSw; (try dsimp only at hSw); go_simp; (try with_reducible rfl))); (try simp only [List.getElem_toArray, List.getElem_cons_zero, List.getElem_cons_succ, Act.put, List.setIfInBounds_toArray, List.set_cons_zero, List.set_cons_succ])); (refine wpAnyH_take (i := 2) (v := ?_) rfl (by kernel_rfl) (by kernel_rfl) (by kernel_rfl) (fun _ _ _ h => h) (Or.inl ⟨by rfl, ?_⟩) (by assumption) ?_; rotate_left; (focus (intro w hSw; (try dsimp only at hSw); go_simp; (try with_reducible rfl))); (try simp only [List.getElem_toArray, List.getElem_cons_zero, List.getElem_cons_succ, Act.put, List.setIfInBounds_toArray, List.set_cons_zero, List.set_cons_succ])); (refine wpAnyH_take (i := 3) (v := ?_) rfl (by kernel_rfl) (by kernel_rfl) (by kernel_rfl) (fun _ _ _ h => h) (Or.inl ⟨by rfl, ?_⟩) (by assumption) ?_; rotate_left; (focus (intro w hSw; (try dsimp only at hSw); go_simp; (try with_reducible rfl))); (try simp only [List.getElem_toArray, List.getElem_cons_zero, List.getElem_cons_succ, Act.put, List.setIfInBounds_toArray, List.set_cons_zero, List.set_cons_succ])); (refine wpAnyH_take (i := 4) (v := ?_) rfl (by kernel_rfl) (by kernel_rfl) (by kernel_rfl) (fun _ _ _ h => h) (Or.inl ⟨by rfl, ?_⟩) (by assumption) ?_; rotate_left; (focus (intro w hSw; (try dsimp only at hSw); go_simp; (try with_reducible rfl))); (try simp only [List.getElem_toArray, List.getElem_cons_zero, List.getElem_cons_succ, Act.put, List.setIfInBounds_toArray, List.set_cons_zero, List.set_cons_succ])); (refine wpAnyH_take (i := 5) (v := ?_) rfl (by kernel_rfl) (by kernel_rfl) (by kernel_rfl) (fun _ _ _ h => h) (Or.inl ⟨by rfl, ?_⟩) (by assumption) ?_; rotate_left; (focus (intro w hSw; (try dsimp only at hSw); go_simp; (try with_reducible rfl))); (try simp only [List.getElem_toArray, List.getElem_cons_zero, List.getElem_cons_succ, Act.put, List.setIfInBounds_toArray, List.set_cons_zero, List.set_cons_succ])); (refine wpAnyH_take (i := 6) (v := ?_) rfl (by kernel_rfl) (by kernel_rfl) (by kernel_rfl) (fun _ _ _ h => h) (Or.inl ⟨by rfl, ?_⟩) (by assumption) ?_; rotate_left; (focus (intro w hSw; (try dsimp only at hSw); go_simp; (try with_reducible rfl))); (try simp only [List.getElem_toArray, List.getElem_cons_zero, List.getElem_cons_succ, Act.put, List.setIfInBounds_toArray, List.set_cons_zero, List.set_cons_succ])); (refine wpAnyH_take (i := 7) (v := ?_) rfl (by kernel_rfl) (by kernel_rfl) (by kernel_rfl) (fun _ _ _ h => h) (Or.inl ⟨by rfl, ?_⟩) (by assumption) ?_; rotate_left; (focus (intro w hSw; (try dsimp only at hSw); go_simp; (try with_reducible rfl))); (try simp only [List.getElem_toArray, List.getElem_cons_zero, List.getElem_cons_succ, Act.put, List.setIfInBounds_toArray, List.set_cons_zero, List.set_cons_succ])); (refine wpAnyH_take (i := 8) (v := ?_) rfl (by kernel_rfl) (by kernel_rfl) (by kernel_rfl) (fun _ _ _ h => h) (Or.inl ⟨by rfl, ?_⟩) (by assumption) ?_; rotate_left; (focus (intro w hSw; (try dsimp only at hSw); go_simp; (try with_reducible rfl))); (try simp only [List.getElem_toArray, List.getElem_cons_zero, List.getElem_cons_succ, Act.put, List.setIfInBounds_toArray, List.set_cons_zero, List.set_cons_succ])); (refine wpAnyH_take (i := 9) (v := ?_) rfl (by kernel_rfl) (by kernel_rfl) (by kernel_rfl) (fun _ _ _ h => h) (Or.inl ⟨by rfl, ?_⟩) (by assumption) ?_; rotate_left; (focus (intro w hSw; (try dsimp only at hSw); go_simp; (try with_reducible rfl))); (try simp only [List.getElem_toArray, List.getElem_cons_zero, List.getElem_cons_succ, Act.put, List.setIfInBounds_toArray, List.set_cons_zero, List.set_cons_succ])); (refine wpAnyH_take (i := 10) (v := ?_) rfl (by kernel_rfl) (by kernel_rfl) (by kernel_rfl) (fun _ _ _ h => h) (Or.inl ⟨by rfl, ?_⟩) (by assumption) ?_; rotate_left; (focus (intro w hSw; (try dsimp only at hSw); go_simp; (try with_reducible rfl))); (try simp only [List.getElem_toArray, List.getElem_cons_zero, List.getElem_cons_succ, Act.put, List.setIfInBounds_toArray, List.set_cons_zero, List.set_cons_succ])); (refine wpAnyH_take (i := 11) (v := ?_) rfl (by kernel_rfl) (by kernel_rfl) (by kernel_rfl) (fun _ _ _ h => h) (Or.inl ⟨by rfl, ?_⟩) (by assumption) ?_; rotate_left; (focus (intro w hSw; (try dsimp only at hSw); go_simp; (try with_reducible rfl))); (try simp only [List.getElem_toArray, List.getElem_cons_zero, List.getElem_cons_succ, Act.put, List.setIfInBounds_toArray, List.set_cons_zero, List.set_cons_succ])); (refine wpAnyH_take (i := 12) (v := ?_) rfl (by kernel_rfl) (by kernel_rfl) (by kernel_rfl) (fun _ _ _ h => h) (Or.inl ⟨by rfl, ?_⟩) (by assumption) ?_; rotate_left; (focus (intro w hSw; (try dsimp only at hSw); go_simp; (try with_reducible rfl))); (try simp only [List.getElem_toArray, List.getElem_cons_zero, List.getElem_cons_succ, Act.put, List.setIfInBounds_toArray, List.set_cons_zero, List.set_cons_succ])); (refine wpAnyH_take (i := 13) (v := ?_) rfl (by kernel_rfl) (by kernel_rfl) (by kernel_rfl) (fun _ _ _ h => h) (Or.inl ⟨by rfl, ?_⟩) (by assumption) ?_; rotate_left; (focus (intro w hSw; (try dsimp only at hSw); go_simp; (try with_reducible rfl))); (try simp only [List.getElem_toArray, List.getElem_cons_zero, List.getElem_cons_succ, Act.put, List.setIfInBounds_toArray, List.set_cons_zero, List.set_cons_succ])); (refine wpAnyH_take (i := 14) (v := ?_) rfl (by kernel_rfl) (by kernel_rfl) (by kernel_rfl) (fun _ _ _ h => h) (Or.inl ⟨by rfl, ?_⟩) (by assumption) ?_; rotate_left; (focus (intro w hSw; (try dsimp only at hSw); go_simp; (try with_reducible rfl))); (try simp only [List.getElem_toArray, List.getElem_cons_zero, List.getElem_cons_succ, Act.put, List.setIfInBounds_toArray, List.set_cons_zero, List.set_cons_succ])); (refine wpAnyH_take (i := 15) (v := ?_) rfl (by kernel_rfl) (by kernel_rfl) (by kernel_rfl) (fun _ _ _ h => h) (Or.inl ⟨by rfl, ?_⟩) (by assumption) ?_; rotate_left; (focus (intro w hSw; (try dsimp only at hSw); go_simp; (try with_reducible rfl))); (try simp only [List.getElem_toArray, List.getElem_cons_zero, List.getElem_cons_succ, Act.put, List.setIfInBounds_toArray, List.set_cons_zero, List.set_cons_succ])); (refine wpAnyH_take (i := 16) (v := ?_) rfl (by kernel_rfl) (by kernel_rfl) (by kernel_rfl) (fun _ _ _ h => h) (Or.inl ⟨by rfl, ?_⟩) (by assumption) ?_; rotate_left; (focus (intro w hSw; (try dsimp only at hSw); go_simp; (try with_reducible rfl))); (try simp only [List.getElem_toArray, List.getElem_cons_zero, List.getElem_cons_succ, Act.put, List.setIfInBounds_toArray, List.set_cons_zero, List.set_cons_succ])); (refine wpAnyH_take (i := 17) (v := ?_) rfl (by kernel_rfl) (by kernel_rfl) (by kernel_rfl) (fun _ _ _ h => h) (Or.inl ⟨by rfl, ?_⟩) (by assumption) ?_; rotate_left; (focus (intro w hSw; (try dsimp only at hSw); go_simp; (try with_reducible rfl))); (try simp only [List.getElem_toArray, List.getElem_cons_zero, List.getElem_cons_succ, Act.put, List.setIfInBounds_toArray, List.set_cons_zero, List.set_cons_succ]))
          refine wpAnyH_ready (rs := [18]) (by kernel_rfl) (by simp) ?_; refine AllReadyH.cons rfl (fun K hK => ?_) AllReadyH.nil; go_simp
          have HPn : Hid (PB lo ((wq.setCell ⟨g2, r * 2, none⟩ (.int .i64 pk)).setCell ⟨g2, r * 2 + 1, none⟩ (.int .i64 rf)).drew (.slice (some ⟨g2, 0, none⟩) B.ng d2) B.ng (mixF (k + 1) (unr B.ng kg) (turnB B kg kw kf 0).P B.P) (mixF (k + 1) (unr B.ng kg) (turnB B kg kw kf 0).F B.F)) := by
            refine (PB.congr (HPq.out.set2 hrn pk rf) fun j hj => ?_).keep fun _ _ _ => rfl
            rw [mix_step hkn hj, mix_step hkn hj, HR.out]
            by_cases e : j = r
            · subst e
              rw [if_pos rfl, if_pos rfl, if_pos rfl, if_pos rfl]
              constructor
              · show B.P (unr B.ng kg j) = pk
                rw [← HR.out, unr_rot kg hkn, HPK.out]
              · show ((rot 4 kf (B.F (unr B.ng kg j)).toNat : Nat) : Int) = rf
                rw [← HR.out, unr_rot kg hkn, HFK.out, Int.toNat_natCast, HRF.out]
            · rw [if_neg e, if_neg e, if_neg e, if_neg e]; exact ⟨rfl, rfl⟩
          have HKn : Hid (Kp g2 wA ((wq.setCell ⟨g2, r * 2, none⟩ (.int .i64 pk)).setCell ⟨g2, r * 2 + 1, none⟩ (.int .i64 rf)).drew) := ((HKq.out.set _ _).set _ _).drew
          have y0' : ((wq.setCell ⟨g2, r * 2, none⟩ (.int .i64 pk)).setCell ⟨g2, r * 2 + 1, none⟩ (.int .i64 rf)).drew.cell? ⟨lb, 0, none⟩ = some (.int .i64 pk) := (World.cell?_setCell_far _ _ _ _ (by show g2 ≠ lb; exact hlg.symm)).trans ((World.cell?_setCell_far _ _ _ _ (by show g2 ≠ lb; exact hlg.symm)).trans y0)
          have y1' : ((wq.setCell ⟨g2, r * 2, none⟩ (.int .i64 pk)).setCell ⟨g2, r * 2 + 1, none⟩ (.int .i64 rf)).drew.cell? ⟨lb, 1, none⟩ = some (.int .i64 fk) := (World.cell?_setCell_far _ _ _ _ (by show g2 ≠ lb; exact hlg.symm)).trans ((World.cell?_setCell_far _ _ _ _ (by show g2 ≠ lb; exact hlg.symm)).trans y1)
          obtain ⟨wt, hwt⟩ : ∃ wt, ((wq.setCell ⟨g2, r * 2, none⟩ (.int .i64 pk)).setCell ⟨g2, r * 2 + 1, none⟩ (.int .i64 rf)).drew = wt := ⟨_, rfl⟩
          rw [hwt] at HPn HKn y0' y1' ⊢
          have HBn : Hid (Below ws.heap.size ws wt) := HKn.out.below HBA.out hg2s
          refine hK.out _ _ ⟨cell_blk (HKn.out.heap HZA.out hog'.out) 1 rfl, (HBn.out.cell (p := ⟨w.heap.size + 1, 0, none⟩) hsz1).trans p0, (HBn.out.cell (p := ⟨w.heap.size + 1, 2, none⟩) hsz1).trans p2, y0', y1'⟩ (fun hHeld => ?_)
          clear hK K hwt y0' y1' o1 t0 t2 y0 y1 e0 e1 ef0 ef1
          (try simp only [List.getElem_toArray, List.getElem_cons_zero, List.getElem_cons_succ, Act.put, List.setIfInBounds_toArray, List.set_cons_zero, List.set_cons_succ])
          refine wpAnyH_done (by kernel_rfl) ?_ _; clear hHeld
          go_wp2
          go_roundw
          case rel => exact ⟨k + 1, by omega, by go_num, HPn, HKn⟩
          case measure => simp [intOf]; omega
        · have hkk : k = B.ng := by omega
          subst hkk
          go_wp2_with fail
          go_meet
          exact ⟨HP.out.congr fun j hj => ⟨mix_all (unr_lt hg1 _ _), mix_all (unr_lt hg1 _ _)⟩, HK⟩
  case rest =>
    obtain ⟨HP1, HK1⟩ := hcut
    obtain ⟨wB, hwB⟩ : ∃ wB, wB = wc := ⟨_, rfl⟩
    subst hwB
    have hg2s : ws.heap.size ≤ g2 := by omega
    obtain ⟨_, curo, hco⟩ : True ∧ ∃ cur, wA.heap[o]? = some (.cells cur 26) := ⟨trivial, _, HZA.out⟩
    obtain ⟨_, cur1, hc1⟩ := HI1A.out.2 g1 _ rfl hs1
    obtain ⟨_, cur2, hc2⟩ := HI2A.out.2.1 g2 _ rfl hg1
    have hn12 := types_ne hc1 hc2 (by decide)
    have hn1o := types_ne hc1 hco (by decide)
    have hn2o := types_ne hc2 hco (by decide)
    have HIB1 := Lib.hid (HI1A.out.1.block (HK1.out.2 g1 hn12 (heap_lt hc1)))
    have HZB := Lib.hid (HK1.out.heap HZA.out hn2o.symm)
    have HBB : Hid (Below ws.heap.size ws wB) := HK1.out.below HBA.out hg2s
    have h3keep : ∀ (k : Nat) (cur : Array Value), wA.heap[k]? = some (.cells cur 43) → wB.heap[k]? = wA.heap[k]? := fun k cur h => HK1.out.2 k (types_ne h hc2 (by decide)) (heap_lt h)
    have HW0 := Lib.hid (HI3A.out.turn h3keep)
    have HT3 : Hid (0 < B.nw → ∃ g3, b3 = some ⟨g3, 0, none⟩ ∧ ws.heap.size ≤ g3 ∧ g3 ≠ g1 ∧ g3 ≠ g2 ∧ g3 ≠ o) := fun h0 => by
      obtain ⟨g3, rfl⟩ := HI3A.out.1.addr h0
      obtain ⟨hl, cur3, hc3⟩ := HI3A.out.2.1 g3 _ rfl h0
      exact ⟨g3, rfl, by omega, types_ne hc3 hc1 (by decide), types_ne hc3 hc2 (by decide), types_ne hc3 hco (by decide)⟩
    have hos : ws.heap.size ≤ o := by omega
    have hg1s : ws.heap.size ≤ g1 := by have := (HI1A.out.1.at hs1).2.1; omega
    clear hco hc1 hc2 h3keep HZA HI1A HI2A HI3A HBA HK1 hog hog' hlog
    go_upto_block 2 with fail
    go_cut [] (fun wx => Hid (PB lo wx (.slice b3 B.nw d3) B.nw (turnB B kg kw kf 0).G (turnB B kg kw kf 0).S) ∧ Hid (PB lo wx (.slice (some ⟨g2, 0, none⟩) B.ng d2) B.ng (turnB B kg kw kf 0).P (turnB B kg kw kf 0).F) ∧ Hid (IB lo wx (.slice (some ⟨g1, 0, none⟩) B.ns d1) B.ns B.C) ∧ Hid (wx.heap[o]? = some (.cells #[.slice (some ⟨g1, 0, none⟩) B.ns d1, .slice (some ⟨g2, 0, none⟩) B.ng d2, .slice b3 B.nw d3] 26)) ∧ Hid (Below ws.heap.size ws wx))
    case first =>
      as_aux_lemma =>
        by_cases hw0 : B.nw = 0
        · have hwi : (B.nw : Int) = 0 := by omega
          have r2 := (HBB.out.cell (p := ⟨w.heap.size, 2, none⟩) hsz).trans q2
          have HE0 : Hid (PB lo wB (.slice b3 B.nw d3) B.nw (turnB B kg kw kf 0).G (turnB B kg kw kf 0).S) := HW0.out.congr fun i hi => by omega
          go_wp2_with fail
          go_loopw [10] (fun i wr => i = .int .i64 0 ∧ wr = wB) (fun _ _ => 0)
          case atStart => exact ⟨rfl, rfl⟩
          case round =>
            obtain ⟨rfl, rfl⟩ := hrel
            go_wp2_with fail
            go_meet
            exact ⟨HE0, HP1, HIB1, HZB, HBB⟩
        · have hw1 : 0 < B.nw := by omega
          have hn0w : ¬ B.nw = 0 := hw0
          obtain ⟨g3, rfl, hg3s, hn31, hn32, hn3o⟩ := HT3.out hw1
          have HPS : Hid (PB lo wB (.slice (some ⟨g3, 0, none⟩) B.nw d3) B.nw (mixF 0 (unr B.nw kw) (turnB B kg kw kf 0).G B.G) (mixF 0 (unr B.nw kw) (turnB B kg kw kf 0).S B.S)) := by rw [mix_zero, mix_zero]; exact HW0.out
          have HKS : Hid (Kp g3 wB wB) := Kp.refl _ _
          have HN3 := Lib.hid (And.intro hn31 (And.intro hn32 hn3o))
          clear hw0 HT3 hn31 hn32 hn3o
          go_wp2_with fail
          go_loopw [10] (fun i wr => ∃ k : Nat, k ≤ B.nw ∧ i = .int .i64 k ∧ Hid (PB lo wr (.slice (some ⟨g3, 0, none⟩) B.nw d3) B.nw (mixF k (unr B.nw kw) (turnB B kg kw kf 0).G B.G) (mixF k (unr B.nw kw) (turnB B kg kw kf 0).S B.S)) ∧ Hid (Kp g3 wB wr)) (fun i _ => B.nw - (intOf i).toNat)
          case atStart => exact ⟨0, Nat.zero_le _, rfl, HPS, HKS⟩
          case round =>
            obtain ⟨k, hk, rfl, HP, HK⟩ := hrel
            have HBw : Hid (Below ws.heap.size ws wr) := HK.out.below HBB.out hg3s
            have r2 := (HBw.out.cell (p := ⟨w.heap.size, 2, none⟩) hsz).trans q2
            by_cases hkn : k < B.nw
            · have hki : (k : Int) < (B.nw : Int) := by omega
              obtain ⟨bg, og, e, hbg, hrg⟩ := HBK.out.wants.cells (by omega)
              cases e
              have hbgs : bg < ws.heap.size := by have := HNS.out; omega
              have c1 := (HBw.out.cell (p := ⟨bg, og + k * 2, none⟩) hbgs).trans (hrg k hkn).1
              have c2 := (HBw.out.cell (p := ⟨bg, og + k * 2 + 1, none⟩) hbgs).trans (hrg k hkn).2
              obtain ⟨gk, hgk, hgkn⟩ : ∃ z : Nat, B.G k = z ∧ z < B.ng := ⟨(B.G k).toNat, by have := HG.out.G k hkn; omega, by have := HG.out.G k hkn; omega⟩
              obtain ⟨sk, hsk, hskn⟩ : ∃ z : Nat, B.S k = z ∧ z < B.ns := ⟨(B.S k).toNat, by have := HG.out.S k hkn; omega, by have := HG.out.S k hkn; omega⟩
              rw [hgk] at c1
              rw [hsk] at c2
              have HGK := Lib.hid hgk
              have HSK := Lib.hid hsk
              clear hgk hsk hrg
              obtain ⟨wb, hwb, HBb, hszb, hblkb⟩ := box1 wr (.cells #[.int .i64 0, .int .i64 0] 43)
              have z0 := cell_blk hblkb 0 rfl
              have z1 := cell_blk hblkb 1 rfl
              have zf0 := free_blk hblkb 0
              have zf1 := free_blk hblkb 1
              go_upto_region 14 with fail
              obtain ⟨wq, hwq, hcq, hbq⟩ := put2 hblkb (.int .i64 gk) (.int .i64 sk)
              rw [hwq]
              have HBq : Hid (Below wr.heap.size wr wq) := HBb.out.trans hbq
              have hgr := (HP.out.lt hw1).1
              have HKq := Lib.hid (HK.out.go hgr HBq.out)
              have HPq := Lib.hid (HP.out.grow HBq.out)
              have HBW : Hid (Below ws.heap.size ws wq) := HKq.out.below HBB.out hg3s
              obtain ⟨lb, hlb⟩ : ∃ lb, wr.heap.size = lb := ⟨_, rfl⟩
              rw [hlb] at hcq ⊢
              have y0 := cell_blk hcq 0 rfl
              have y1 := cell_blk hcq 1 rfl
              have o2 := cell_blk (HKq.out.heap HZB.out HN3.out.2.2.symm) 2 rfl
              have t0 := (HBW.out.cell (p := ⟨w.heap.size + 1, 0, none⟩) hsz1).trans p0
              have t1 := (HBW.out.cell (p := ⟨w.heap.size + 1, 1, none⟩) hsz1).trans p1
              have s2 := (HBW.out.cell (p := ⟨w.heap.size, 2, none⟩) hsz).trans q2
              have hlg : lb ≠ g3 := by omega
              obtain ⟨r, hr⟩ : ∃ r, rot B.nw kw k = r := ⟨_, rfl⟩
              have hrn : r < B.nw := by rw [← hr]; exact rot_lt hw1 _ _
              obtain ⟨rg, hrg⟩ : ∃ r, rot B.ng kg gk = r := ⟨_, rfl⟩
              have hrem : ((k : Int) + (kw : Int)).tmod (B.nw : Int) = (r : Int) := by rw [← hr, ← Int.natCast_add]; rfl
              have hremg : ((gk : Int) + (kg : Int)).tmod (B.ng : Int) = (rg : Int) := by rw [← hrg, ← Int.natCast_add]; rfl
              have hwa : IntKind.i64.wrap ((k : Int) + (kw : Int)) = (k : Int) + (kw : Int) := IntWalk.i64_in _ (by omega)
              have hwf : IntKind.i64.wrap ((gk : Int) + (kg : Int)) = (gk : Int) + (kg : Int) := IntWalk.i64_in _ (by omega)
              have hri : (r : Int) < (B.nw : Int) := by omega
              obtain ⟨e0, e1⟩ := HPq.out.two hrn
              have ef0 := HPq.out.fr hw1 (r * 2)
              have ef1 := HPq.out.fr hw1 (r * 2 + 1)
              have HR := Lib.hid hr
              have HRG := Lib.hid hrg
              clear hwq hwb hblkb hbq hcq hlb hr hrg c1 c2 r2 z0 z1 zf0 zf1
              refine wp_region_held_drew (S := fun w' => w'.cell? ⟨o, 2, none⟩ = some (.slice (some ⟨g3, 0, none⟩) B.nw d3) ∧ w'.cell? ⟨w.heap.size + 1, 0, none⟩ = some (.int .i64 kg) ∧ w'.cell? ⟨w.heap.size + 1, 1, none⟩ = some (.int .i64 kw) ∧ w'.cell? ⟨w.heap.size, 2, none⟩ = some (.slice (some ⟨bg, og, none⟩) B.nw z3) ∧ w'.cell? ⟨lb, 0, none⟩ = some (.int .i64 gk) ∧ w'.cell? ⟨lb, 1, none⟩ = some (.int .i64 sk)) (by kernel_rfl) ⟨o2, t0, t1, s2, y0, y1⟩ (fun hHeld => ?_)
              (refine wpAnyH_take (i := 0) (v := ?_) rfl (by kernel_rfl) (by kernel_rfl) (by kernel_rfl) (fun _ _ _ h => h) (Or.inl ⟨by rfl, ?_⟩) (by assumption) ?_; rotate_left; (focus (intro w hSw; (try dsimp only at hSw); go_simp; (try with_reducible rfl))); (try simp only [List.getElem_toArray, List.getElem_cons_zero, List.getElem_cons_succ, Act.put, List.setIfInBounds_toArray, List.set_cons_zero, List.set_cons_succ])); (refine wpAnyH_take (i := 1) (v := ?_) rfl (by kernel_rfl) (by kernel_rfl) (by kernel_rfl) (fun _ _ _ h => h) (Or.inl ⟨by rfl, ?_⟩) (by assumption) ?_; rotate_left; (focus (intro w hSw; (try dsimp only at hSw); go_simp; (try with_reducible rfl))); (try simp only [List.getElem_toArray, List.getElem_cons_zero, List.getElem_cons_succ, Act.put, List.setIfInBounds_toArray, List.set_cons_zero, List.set_cons_succ])); (refine wpAnyH_take (i := 2) (v := ?_) rfl (by kernel_rfl) (by kernel_rfl) (by kernel_rfl) (fun _ _ _ h => h) (Or.inl ⟨by rfl, ?_⟩) (by assumption) ?_; rotate_left; (focus (intro w hSw; (try dsimp only at hSw); go_simp; (try with_reducible rfl))); (try simp only [List.getElem_toArray, List.getElem_cons_zero, List.getElem_cons_succ, Act.put, List.setIfInBounds_toArray, List.set_cons_zero, List.set_cons_succ])); (refine wpAnyH_take (i := 3) (v := ?_) rfl (by kernel_rfl) (by kernel_rfl) (by kernel_rfl) (fun _ _ _ h => h) (Or.inl ⟨by rfl, ?_⟩) (by assumption) ?_; rotate_left; (focus (intro w hSw; (try dsimp only at hSw); go_simp; (try with_reducible rfl))); (try simp only [List.getElem_toArray, List.getElem_cons_zero, List.getElem_cons_succ, Act.put, List.setIfInBounds_toArray, List.set_cons_zero, List.set_cons_succ])); (refine wpAnyH_take (i := 4) (v := ?_) rfl (by kernel_rfl) (by kernel_rfl) (by kernel_rfl) (fun _ _ _ h => h) (Or.inl ⟨by rfl, ?_⟩) (by assumption) ?_; rotate_left; (focus (intro w hSw; (try dsimp only at hSw); go_simp; (try with_reducible rfl))); (try simp only [List.getElem_toArray, List.getElem_cons_zero, List.getElem_cons_succ, Act.put, List.setIfInBounds_toArray, List.set_cons_zero, List.set_cons_succ])); (refine wpAnyH_take (i := 5) (v := ?_) rfl (by kernel_rfl) (by kernel_rfl) (by kernel_rfl) (fun _ _ _ h => h) (Or.inl ⟨by rfl, ?_⟩) (by assumption) ?_; rotate_left; (focus (intro w hSw; (try dsimp only at hSw); go_simp; (try with_reducible rfl))); (try simp only [List.getElem_toArray, List.getElem_cons_zero, List.getElem_cons_succ, Act.put, List.setIfInBounds_toArray, List.set_cons_zero, List.set_cons_succ])); (refine wpAnyH_take (i := 6) (v := ?_) rfl (by kernel_rfl) (by kernel_rfl) (by kernel_rfl) (fun _ _ _ h => h) (Or.inl ⟨by rfl, ?_⟩) (by assumption) ?_; rotate_left; (focus (intro w hSw; (try dsimp only at hSw); go_simp; (try with_reducible rfl))); (try simp only [List.getElem_toArray, List.getElem_cons_zero, List.getElem_cons_succ, Act.put, List.setIfInBounds_toArray, List.set_cons_zero, List.set_cons_succ])); (refine wpAnyH_take (i := 7) (v := ?_) rfl (by kernel_rfl) (by kernel_rfl) (by kernel_rfl) (fun _ _ _ h => h) (Or.inl ⟨by rfl, ?_⟩) (by assumption) ?_; rotate_left; (focus (intro w hSw; (try dsimp only at hSw); go_simp; (try with_reducible rfl))); (try simp only [List.getElem_toArray, List.getElem_cons_zero, List.getElem_cons_succ, Act.put, List.setIfInBounds_toArray, List.set_cons_zero, List.set_cons_succ])); (refine wpAnyH_take (i := 8) (v := ?_) rfl (by kernel_rfl) (by kernel_rfl) (by kernel_rfl) (fun _ _ _ h => h) (Or.inl ⟨by rfl, ?_⟩) (by assumption) ?_; rotate_left; (focus (intro w hSw; (try dsimp only at hSw); go_simp; (try with_reducible rfl))); (try simp only [List.getElem_toArray, List.getElem_cons_zero, List.getElem_cons_succ, Act.put, List.setIfInBounds_toArray, List.set_cons_zero, List.set_cons_succ])); (refine wpAnyH_take (i := 9) (v := ?_) rfl (by kernel_rfl) (by kernel_rfl) (by kernel_rfl) (fun _ _ _ h => h) (Or.inl ⟨by rfl, ?_⟩) (by assumption) ?_; rotate_left; (focus (intro w hSw; (try dsimp only at hSw); go_simp; (try with_reducible rfl))); (try simp only [List.getElem_toArray, List.getElem_cons_zero, List.getElem_cons_succ, Act.put, List.setIfInBounds_toArray, List.set_cons_zero, List.set_cons_succ])); (refine wpAnyH_take (i := 10) (v := ?_) rfl (by kernel_rfl) (by kernel_rfl) (by kernel_rfl) (fun _ _ _ h => h) (Or.inl ⟨by rfl, ?_⟩) (by assumption) ?_; rotate_left; (focus (intro w hSw; (try dsimp only at hSw); go_simp; (try with_reducible rfl))); (try simp only [List.getElem_toArray, List.getElem_cons_zero, List.getElem_cons_succ, Act.put, List.setIfInBounds_toArray, List.set_cons_zero, List.set_cons_succ])); (refine wpAnyH_take (i := 11) (v := ?_) rfl (by kernel_rfl) (by kernel_rfl) (by kernel_rfl) (fun _ _ _ h => h) (Or.inl ⟨by rfl, ?_⟩) (by assumption) ?_; rotate_left; (focus (intro w hSw; (try dsimp only at hSw); go_simp; (try with_reducible rfl))); (try simp only [List.getElem_toArray, List.getElem_cons_zero, List.getElem_cons_succ, Act.put, List.setIfInBounds_toArray, List.set_cons_zero, List.set_cons_succ])); (refine wpAnyH_take (i := 12) (v := ?_) rfl (by kernel_rfl) (by kernel_rfl) (by kernel_rfl) (fun _ _ _ h => h) (Or.inl ⟨by rfl, ?_⟩) (by assumption) ?_; rotate_left; (focus (intro w hSw; (try dsimp only at hSw); go_simp; (try with_reducible rfl))); (try simp only [List.getElem_toArray, List.getElem_cons_zero, List.getElem_cons_succ, Act.put, List.setIfInBounds_toArray, List.set_cons_zero, List.set_cons_succ])); (refine wpAnyH_take (i := 13) (v := ?_) rfl (by kernel_rfl) (by kernel_rfl) (by kernel_rfl) (fun _ _ _ h => h) (Or.inl ⟨by rfl, ?_⟩) (by assumption) ?_; rotate_left; (focus (intro w hSw; (try dsimp only at hSw); go_simp; (try with_reducible rfl))); (try simp only [List.getElem_toArray, List.getElem_cons_zero, List.getElem_cons_succ, Act.put, List.setIfInBounds_toArray, List.set_cons_zero, List.set_cons_succ])); (refine wpAnyH_take (i := 14) (v := ?_) rfl (by kernel_rfl) (by kernel_rfl) (by kernel_rfl) (fun _ _ _ h => h) (Or.inl ⟨by rfl, ?_⟩) (by assumption) ?_; rotate_left; (focus (intro w hSw; (try dsimp only at hSw); go_simp; (try with_reducible rfl))); (try simp only [List.getElem_toArray, List.getElem_cons_zero, List.getElem_cons_succ, Act.put, List.setIfInBounds_toArray, List.set_cons_zero, List.set_cons_succ])); (refine wpAnyH_take (i := 15) (v := ?_) rfl (by kernel_rfl) (by kernel_rfl) (by kernel_rfl) (fun _ _ _ h => h) (Or.inl ⟨by rfl, ?_⟩) (by assumption) ?_; rotate_left; (focus (intro w hSw; (try dsimp only at hSw); go_simp; (try with_reducible rfl))); (try simp only [List.getElem_toArray, List.getElem_cons_zero, List.getElem_cons_succ, Act.put, List.setIfInBounds_toArray, List.set_cons_zero, List.set_cons_succ])); (refine wpAnyH_take (i := 16) (v := ?_) rfl (by kernel_rfl) (by kernel_rfl) (by kernel_rfl) (fun _ _ _ h => h) (Or.inl ⟨by rfl, ?_⟩) (by assumption) ?_; rotate_left; (focus (intro w hSw; (try dsimp only at hSw); go_simp; (try with_reducible rfl))); (try simp only [List.getElem_toArray, List.getElem_cons_zero, List.getElem_cons_succ, Act.put, List.setIfInBounds_toArray, List.set_cons_zero, List.set_cons_succ])); (refine wpAnyH_take (i := 17) (v := ?_) rfl (by kernel_rfl) (by kernel_rfl) (by kernel_rfl) (fun _ _ _ h => h) (Or.inl ⟨by rfl, ?_⟩) (by assumption) ?_; rotate_left; (focus (intro w hSw; (try dsimp only at hSw); go_simp; (try with_reducible rfl))); (try simp only [List.getElem_toArray, List.getElem_cons_zero, List.getElem_cons_succ, Act.put, List.setIfInBounds_toArray, List.set_cons_zero, List.set_cons_succ])); (refine wpAnyH_take (i := 18) (v := ?_) rfl (by kernel_rfl) (by kernel_rfl) (by kernel_rfl) (fun _ _ _ h => h) (Or.inl ⟨by rfl, ?_⟩) (by assumption) ?_; rotate_left; (focus (intro w hSw; (try dsimp only at hSw); go_simp; (try with_reducible rfl))); (try simp only [List.getElem_toArray, List.getElem_cons_zero, List.getElem_cons_succ, Act.put, List.setIfInBounds_toArray, List.set_cons_zero, List.set_cons_succ])); (refine wpAnyH_take (i := 19) (v := ?_) rfl (by kernel_rfl) (by kernel_rfl) (by kernel_rfl) (fun _ _ _ h => h) (Or.inl ⟨by rfl, ?_⟩) (by assumption) ?_; rotate_left; (focus (intro w hSw; (try dsimp only at hSw); go_simp; (try with_reducible rfl))); (try simp only [List.getElem_toArray, List.getElem_cons_zero, List.getElem_cons_succ, Act.put, List.setIfInBounds_toArray, List.set_cons_zero, List.set_cons_succ])); (refine wpAnyH_take (i := 20) (v := ?_) rfl (by kernel_rfl) (by kernel_rfl) (by kernel_rfl) (fun _ _ _ h => h) (Or.inl ⟨by rfl, ?_⟩) (by assumption) ?_; rotate_left; (focus (intro w hSw; (try dsimp only at hSw); go_simp; (try with_reducible rfl))); (try simp only [List.getElem_toArray, List.getElem_cons_zero, List.getElem_cons_succ, Act.put, List.setIfInBounds_toArray, List.set_cons_zero, List.set_cons_succ]))
              refine wpAnyH_ready (rs := [21]) (by kernel_rfl) (by simp) ?_; refine AllReadyH.cons rfl (fun K hK => ?_) AllReadyH.nil; go_simp
              have HPn : Hid (PB lo ((wq.setCell ⟨g3, r * 2, none⟩ (.int .i64 rg)).setCell ⟨g3, r * 2 + 1, none⟩ (.int .i64 sk)).drew (.slice (some ⟨g3, 0, none⟩) B.nw d3) B.nw (mixF (k + 1) (unr B.nw kw) (turnB B kg kw kf 0).G B.G) (mixF (k + 1) (unr B.nw kw) (turnB B kg kw kf 0).S B.S)) := by
                refine (PB.congr (HPq.out.set2 hrn rg sk) fun j hj => ?_).keep fun _ _ _ => rfl
                rw [mix_step hkn hj, mix_step hkn hj, HR.out]
                by_cases e : j = r
                · subst e
                  rw [if_pos rfl, if_pos rfl, if_pos rfl, if_pos rfl]
                  constructor
                  · show ((rot B.ng kg (B.G (unr B.nw kw j)).toNat : Nat) : Int) = rg
                    rw [← HR.out, unr_rot kw hkn, HGK.out, Int.toNat_natCast, HRG.out]
                  · show ((rot B.ns 0 (B.S (unr B.nw kw j)).toNat : Nat) : Int) = sk
                    rw [← HR.out, unr_rot kw hkn, HSK.out, Int.toNat_natCast, rot_zero hskn]
                · rw [if_neg e, if_neg e, if_neg e, if_neg e]; exact ⟨rfl, rfl⟩
              have HKn : Hid (Kp g3 wB ((wq.setCell ⟨g3, r * 2, none⟩ (.int .i64 rg)).setCell ⟨g3, r * 2 + 1, none⟩ (.int .i64 sk)).drew) := ((HKq.out.set _ _).set _ _).drew
              have y0' : ((wq.setCell ⟨g3, r * 2, none⟩ (.int .i64 rg)).setCell ⟨g3, r * 2 + 1, none⟩ (.int .i64 sk)).drew.cell? ⟨lb, 0, none⟩ = some (.int .i64 gk) := (World.cell?_setCell_far _ _ _ _ (by show g3 ≠ lb; exact hlg.symm)).trans ((World.cell?_setCell_far _ _ _ _ (by show g3 ≠ lb; exact hlg.symm)).trans y0)
              have y1' : ((wq.setCell ⟨g3, r * 2, none⟩ (.int .i64 rg)).setCell ⟨g3, r * 2 + 1, none⟩ (.int .i64 sk)).drew.cell? ⟨lb, 1, none⟩ = some (.int .i64 sk) := (World.cell?_setCell_far _ _ _ _ (by show g3 ≠ lb; exact hlg.symm)).trans ((World.cell?_setCell_far _ _ _ _ (by show g3 ≠ lb; exact hlg.symm)).trans y1)
              obtain ⟨wt, hwt⟩ : ∃ wt, ((wq.setCell ⟨g3, r * 2, none⟩ (.int .i64 rg)).setCell ⟨g3, r * 2 + 1, none⟩ (.int .i64 sk)).drew = wt := ⟨_, rfl⟩
              rw [hwt] at HPn HKn y0' y1' ⊢
              have HBn : Hid (Below ws.heap.size ws wt) := HKn.out.below HBB.out hg3s
              refine hK.out _ _ ⟨cell_blk (HKn.out.heap HZB.out HN3.out.2.2.symm) 2 rfl, (HBn.out.cell (p := ⟨w.heap.size + 1, 0, none⟩) hsz1).trans p0, (HBn.out.cell (p := ⟨w.heap.size + 1, 1, none⟩) hsz1).trans p1, (HBn.out.cell (p := ⟨w.heap.size, 2, none⟩) hsz).trans q2, y0', y1'⟩ (fun hHeld => ?_)
              clear hK K hwt y0' y1' o2 t0 t1 s2 y0 y1 e0 e1 ef0 ef1
              (try simp only [List.getElem_toArray, List.getElem_cons_zero, List.getElem_cons_succ, Act.put, List.setIfInBounds_toArray, List.set_cons_zero, List.set_cons_succ])
              refine wpAnyH_done (by kernel_rfl) ?_ _; clear hHeld
              go_wp2
              go_roundw
              case rel => exact ⟨k + 1, by omega, by go_num, HPn, HKn⟩
              case measure => simp [intOf]; omega
            · have hkk : k = B.nw := by omega
              subst hkk
              have hb1 := (HIB1.out.at hs1).1
              have hb2 := (HP1.out.lt hg1).1
              go_wp2_with fail
              go_meet
              exact ⟨HP.out.congr fun j hj => ⟨mix_all (unr_lt hw1 _ _), mix_all (unr_lt hw1 _ _)⟩, HP1.out.block (HK.out.2 g2 HN3.out.2.1.symm hb2), HIB1.out.block (HK.out.2 g1 HN3.out.1.symm hb1), HK.out.heap HZB.out HN3.out.2.2.symm, HBw⟩
    case rest =>
    obtain ⟨HW2, HP2, HC2, HZ2, HB2⟩ := hcut
    obtain ⟨wC, hwC⟩ : ∃ wC, wC = wc := ⟨_, rfl⟩
    subst hwC
    clear HP1 HIB1 HZB HBB HW0 HT3 hn12 hn1o hn2o
    obtain ⟨T0, hT0⟩ : ∃ T, turnB B kg kw kf 0 = T := ⟨_, rfl⟩
    have HT0 := Lib.hid hT0
    have HT0C : Hid (∀ i, i < B.ns → T0.C i = B.C i) := fun i hi => by rw [← hT0]; show B.C (unr B.ns 0 i) = _; rw [unr_zero hi]
    have hTn : T0.ns = B.ns ∧ T0.ng = B.ng ∧ T0.nw = B.nw := by rw [← hT0]; exact ⟨rfl, rfl, rfl⟩
    obtain ⟨hTs, hTg, hTw⟩ := hTn
    rw [hT0] at HW2 HP2
    have HBO : Hid (BookAt wC.heap.size wC (.agg #[.slice (some ⟨g1, 0, none⟩) B.ns d1, .slice (some ⟨g2, 0, none⟩) B.ng d2, .slice b3 B.nw d3]) T0) :=
      ⟨Nat.le_refl _, _, d1, _, d2, b3, d3, by rw [hTs, hTg, hTw], by rw [hTs]; exact (HC2.out.congr HT0C.out).ints (by omega), by rw [hTg]; exact HP2.out.pairs (by omega), by rw [hTw]; exact HW2.out.pairs (by omega)⟩
    have hoC : o < wC.heap.size := heap_lt HZ2.out
    have HGT : Hid (GoodL T0 4) := by rw [← hT0]; exact turn_good HG.out hs1 hg1
    clear hT0 hT HF0 HW2 HP2 HC2
    have x0 := cell_blk HZ2.out 0 rfl
    have x1 := cell_blk HZ2.out 1 rfl
    have x2 := cell_blk HZ2.out 2 rfl
    go_upto_region 16 with (go_at_call 26; refine (copyT_any wC.heap.size _ T0 _ HBO.out (by omega) (by omega) (by omega)).mono ?_; rintro e wD ⟨vD, rfl, hoD, hbD⟩; obtain ⟨u1, u2, u3, rfl, i1, i2, i3⟩ := hoD; rw [hTs] at i1; rw [hTg] at i2; rw [hTw] at i3; obtain ⟨b4, d4, rfl⟩ := i1.form; obtain ⟨b5, d5, rfl⟩ := i2.form; obtain ⟨b6, d6, rfl⟩ := i3.form; have HJ1 := Lib.hid i1; have HJ2 := Lib.hid i2; have HJ3 := Lib.hid i3; have HCD := Lib.hid hbD; clear i1 i2 i3 hbD x0 x1 x2; obtain ⟨wE, hwE, HBE, hszE, hblkE⟩ := box1 wD (.cells #[.slice none 0 0, .slice none 0 0, .slice none 0 0] 26); have x0 := cell_blk hblkE 0 rfl; have x1 := cell_blk hblkE 1 rfl; have x2 := cell_blk hblkE 2 rfl; have f0 := free_blk hblkE 0; have f1 := free_blk hblkE 1; have f2 := free_blk hblkE 2; have HZE := Lib.hid hblkE; clear hblkE)
    obtain ⟨wF, hwF, hzF, hbF⟩ := put3 (n := wD.heap.size) HZE.out (.slice b4 B.ns d4) (.slice b5 B.ng d5) (.slice b6 B.nw d6) (Nat.le_refl _)
    rw [hwF]
    have HDF : Hid (Below wD.heap.size wD wF) := HBE.out.trans hbF
    have HCF : Hid (Below wC.heap.size wC wF) := bel HCD.out HDF.out
    have HK1 := Lib.hid (HJ1.out.grow HDF.out)
    have HK2 := Lib.hid (HJ2.out.grow HDF.out)
    have HK3 := Lib.hid (HJ3.out.grow HDF.out)
    have hCD := HCD.out.size
    obtain ⟨o', ho'⟩ : ∃ o', wD.heap.size = o' := ⟨_, rfl⟩
    rw [ho'] at hzF hCD ⊢
    have HZF := Lib.hid hzF
    obtain ⟨lc, hlc⟩ : ∃ lc, wC.heap.size = lc := ⟨_, rfl⟩
    have HLC := Lib.hid hlc
    rw [hlc] at HK1 HK2 HK3 hCD hoC
    obtain ⟨g4, rfl⟩ := HK1.out.1.addr hs1
    obtain ⟨g5, rfl⟩ := HK2.out.1.addr hg1
    obtain ⟨hl4, cur4, hc4⟩ := HK1.out.2 g4 _ rfl hs1
    obtain ⟨hl5, cur5, hc5⟩ := HK2.out.2.1 g5 _ rfl hg1
    have hn45 := types_ne hc4 hc5 (by decide)
    have hn4o := types_ne hc4 HZF.out (by decide)
    have hn5o := types_ne hc5 HZF.out (by decide)
    have HT6 : Hid (0 < B.nw → ∃ g6, b6 = some ⟨g6, 0, none⟩ ∧ lc ≤ g6 ∧ g6 ≠ g4 ∧ g6 ≠ g5 ∧ g6 ≠ o') := fun h0 => by
      obtain ⟨g6, rfl⟩ := HK3.out.1.addr h0
      obtain ⟨hl, cur6, hc6⟩ := HK3.out.2.1 g6 _ rfl h0
      exact ⟨g6, rfl, hl, types_ne hc6 hc4 (by decide), types_ne hc6 hc5 (by decide), types_ne hc6 HZF.out (by decide)⟩
    have HL1 : Hid (IB lc wF (.slice (some ⟨g4, 0, none⟩) B.ns d4) B.ns T0.C) := HK1.out.1
    have HL2 : Hid (PB lc wF (.slice (some ⟨g5, 0, none⟩) B.ng d5) B.ng T0.P T0.F) := HK2.out.1
    have HL3 : Hid (PB lc wF (.slice b6 B.nw d6) B.nw T0.G T0.S) := HK3.out.1
    have HW3 : Hid (∀ (k : Nat) (cur : Array Value), wF.heap[k]? = some (.cells cur 43) → k ≠ g4) := fun k cur h => types_ne h hc4 (by decide)
    have HW6 : Hid (0 < B.nw → ∀ g6, b6 = some ⟨g6, 0, none⟩ → g6 < wF.heap.size) := fun h0 g6 e => by subst e; exact (HK3.out.1.lt h0).1
    have h4F := heap_lt hc4
    have h5F := heap_lt hc5
    have HBF : Hid (Below ws.heap.size ws wF) := bel HB2.out HCF.out
    have hlcs : ws.heap.size ≤ lc := by rw [← hlc]; exact HB2.out.size
    clear x0 x1 x2 f0 f1 f2 hwF hzF hbF hwE HBE HZE HJ1 HJ2 HJ3 HCD HDF HK1 HK2 HK3 hc4 hc5 hszE ho' cur4 cur5
    go_upto_block 4 with fail
    go_cut [] (fun wx => Hid (IB lc wx (.slice (some ⟨g4, 0, none⟩) B.ns d4) B.ns (turnB B kg kw kf ks).C) ∧ Hid (Kp g4 wF wx))
    case first =>
      as_aux_lemma =>
        have HPS : Hid (IB lc wF (.slice (some ⟨g4, 0, none⟩) B.ns d4) B.ns (mixF 0 (unr B.ns ks) (turnB B kg kw kf ks).C T0.C)) := by rw [mix_zero]; exact HL1.out
        have HKS : Hid (Kp g4 wF wF) := Kp.refl _ _
        have hls : lc ≤ g4 := hl4
        go_wp2_with fail
        go_loopw [13] (fun i wr => ∃ k : Nat, k ≤ B.ns ∧ i = .int .i64 k ∧ Hid (IB lc wr (.slice (some ⟨g4, 0, none⟩) B.ns d4) B.ns (mixF k (unr B.ns ks) (turnB B kg kw kf ks).C T0.C)) ∧ Hid (Kp g4 wF wr)) (fun i _ => B.ns - (intOf i).toNat)
        case atStart => exact ⟨0, Nat.zero_le _, rfl, HPS, HKS⟩
        case round =>
          obtain ⟨k, hk, rfl, HP, HK⟩ := hrel
          by_cases hkn : k < B.ns
          · have hki : (k : Int) < (B.ns : Int) := by omega
            have HBw : Hid (Below ws.heap.size ws wr) := HK.out.below HBF.out (by omega)
            have HBc : Hid (Below lc wC wr) := HK.out.below (by rw [← HLC.out]; exact HCF.out) hls
            have hcs := HBO.out.scions
            rw [hTs] at hcs
            obtain ⟨bs, os, e, hbs, hrs⟩ := hcs.cells (by omega)
            cases e
            have hbl : g1 < lc := by rw [← HLC.out]; exact hbs
            have s1 := (HBc.out.cell (p := ⟨g1, 0 + k, none⟩) hbl).trans (hrs k hkn)
            rw [HT0C.out k hkn] at s1
            obtain ⟨ck, hck⟩ : ∃ z, B.C k = z := ⟨_, rfl⟩
            have HCK := Lib.hid hck
            rw [hck, Nat.zero_add] at s1
            have o0 := (HBc.out.cell (p := ⟨o, 0, none⟩) hoC).trans (cell_blk HZ2.out 0 rfl)
            have o1 := cell_blk (HK.out.heap HZF.out hn4o.symm) 0 rfl
            have t3 := (HBw.out.cell (p := ⟨w.heap.size + 1, 3, none⟩) hsz1).trans p3
            obtain ⟨r, hr⟩ : ∃ r, rot B.ns ks k = r := ⟨_, rfl⟩
            have hrn : r < B.ns := by rw [← hr]; exact rot_lt hs1 _ _
            have hrem : ((k : Int) + (ks : Int)).tmod (B.ns : Int) = (r : Int) := by rw [← hr, ← Int.natCast_add]; rfl
            have hwa : IntKind.i64.wrap ((k : Int) + (ks : Int)) = (k : Int) + (ks : Int) := IntWalk.i64_in _ (by omega)
            have hri : (r : Int) < (B.ns : Int) := by omega
            obtain ⟨hgw, _, hcl, hfr⟩ := HP.out.at hs1
            have e0 := hcl r hrn
            have ef0 := hfr r
            have HR := Lib.hid hr
            have hn1 : g1 ≠ g4 := by omega
            have hno : o ≠ g4 := by omega
            have hnt : w.heap.size + 1 ≠ g4 := by omega
            clear hr hck hrs hcl hfr
            go_wp2_with fail
            refine wp_region_held_drew (S := fun w' => w'.cell? ⟨o', 0, none⟩ = some (.slice (some ⟨g4, 0, none⟩) B.ns d4) ∧ w'.cell? ⟨w.heap.size + 1, 3, none⟩ = some (.int .i64 ks) ∧ w'.cell? ⟨o, 0, none⟩ = some (.slice (some ⟨g1, 0, none⟩) B.ns d1) ∧ w'.cell? ⟨g1, k, none⟩ = some (.int .i64 ck)) (by kernel_rfl) ⟨o1, t3, o0, s1⟩ (fun hHeld => ?_)
            (refine wpAnyH_take (i := 0) (v := ?_) rfl (by kernel_rfl) (by kernel_rfl) (by kernel_rfl) (fun _ _ _ h => h) (Or.inl ⟨by rfl, ?_⟩) (by assumption) ?_; rotate_left; (focus (intro w hSw; (try dsimp only at hSw); go_simp; (try with_reducible rfl))); (try simp only [List.getElem_toArray, List.getElem_cons_zero, List.getElem_cons_succ, Act.put, List.setIfInBounds_toArray, List.set_cons_zero, List.set_cons_succ])); (refine wpAnyH_take (i := 1) (v := ?_) rfl (by kernel_rfl) (by kernel_rfl) (by kernel_rfl) (fun _ _ _ h => h) (Or.inl ⟨by rfl, ?_⟩) (by assumption) ?_; rotate_left; (focus (intro w hSw; (try dsimp only at hSw); go_simp; (try with_reducible rfl))); (try simp only [List.getElem_toArray, List.getElem_cons_zero, List.getElem_cons_succ, Act.put, List.setIfInBounds_toArray, List.set_cons_zero, List.set_cons_succ])); (refine wpAnyH_take (i := 2) (v := ?_) rfl (by kernel_rfl) (by kernel_rfl) (by kernel_rfl) (fun _ _ _ h => h) (Or.inl ⟨by rfl, ?_⟩) (by assumption) ?_; rotate_left; (focus (intro w hSw; (try dsimp only at hSw); go_simp; (try with_reducible rfl))); (try simp only [List.getElem_toArray, List.getElem_cons_zero, List.getElem_cons_succ, Act.put, List.setIfInBounds_toArray, List.set_cons_zero, List.set_cons_succ])); (refine wpAnyH_take (i := 3) (v := ?_) rfl (by kernel_rfl) (by kernel_rfl) (by kernel_rfl) (fun _ _ _ h => h) (Or.inl ⟨by rfl, ?_⟩) (by assumption) ?_; rotate_left; (focus (intro w hSw; (try dsimp only at hSw); go_simp; (try with_reducible rfl))); (try simp only [List.getElem_toArray, List.getElem_cons_zero, List.getElem_cons_succ, Act.put, List.setIfInBounds_toArray, List.set_cons_zero, List.set_cons_succ])); (refine wpAnyH_take (i := 4) (v := ?_) rfl (by kernel_rfl) (by kernel_rfl) (by kernel_rfl) (fun _ _ _ h => h) (Or.inl ⟨by rfl, ?_⟩) (by assumption) ?_; rotate_left; (focus (intro w hSw; (try dsimp only at hSw); go_simp; (try with_reducible rfl))); (try simp only [List.getElem_toArray, List.getElem_cons_zero, List.getElem_cons_succ, Act.put, List.setIfInBounds_toArray, List.set_cons_zero, List.set_cons_succ])); (refine wpAnyH_take (i := 5) (v := ?_) rfl (by kernel_rfl) (by kernel_rfl) (by kernel_rfl) (fun _ _ _ h => h) (Or.inl ⟨by rfl, ?_⟩) (by assumption) ?_; rotate_left; (focus (intro w hSw; (try dsimp only at hSw); go_simp; (try with_reducible rfl))); (try simp only [List.getElem_toArray, List.getElem_cons_zero, List.getElem_cons_succ, Act.put, List.setIfInBounds_toArray, List.set_cons_zero, List.set_cons_succ])); (refine wpAnyH_take (i := 6) (v := ?_) rfl (by kernel_rfl) (by kernel_rfl) (by kernel_rfl) (fun _ _ _ h => h) (Or.inl ⟨by rfl, ?_⟩) (by assumption) ?_; rotate_left; (focus (intro w hSw; (try dsimp only at hSw); go_simp; (try with_reducible rfl))); (try simp only [List.getElem_toArray, List.getElem_cons_zero, List.getElem_cons_succ, Act.put, List.setIfInBounds_toArray, List.set_cons_zero, List.set_cons_succ])); (refine wpAnyH_take (i := 7) (v := ?_) rfl (by kernel_rfl) (by kernel_rfl) (by kernel_rfl) (fun _ _ _ h => h) (Or.inl ⟨by rfl, ?_⟩) (by assumption) ?_; rotate_left; (focus (intro w hSw; (try dsimp only at hSw); go_simp; (try with_reducible rfl))); (try simp only [List.getElem_toArray, List.getElem_cons_zero, List.getElem_cons_succ, Act.put, List.setIfInBounds_toArray, List.set_cons_zero, List.set_cons_succ])); (refine wpAnyH_take (i := 8) (v := ?_) rfl (by kernel_rfl) (by kernel_rfl) (by kernel_rfl) (fun _ _ _ h => h) (Or.inl ⟨by rfl, ?_⟩) (by assumption) ?_; rotate_left; (focus (intro w hSw; (try dsimp only at hSw); go_simp; (try with_reducible rfl))); (try simp only [List.getElem_toArray, List.getElem_cons_zero, List.getElem_cons_succ, Act.put, List.setIfInBounds_toArray, List.set_cons_zero, List.set_cons_succ])); (refine wpAnyH_take (i := 9) (v := ?_) rfl (by kernel_rfl) (by kernel_rfl) (by kernel_rfl) (fun _ _ _ h => h) (Or.inl ⟨by rfl, ?_⟩) (by assumption) ?_; rotate_left; (focus (intro w hSw; (try dsimp only at hSw); go_simp; (try with_reducible rfl))); (try simp only [List.getElem_toArray, List.getElem_cons_zero, List.getElem_cons_succ, Act.put, List.setIfInBounds_toArray, List.set_cons_zero, List.set_cons_succ])); (refine wpAnyH_take (i := 10) (v := ?_) rfl (by kernel_rfl) (by kernel_rfl) (by kernel_rfl) (fun _ _ _ h => h) (Or.inl ⟨by rfl, ?_⟩) (by assumption) ?_; rotate_left; (focus (intro w hSw; (try dsimp only at hSw); go_simp; (try with_reducible rfl))); (try simp only [List.getElem_toArray, List.getElem_cons_zero, List.getElem_cons_succ, Act.put, List.setIfInBounds_toArray, List.set_cons_zero, List.set_cons_succ])); (refine wpAnyH_take (i := 11) (v := ?_) rfl (by kernel_rfl) (by kernel_rfl) (by kernel_rfl) (fun _ _ _ h => h) (Or.inl ⟨by rfl, ?_⟩) (by assumption) ?_; rotate_left; (focus (intro w hSw; (try dsimp only at hSw); go_simp; (try with_reducible rfl))); (try simp only [List.getElem_toArray, List.getElem_cons_zero, List.getElem_cons_succ, Act.put, List.setIfInBounds_toArray, List.set_cons_zero, List.set_cons_succ])); (refine wpAnyH_take (i := 12) (v := ?_) rfl (by kernel_rfl) (by kernel_rfl) (by kernel_rfl) (fun _ _ _ h => h) (Or.inl ⟨by rfl, ?_⟩) (by assumption) ?_; rotate_left; (focus (intro w hSw; (try dsimp only at hSw); go_simp; (try with_reducible rfl))); (try simp only [List.getElem_toArray, List.getElem_cons_zero, List.getElem_cons_succ, Act.put, List.setIfInBounds_toArray, List.set_cons_zero, List.set_cons_succ])); (refine wpAnyH_take (i := 13) (v := ?_) rfl (by kernel_rfl) (by kernel_rfl) (by kernel_rfl) (fun _ _ _ h => h) (Or.inl ⟨by rfl, ?_⟩) (by assumption) ?_; rotate_left; (focus (intro w hSw; (try dsimp only at hSw); go_simp; (try with_reducible rfl))); (try simp only [List.getElem_toArray, List.getElem_cons_zero, List.getElem_cons_succ, Act.put, List.setIfInBounds_toArray, List.set_cons_zero, List.set_cons_succ]))
            refine wpAnyH_ready (rs := [14]) (by kernel_rfl) (by simp) ?_; refine AllReadyH.cons rfl (fun K hK => ?_) AllReadyH.nil; go_simp
            have HPn : Hid (IB lc (wr.setCell ⟨g4, r, none⟩ (.int .i64 ck)).drew (.slice (some ⟨g4, 0, none⟩) B.ns d4) B.ns (mixF (k + 1) (unr B.ns ks) (turnB B kg kw kf ks).C T0.C)) := by
              refine (IB.congr (HP.out.set' hrn ck) fun j hj => ?_).keep fun _ _ _ => rfl
              rw [mix_step hkn hj, HR.out]
              by_cases e : j = r
              · subst e
                rw [if_pos rfl, if_pos rfl]
                show B.C (unr B.ns ks j) = ck
                rw [← HR.out, unr_rot ks hkn, HCK.out]
              · rw [if_neg e, if_neg e]
            have HKn : Hid (Kp g4 wF (wr.setCell ⟨g4, r, none⟩ (.int .i64 ck)).drew) := (HK.out.set _ _).drew
            have s1' : (wr.setCell ⟨g4, r, none⟩ (.int .i64 ck)).drew.cell? ⟨g1, k, none⟩ = some (.int .i64 ck) := (World.cell?_setCell_far _ _ _ _ (by show g4 ≠ g1; exact hn1.symm)).trans s1
            have o0' : (wr.setCell ⟨g4, r, none⟩ (.int .i64 ck)).drew.cell? ⟨o, 0, none⟩ = some (.slice (some ⟨g1, 0, none⟩) B.ns d1) := (World.cell?_setCell_far _ _ _ _ (by show g4 ≠ o; exact hno.symm)).trans o0
            obtain ⟨wt, hwt⟩ : ∃ wt, (wr.setCell ⟨g4, r, none⟩ (.int .i64 ck)).drew = wt := ⟨_, rfl⟩
            rw [hwt] at HPn HKn s1' o0' ⊢
            have HBn : Hid (Below ws.heap.size ws wt) := HKn.out.below HBF.out (by omega)
            refine hK.out _ _ ⟨cell_blk (HKn.out.heap HZF.out hn4o.symm) 0 rfl, (HBn.out.cell (p := ⟨w.heap.size + 1, 3, none⟩) hsz1).trans p3, o0', s1'⟩ (fun hHeld => ?_)
            clear hK K hwt s1' o0' o1 t3 o0 s1 e0 ef0
            (try simp only [List.getElem_toArray, List.getElem_cons_zero, List.getElem_cons_succ, Act.put, List.setIfInBounds_toArray, List.set_cons_zero, List.set_cons_succ])
            refine wpAnyH_done (by kernel_rfl) ?_ _; clear hHeld
            go_wp2
            go_roundw
            case rel => exact ⟨k + 1, by omega, by go_num, HPn, HKn⟩
            case measure => simp [intOf]; omega
          · have hkk : k = B.ns := by omega
            subst hkk
            go_wp2_with fail
            go_meet
            exact ⟨HP.out.congr fun j hj => mix_all (unr_lt hs1 _ _), HK⟩
    case rest =>
    obtain ⟨HP4, HK4⟩ := hcut
    obtain ⟨wG, hwG⟩ : ∃ wG, wG = wc := ⟨_, rfl⟩
    subst hwG
    have HL2G : Hid (PB lc wG (.slice (some ⟨g5, 0, none⟩) B.ng d5) B.ng T0.P T0.F) := HL2.out.block (HK4.out.2 g5 hn45.symm h5F)
    have HL3G : Hid (PB lc wG (.slice b6 B.nw d6) B.nw T0.G T0.S) := by
      rcases HL3.out with h | h
      · exact .inl h
      · obtain ⟨g6, e, _, h64, _⟩ := HT6.out h.1
        subst e
        exact PB.block (.inr h) (HK4.out.2 g6 h64 (HW6.out h.1 g6 rfl))
    have HZG := Lib.hid (HK4.out.heap HZF.out hn4o.symm)
    have HCG : Hid (Below lc wC wG) := HK4.out.below (by rw [← HLC.out]; exact HCF.out) hl4
    have h4G := (HP4.out.at hs1).1
    have h5G := (HL2G.out.lt hg1).1
    have hoG := heap_lt HZG.out
    clear HL1 HL2 HL3 HW3 HW6 HZF HCF HK4 HBF h4F h5F
    go_upto_block 6 with fail
    go_cut [] (fun wx => Hid (PB lc wx (.slice b6 B.nw d6) B.nw (turnB B kg kw kf ks).G (turnB B kg kw kf ks).S) ∧ Hid (PB lc wx (.slice (some ⟨g5, 0, none⟩) B.ng d5) B.ng T0.P T0.F) ∧ Hid (IB lc wx (.slice (some ⟨g4, 0, none⟩) B.ns d4) B.ns (turnB B kg kw kf ks).C) ∧ Hid (wx.heap[o']? = some (.cells #[.slice (some ⟨g4, 0, none⟩) B.ns d4, .slice (some ⟨g5, 0, none⟩) B.ng d5, .slice b6 B.nw d6] 26)) ∧ Hid (Below lc wC wx))
    case first =>
      as_aux_lemma =>
        have HTG : Hid ((turnB B kg kw kf ks).G = T0.G) := by rw [← HT0.out]; rfl
        have HTS : Hid (∀ j, T0.S j = ((rot B.ns 0 (B.S (unr B.nw kw j)).toNat : Nat) : Int)) := fun j => by rw [← HT0.out]; rfl
        by_cases hw0 : B.nw = 0
        · have hwi : (B.nw : Int) = 0 := by omega
          have o2 := (HCG.out.cell (p := ⟨o, 2, none⟩) hoC).trans (cell_blk HZ2.out 2 rfl)
          have HE0 : Hid (PB lc wG (.slice b6 B.nw d6) B.nw (turnB B kg kw kf ks).G (turnB B kg kw kf ks).S) := HL3G.out.congr fun i hi => by omega
          go_wp2_with fail
          go_loopw [14] (fun i wr => i = .int .i64 0 ∧ wr = wG) (fun _ _ => 0)
          case atStart => exact ⟨rfl, rfl⟩
          case round =>
            obtain ⟨rfl, rfl⟩ := hrel
            go_wp2_with fail
            go_meet
            exact ⟨HE0, HL2G, HP4, HZG, HCG⟩
        · have hw1 : 0 < B.nw := by omega
          obtain ⟨g6, rfl, hl6, hn64, hn65, hn6o⟩ := HT6.out hw1
          have HPS : Hid (PB lc wG (.slice (some ⟨g6, 0, none⟩) B.nw d6) B.nw T0.G (mixF 0 id (turnB B kg kw kf ks).S T0.S)) := by rw [mix_zero]; exact HL3G.out
          have HKS : Hid (Kp g6 wG wG) := Kp.refl _ _
          have HN6 := Lib.hid (And.intro hn64 (And.intro hn65 hn6o))
          clear hw0 HT6 hn64 hn65 hn6o
          go_wp2_with fail
          go_loopw [14] (fun i wr => ∃ k : Nat, k ≤ B.nw ∧ i = .int .i64 k ∧ Hid (PB lc wr (.slice (some ⟨g6, 0, none⟩) B.nw d6) B.nw T0.G (mixF k id (turnB B kg kw kf ks).S T0.S)) ∧ Hid (Kp g6 wG wr)) (fun i _ => B.nw - (intOf i).toNat)
          case atStart => exact ⟨0, Nat.zero_le _, rfl, HPS, HKS⟩
          case round =>
            obtain ⟨k, hk, rfl, HP, HK⟩ := hrel
            have HBc : Hid (Below lc wC wr) := HK.out.below HCG.out hl6
            have HBw : Hid (Below ws.heap.size ws wr) := Below.trans HB2.out (HBc.out.mono hlcs)
            have o2 := (HBc.out.cell (p := ⟨o, 2, none⟩) hoC).trans (cell_blk HZ2.out 2 rfl)
            by_cases hkn : k < B.nw
            · have hki : (k : Int) < (B.nw : Int) := by omega
              have hcs := HBO.out.wants
              rw [hTw] at hcs
              obtain ⟨bs, os, e, hbs, hrs⟩ := hcs.cells (by omega)
              cases e
              have hbl : bs < lc := by rw [← HLC.out]; exact hbs
              have s1 := (HBc.out.cell (p := ⟨bs, os + k * 2 + 1, none⟩) hbl).trans (hrs k hkn).2
              obtain ⟨sk, hsk, hskn⟩ : ∃ z : Nat, B.S (unr B.nw kw k) = z ∧ z < B.ns := ⟨(B.S (unr B.nw kw k)).toNat, by have := HG.out.S _ (unr_lt hw1 kw k); omega, by have := HG.out.S _ (unr_lt hw1 kw k); omega⟩
              have HSK := Lib.hid hsk
              rw [HTS.out, hsk, Int.toNat_natCast, rot_zero hskn] at s1
              have o1 := cell_blk (HK.out.heap HZG.out HN6.out.2.2.symm) 2 rfl
              have t3 := (HBw.out.cell (p := ⟨w.heap.size + 1, 3, none⟩) hsz1).trans p3
              obtain ⟨r, hr⟩ : ∃ r, rot B.ns ks sk = r := ⟨_, rfl⟩
              have hrem : ((sk : Int) + (ks : Int)).tmod (B.ns : Int) = (r : Int) := by rw [← hr, ← Int.natCast_add]; rfl
              have hwa : IntKind.i64.wrap ((sk : Int) + (ks : Int)) = (sk : Int) + (ks : Int) := IntWalk.i64_in _ (by omega)
              have hgw := (HP.out.lt hw1).1
              obtain ⟨_, e0⟩ := HP.out.two hkn
              have ef0 := HP.out.fr hw1 (k * 2 + 1)
              have HR := Lib.hid hr
              have hn1 : bs ≠ g6 := by omega
              have hno : o ≠ g6 := by omega
              have hnt : w.heap.size + 1 ≠ g6 := by omega
              clear hr hsk hrs
              go_wp2_with fail
              refine wp_region_held_drew (S := fun w' => w'.cell? ⟨o', 2, none⟩ = some (.slice (some ⟨g6, 0, none⟩) B.nw d6) ∧ w'.cell? ⟨w.heap.size + 1, 3, none⟩ = some (.int .i64 ks) ∧ w'.cell? ⟨o, 2, none⟩ = some (.slice (some ⟨bs, os, none⟩) B.nw d3) ∧ w'.cell? ⟨bs, os + k * 2 + 1, none⟩ = some (.int .i64 sk)) (by kernel_rfl) ⟨o1, t3, o2, s1⟩ (fun hHeld => ?_)
              (refine wpAnyH_take (i := 0) (v := ?_) rfl (by kernel_rfl) (by kernel_rfl) (by kernel_rfl) (fun _ _ _ h => h) (Or.inl ⟨by rfl, ?_⟩) (by assumption) ?_; rotate_left; (focus (intro w hSw; (try dsimp only at hSw); go_simp; (try with_reducible rfl))); (try simp only [List.getElem_toArray, List.getElem_cons_zero, List.getElem_cons_succ, Act.put, List.setIfInBounds_toArray, List.set_cons_zero, List.set_cons_succ])); (refine wpAnyH_take (i := 1) (v := ?_) rfl (by kernel_rfl) (by kernel_rfl) (by kernel_rfl) (fun _ _ _ h => h) (Or.inl ⟨by rfl, ?_⟩) (by assumption) ?_; rotate_left; (focus (intro w hSw; (try dsimp only at hSw); go_simp; (try with_reducible rfl))); (try simp only [List.getElem_toArray, List.getElem_cons_zero, List.getElem_cons_succ, Act.put, List.setIfInBounds_toArray, List.set_cons_zero, List.set_cons_succ])); (refine wpAnyH_take (i := 2) (v := ?_) rfl (by kernel_rfl) (by kernel_rfl) (by kernel_rfl) (fun _ _ _ h => h) (Or.inl ⟨by rfl, ?_⟩) (by assumption) ?_; rotate_left; (focus (intro w hSw; (try dsimp only at hSw); go_simp; (try with_reducible rfl))); (try simp only [List.getElem_toArray, List.getElem_cons_zero, List.getElem_cons_succ, Act.put, List.setIfInBounds_toArray, List.set_cons_zero, List.set_cons_succ])); (refine wpAnyH_take (i := 3) (v := ?_) rfl (by kernel_rfl) (by kernel_rfl) (by kernel_rfl) (fun _ _ _ h => h) (Or.inl ⟨by rfl, ?_⟩) (by assumption) ?_; rotate_left; (focus (intro w hSw; (try dsimp only at hSw); go_simp; (try with_reducible rfl))); (try simp only [List.getElem_toArray, List.getElem_cons_zero, List.getElem_cons_succ, Act.put, List.setIfInBounds_toArray, List.set_cons_zero, List.set_cons_succ])); (refine wpAnyH_take (i := 4) (v := ?_) rfl (by kernel_rfl) (by kernel_rfl) (by kernel_rfl) (fun _ _ _ h => h) (Or.inl ⟨by rfl, ?_⟩) (by assumption) ?_; rotate_left; (focus (intro w hSw; (try dsimp only at hSw); go_simp; (try with_reducible rfl))); (try simp only [List.getElem_toArray, List.getElem_cons_zero, List.getElem_cons_succ, Act.put, List.setIfInBounds_toArray, List.set_cons_zero, List.set_cons_succ])); (refine wpAnyH_take (i := 5) (v := ?_) rfl (by kernel_rfl) (by kernel_rfl) (by kernel_rfl) (fun _ _ _ h => h) (Or.inl ⟨by rfl, ?_⟩) (by assumption) ?_; rotate_left; (focus (intro w hSw; (try dsimp only at hSw); go_simp; (try with_reducible rfl))); (try simp only [List.getElem_toArray, List.getElem_cons_zero, List.getElem_cons_succ, Act.put, List.setIfInBounds_toArray, List.set_cons_zero, List.set_cons_succ])); (refine wpAnyH_take (i := 6) (v := ?_) rfl (by kernel_rfl) (by kernel_rfl) (by kernel_rfl) (fun _ _ _ h => h) (Or.inl ⟨by rfl, ?_⟩) (by assumption) ?_; rotate_left; (focus (intro w hSw; (try dsimp only at hSw); go_simp; (try with_reducible rfl))); (try simp only [List.getElem_toArray, List.getElem_cons_zero, List.getElem_cons_succ, Act.put, List.setIfInBounds_toArray, List.set_cons_zero, List.set_cons_succ])); (refine wpAnyH_take (i := 7) (v := ?_) rfl (by kernel_rfl) (by kernel_rfl) (by kernel_rfl) (fun _ _ _ h => h) (Or.inl ⟨by rfl, ?_⟩) (by assumption) ?_; rotate_left; (focus (intro w hSw; (try dsimp only at hSw); go_simp; (try with_reducible rfl))); (try simp only [List.getElem_toArray, List.getElem_cons_zero, List.getElem_cons_succ, Act.put, List.setIfInBounds_toArray, List.set_cons_zero, List.set_cons_succ])); (refine wpAnyH_take (i := 8) (v := ?_) rfl (by kernel_rfl) (by kernel_rfl) (by kernel_rfl) (fun _ _ _ h => h) (Or.inl ⟨by rfl, ?_⟩) (by assumption) ?_; rotate_left; (focus (intro w hSw; (try dsimp only at hSw); go_simp; (try with_reducible rfl))); (try simp only [List.getElem_toArray, List.getElem_cons_zero, List.getElem_cons_succ, Act.put, List.setIfInBounds_toArray, List.set_cons_zero, List.set_cons_succ])); (refine wpAnyH_take (i := 9) (v := ?_) rfl (by kernel_rfl) (by kernel_rfl) (by kernel_rfl) (fun _ _ _ h => h) (Or.inl ⟨by rfl, ?_⟩) (by assumption) ?_; rotate_left; (focus (intro w hSw; (try dsimp only at hSw); go_simp; (try with_reducible rfl))); (try simp only [List.getElem_toArray, List.getElem_cons_zero, List.getElem_cons_succ, Act.put, List.setIfInBounds_toArray, List.set_cons_zero, List.set_cons_succ])); (refine wpAnyH_take (i := 10) (v := ?_) rfl (by kernel_rfl) (by kernel_rfl) (by kernel_rfl) (fun _ _ _ h => h) (Or.inl ⟨by rfl, ?_⟩) (by assumption) ?_; rotate_left; (focus (intro w hSw; (try dsimp only at hSw); go_simp; (try with_reducible rfl))); (try simp only [List.getElem_toArray, List.getElem_cons_zero, List.getElem_cons_succ, Act.put, List.setIfInBounds_toArray, List.set_cons_zero, List.set_cons_succ])); (refine wpAnyH_take (i := 11) (v := ?_) rfl (by kernel_rfl) (by kernel_rfl) (by kernel_rfl) (fun _ _ _ h => h) (Or.inl ⟨by rfl, ?_⟩) (by assumption) ?_; rotate_left; (focus (intro w hSw; (try dsimp only at hSw); go_simp; (try with_reducible rfl))); (try simp only [List.getElem_toArray, List.getElem_cons_zero, List.getElem_cons_succ, Act.put, List.setIfInBounds_toArray, List.set_cons_zero, List.set_cons_succ])); (refine wpAnyH_take (i := 12) (v := ?_) rfl (by kernel_rfl) (by kernel_rfl) (by kernel_rfl) (fun _ _ _ h => h) (Or.inl ⟨by rfl, ?_⟩) (by assumption) ?_; rotate_left; (focus (intro w hSw; (try dsimp only at hSw); go_simp; (try with_reducible rfl))); (try simp only [List.getElem_toArray, List.getElem_cons_zero, List.getElem_cons_succ, Act.put, List.setIfInBounds_toArray, List.set_cons_zero, List.set_cons_succ])); (refine wpAnyH_take (i := 13) (v := ?_) rfl (by kernel_rfl) (by kernel_rfl) (by kernel_rfl) (fun _ _ _ h => h) (Or.inl ⟨by rfl, ?_⟩) (by assumption) ?_; rotate_left; (focus (intro w hSw; (try dsimp only at hSw); go_simp; (try with_reducible rfl))); (try simp only [List.getElem_toArray, List.getElem_cons_zero, List.getElem_cons_succ, Act.put, List.setIfInBounds_toArray, List.set_cons_zero, List.set_cons_succ])); (refine wpAnyH_take (i := 14) (v := ?_) rfl (by kernel_rfl) (by kernel_rfl) (by kernel_rfl) (fun _ _ _ h => h) (Or.inl ⟨by rfl, ?_⟩) (by assumption) ?_; rotate_left; (focus (intro w hSw; (try dsimp only at hSw); go_simp; (try with_reducible rfl))); (try simp only [List.getElem_toArray, List.getElem_cons_zero, List.getElem_cons_succ, Act.put, List.setIfInBounds_toArray, List.set_cons_zero, List.set_cons_succ])); (refine wpAnyH_take (i := 15) (v := ?_) rfl (by kernel_rfl) (by kernel_rfl) (by kernel_rfl) (fun _ _ _ h => h) (Or.inl ⟨by rfl, ?_⟩) (by assumption) ?_; rotate_left; (focus (intro w hSw; (try dsimp only at hSw); go_simp; (try with_reducible rfl))); (try simp only [List.getElem_toArray, List.getElem_cons_zero, List.getElem_cons_succ, Act.put, List.setIfInBounds_toArray, List.set_cons_zero, List.set_cons_succ]))
              refine wpAnyH_ready (rs := [16]) (by kernel_rfl) (by simp) ?_; refine AllReadyH.cons rfl (fun K hK => ?_) AllReadyH.nil; go_simp
              have HPn : Hid (PB lc (wr.setCell ⟨g6, k * 2 + 1, none⟩ (.int .i64 r)).drew (.slice (some ⟨g6, 0, none⟩) B.nw d6) B.nw T0.G (mixF (k + 1) id (turnB B kg kw kf ks).S T0.S)) := by
                refine (PB.congr (HP.out.setY hkn r) fun j hj => ⟨rfl, ?_⟩).keep fun _ _ _ => rfl
                rw [mix_id]
                by_cases e : j = k
                · subst e
                  rw [if_pos rfl, if_pos rfl]
                  show ((rot B.ns ks (B.S (unr B.nw kw j)).toNat : Nat) : Int) = r
                  rw [HSK.out, Int.toNat_natCast, HR.out]
                · rw [if_neg e, if_neg e]
              have HKn : Hid (Kp g6 wG (wr.setCell ⟨g6, k * 2 + 1, none⟩ (.int .i64 r)).drew) := (HK.out.set _ _).drew
              have s1' : (wr.setCell ⟨g6, k * 2 + 1, none⟩ (.int .i64 r)).drew.cell? ⟨bs, os + k * 2 + 1, none⟩ = some (.int .i64 sk) := (World.cell?_setCell_far _ _ _ _ (by show g6 ≠ bs; exact hn1.symm)).trans s1
              have o2' : (wr.setCell ⟨g6, k * 2 + 1, none⟩ (.int .i64 r)).drew.cell? ⟨o, 2, none⟩ = some (.slice (some ⟨bs, os, none⟩) B.nw d3) := (World.cell?_setCell_far _ _ _ _ (by show g6 ≠ o; exact hno.symm)).trans o2
              obtain ⟨wt, hwt⟩ : ∃ wt, (wr.setCell ⟨g6, k * 2 + 1, none⟩ (.int .i64 r)).drew = wt := ⟨_, rfl⟩
              rw [hwt] at HPn HKn s1' o2' ⊢
              have HBn : Hid (Below ws.heap.size ws wt) := Below.trans HB2.out ((HKn.out.below HCG.out hl6).mono hlcs)
              refine hK.out _ _ ⟨cell_blk (HKn.out.heap HZG.out HN6.out.2.2.symm) 2 rfl, (HBn.out.cell (p := ⟨w.heap.size + 1, 3, none⟩) hsz1).trans p3, o2', s1'⟩ (fun hHeld => ?_)
              clear hK K hwt s1' o2' o1 t3 o2 s1 e0 ef0
              (try simp only [List.getElem_toArray, List.getElem_cons_zero, List.getElem_cons_succ, Act.put, List.setIfInBounds_toArray, List.set_cons_zero, List.set_cons_succ])
              refine wpAnyH_done (by kernel_rfl) ?_ _; clear hHeld
              go_wp2
              go_roundw
              case rel => exact ⟨k + 1, by omega, by go_num, HPn, HKn⟩
              case measure => simp [intOf]; omega
            · have hkk : k = B.nw := by omega
              subst hkk
              go_wp2_with fail
              go_meet
              exact ⟨HP.out.congr fun j hj => ⟨by rw [HTG.out], mix_all hj⟩, HL2G.out.block (HK.out.2 g5 HN6.out.2.1.symm h5G), HP4.out.block (HK.out.2 g4 HN6.out.1.symm h4G), HK.out.heap HZG.out HN6.out.2.2.symm, HBc⟩
    case rest =>
    obtain ⟨HW5, HP5, HC5, HZ5, HCH⟩ := hcut
    obtain ⟨wH, hwH⟩ : ∃ wH, wH = wc := ⟨_, rfl⟩
    subst hwH
    have HBH : Hid (Below ws.heap.size ws wH) := Below.trans HB2.out (HCH.out.mono hlcs)
    obtain ⟨T1, hT1⟩ : ∃ T, turnB B kg kw kf ks = T := ⟨_, rfl⟩
    have hPF : T0.P = T1.P ∧ T0.F = T1.F := by rw [← hT1, ← HT0.out]; exact ⟨rfl, rfl⟩
    have hT1n : T1.ns = B.ns ∧ T1.ng = B.ng ∧ T1.nw = B.nw := by rw [← hT1]; exact ⟨rfl, rfl, rfl⟩
    obtain ⟨hT1s, hT1g, hT1w⟩ := hT1n
    have HT1 := Lib.hid hT1
    rw [hT1] at HW5 HC5
    rw [hPF.1, hPF.2] at HP5
    have HBP : Hid (BookAt wH.heap.size wH (.agg #[.slice (some ⟨g4, 0, none⟩) B.ns d4, .slice (some ⟨g5, 0, none⟩) B.ng d5, .slice b6 B.nw d6]) T1) :=
      ⟨Nat.le_refl _, _, d4, _, d5, b6, d6, by rw [hT1s, hT1g, hT1w], by rw [hT1s]; exact HC5.out.ints (by omega), by rw [hT1g]; exact HP5.out.pairs (by omega), by rw [hT1w]; exact HW5.out.pairs (by omega)⟩
    have HBT := Lib.hid (HBO.out.go (by rw [HLC.out]; exact HCH.out))
    have HBL := Lib.hid (HBK.out.go HBH.out)
    have x0 := (HCH.out.cell (p := ⟨o, 0, none⟩) hoC).trans (cell_blk HZ2.out 0 rfl)
    have x1 := (HCH.out.cell (p := ⟨o, 1, none⟩) hoC).trans (cell_blk HZ2.out 1 rfl)
    have x2 := (HCH.out.cell (p := ⟨o, 2, none⟩) hoC).trans (cell_blk HZ2.out 2 rfl)
    have y0 := cell_blk HZ5.out 0 rfl
    have y1 := cell_blk HZ5.out 1 rfl
    have y2 := cell_blk HZ5.out 2 rfl
    have r0 := (HBH.out.cell (p := ⟨w.heap.size, 0, none⟩) hsz).trans q0
    have r1 := (HBH.out.cell (p := ⟨w.heap.size, 1, none⟩) hsz).trans q1
    have r2 := (HBH.out.cell (p := ⟨w.heap.size, 2, none⟩) hsz).trans q2
    have t0 := (HBH.out.cell (p := ⟨w.heap.size + 1, 0, none⟩) hsz1).trans p0
    have t3 := (HBH.out.cell (p := ⟨w.heap.size + 1, 3, none⟩) hsz1).trans p3
    have hoH : o < wH.heap.size := by have := HCH.out.size; have := HLC.out; omega
    have hoP : o' < wH.heap.size := heap_lt HZ5.out
    have hwH0 : w.heap.size < wH.heap.size := Nat.lt_of_lt_of_le hsz HBH.out.size
    have hwH1 : w.heap.size + 1 < wH.heap.size := Nat.lt_of_lt_of_le hsz1 HBH.out.size
    have hv := okL_of HG.out
    have hv0 := okL_of HGT.out
    have hG1 : GoodL T1 4 := by rw [← hT1]; exact turn_good HG.out hs1 hg1
    have hv1 := okL_of hG1
    obtain ⟨cl, hcl⟩ : ∃ l, cntL B (bestL (rankG B) (giftsL B)) = l := ⟨_, rfl⟩
    have hcln : cl.length = B.ns := by rw [← hcl]; simp [cntL, fromF]
    have HE : Hid (eBest B = (cl, 0)) := by unfold Hid eBest eList; rw [hv, hcl]; rfl
    have HE0 : Hid (eBest T0 = (cl, 0)) := by
      have e := turn_best (xg := kg) (xw := kw) (xf := kf) HG.out hs1 hg1
      rw [HT0.out, hcl] at e
      unfold Hid eBest eList; rw [hv0, e]; rfl
    obtain ⟨K, hK⟩ : ∃ l, sel (weakP B) B.ng = l := ⟨_, rfl⟩
    obtain ⟨M, hM⟩ : ∃ l, sel (weakP T0) B.ng = l := ⟨_, rfl⟩
    obtain ⟨kl, hkl⟩ : ∃ n, K.length = n := ⟨_, rfl⟩
    have hml : M.length = kl := by
      have e := turn_sel (xg := kg) (xw := kw) (xf := kf) (xs := 0) HG.out hs1 hg1
      rw [HT0.out, hM, hK, hkl] at e
      exact e
    have hkln : kl ≤ B.ng := by rw [← hkl, ← hK]; exact sel_len _ _
    have HWK : Hid (eList B (sel (weakP B) B.ng) = (K, 0)) := by unfold Hid eList; rw [hv, hK]; rfl
    have HWM : Hid (eList T0 (sel (weakP T0) T0.ng) = (M, 0)) := by unfold Hid eList; rw [hv0, hTg, hM]; rfl
    have HKI : Hid (∀ i, i < kl → ∃ a : Nat, K.getD i 0 = (a : Int) ∧ a < B.ng ∧ (anyB kl fun i => decide (M.getD i 0 = ((rot B.ng kg a : Nat) : Int))) = true) := fun i hi => by
      obtain ⟨a, h1, h2, h3⟩ := sel_at (p := weakP B) (n := B.ng) (i := i) (by rw [hK, hkl]; exact hi)
      rw [hK] at h1
      refine ⟨a, h1, h2, ?_⟩
      have e := sel_in (p := weakP T0) (n := B.ng) (s := rot B.ng kg a) (rot_lt hg1 _ _)
      rw [hM, hml] at e
      rw [e, ← HT0.out, turn_weak HG.out hs1 hg1 h2]
      exact h3
    obtain ⟨sn, hsn⟩ : ∃ z, sumN B = z := ⟨_, rfl⟩
    obtain ⟨fn, hfn⟩ : ∃ z, safeN B = z := ⟨_, rfl⟩
    have HM1 : Hid (eNum B (sumN B) = ((sn : Int), 0)) := by unfold Hid eNum; rw [hv, hsn]; rfl
    have HM2 : Hid (eNum T1 (sumN T1) = ((sn : Int), 0)) := by
      have e := turn_sum (xg := kg) (xw := kw) (xf := kf) (xs := ks) HG.out hs1 hg1
      rw [hT1, hsn] at e
      unfold Hid eNum; rw [hv1, e]; rfl
    have HS1 : Hid (eNum B (safeN B) = ((fn : Int), 0)) := by unfold Hid eNum; rw [hv, hfn]; rfl
    have HS2 : Hid (eNum T1 (safeN T1) = ((fn : Int), 0)) := by
      have e := turn_safe (xg := kg) (xw := kw) (xf := kf) (xs := ks) HG.out hs1 hg1
      rw [hT1, hfn] at e
      unfold Hid eNum; rw [hv1, e]; rfl
    have HEA : Hid (∀ s : Nat, s < B.ns → eAlone B s = (((aloneN B s : Nat) : Int), 0) ∧ eAlone T1 (rot B.ns ks s : Nat) = (((aloneN B s : Nat) : Int), 0)) := fun s hs => by
      constructor
      · unfold eAlone
        rw [hv, decide_eq_true (show (0 : Int) ≤ (s : Int) by omega), decide_eq_true (show (s : Int) < (B.ns : Int) by omega), Int.toNat_natCast]
        rfl
      · have e := turn_alone (xg := kg) (xw := kw) (xf := kf) (xs := ks) HG.out hs1 hg1 hs
        rw [hT1] at e
        have hl := rot_lt hs1 ks s
        unfold eAlone
        rw [hv1, hT1s, decide_eq_true (show (0 : Int) ≤ ((rot B.ns ks s : Nat) : Int) by omega), decide_eq_true (show ((rot B.ns ks s : Nat) : Int) < (B.ns : Int) by omega), Int.toNat_natCast]
        show (((aloneN T1 (rot B.ns ks s) : Nat) : Int), (0 : Int)) = _
        rw [e]
    have HSL : Hid (sameI cl.length (fun i => cl.getD i 0) cl.length (fun i => cl.getD i 0) = true) := sameI_self _ _
    have HCL : Hid (cl.length ≤ 140737488351232) := by rw [hcln]; show B.ns ≤ _; omega
    have HKL := Lib.hid hkl
    have HML := Lib.hid hml
    have hkgi : ¬ (B.ng : Int) < (kl : Int) := by omega
    have hkgb : decide (B.ng < kl) = false := decide_eq_false (by omega)
    clear hv hv0 hv1 hG1 hcl hcln hK hM hkl hml hsn hfn hT1 hPF HW5 HP5 HC5 HZ5 HZ2 HL2G HL3G HZG HP4 HCG q0 q1 q2 p0 p1 p2 p3 HBO HCH
    have HBz : Hid (Below wH.heap.size wH wH) := Below.refl _ _
    have cz := (old_of HBz.out).1
    go_upto_block 8 with (first
      | (go_at_call 16; have hx := HE; clear HE; refine (kBest_any N _ B _ (HBL.out.go HBz.out)).mono ?_; rw [hx.out]; rintro e w1 ⟨v1, rfl, ho1, hb1⟩; have P1 : Hid (OwnI wH.heap.size w1 v1 cl) := ho1; clear ho1 hx; (try clear cz); have HB1 := Lib.hid (bel HBz.out hb1); have c1 := (old_of HB1.out).1; clear hb1)
      | (go_at_call 16; refine (kBest_any _ _ T0 _ (HBT.out.go HB1.out)).mono ?_; rw [HE0.out]; rintro e w2 ⟨v2, rfl, ho2, hb2⟩; replace P1 := Lib.hid (show OwnI _ _ _ _ from own_below P1.out hb2); have P2 : Hid (OwnI w1.heap.size w2 v2 cl) := ho2; clear ho2; have HBa := Lib.hid (bel HB1.out hb2); clear c1; have ca := (old_of HBa.out).1; clear hb2)
      | (go_at_call 31; have hx := HWK; clear HWK; refine (kWeak_any N _ B _ (HBL.out.go HBa.out)).mono ?_; rw [hx.out]; rintro e w3 ⟨v3, rfl, ho3, hb3⟩; replace P1 := Lib.hid (show OwnI _ _ _ _ from own_below P1.out hb3); replace P2 := Lib.hid (show OwnI _ _ _ _ from own_below P2.out hb3); have ho3' : OwnI w2.heap.size w3 v3 K := ho3; have hi3 := ho3'.ints (by rw [HKL.out]; omega); rw [HKL.out] at hi3; obtain ⟨a3', z3', rfl⟩ : ∃ a c, v3 = .slice a kl c := (by obtain ⟨ao, cp, e, _⟩ := hi3; exact ⟨ao, cp, e⟩); have HI3 := Lib.hid hi3; clear ho3 ho3' hi3 hx; (try clear ca); have HB3 := Lib.hid (bel HBa.out hb3); have c3 := (old_of HB3.out).1; clear hb3)
      | (go_at_call 31; refine (kWeak_any _ _ T0 _ (HBT.out.go HB3.out)).mono ?_; rw [HWM.out]; rintro e w4 ⟨v4, rfl, ho4, hb4⟩; replace P1 := Lib.hid (show OwnI _ _ _ _ from own_below P1.out hb4); replace P2 := Lib.hid (show OwnI _ _ _ _ from own_below P2.out hb4); have ho4' : OwnI w3.heap.size w4 v4 M := ho4; have hi4 := ho4'.ints (by rw [HML.out]; omega); rw [HML.out] at hi4; obtain ⟨a4', z4', rfl⟩ : ∃ a c, v4 = .slice a kl c := (by obtain ⟨ao, cp, e, _⟩ := hi4; exact ⟨ao, cp, e⟩); have HI4 := Lib.hid hi4; have HI3' := Lib.hid (HI3.out.mono hb4 hb4.size); clear ho4 ho4' hi4; (try clear c3); have HB4 := Lib.hid (bel HB3.out hb4); have c4 := (old_of HB4.out).1; clear hb4)
      | (go_at_call 32; refine (sameInts_any w4.heap.size _ _ _ _ _ _ _ (P1.out.ints HCL.out) (P2.out.ints HCL.out)).mono ?_; rintro e w5 ⟨rfl, qE, hE⟩; rw [HSL.out]; have hb5 : Below w4.heap.size w4 w5 := (by rw [hE]; exact below_drewN (Below.refl _ _) _); have HI3'' := Lib.hid (HI3'.out.mono hb5 hb5.size); have HI4' := Lib.hid (HI4.out.mono hb5 hb5.size); clear P1 P2 hE; (try clear c4); have HB5 := Lib.hid (bel HB4.out hb5); have c5 := (old_of HB5.out).1; clear hb5))
    go_cut [] (fun wx => Hid (Below w5.heap.size w5 wx))
    case first =>
      as_aux_lemma =>
        have HZ5 : Hid (Below w5.heap.size w5 w5) := Below.refl _ _
        have t0' := (HB5.out.cell (p := ⟨w.heap.size + 1, 0, none⟩) hwH1).trans t0
        have hwt5 := Nat.lt_of_lt_of_le hwH1 HB5.out.size
        clear c5
        go_wp2_with fail
        go_loopw [23] (fun i wr => ∃ k : Nat, k ≤ kl ∧ i = .int .i64 k ∧ Hid (Below w5.heap.size w5 wr)) (fun i _ => kl - (intOf i).toNat)
        case atStart => exact ⟨0, Nat.zero_le _, rfl, HZ5⟩
        case round =>
          obtain ⟨k, hk, rfl, HBr⟩ := hrel
          by_cases hkn : k < kl
          · have hki : (k : Int) < (kl : Int) := by omega
            obtain ⟨a, ha1, han, hin⟩ := HKI.out k hkn
            obtain ⟨bk, ok, e, hbk, hrk⟩ := HI3''.out.cells (by omega)
            cases e
            have c0 := (HBr.out.cell (p := ⟨bk, ok + k, none⟩) hbk).trans (hrk k hkn)
            simp only [ha1] at c0
            have tt := (HBr.out.cell (p := ⟨w.heap.size + 1, 0, none⟩) hwt5).trans t0'
            obtain ⟨r, hr⟩ : ∃ r, rot B.ng kg a = r := ⟨_, rfl⟩
            rw [hr] at hin
            have HIN := Lib.hid hin
            have hrem : ((a : Int) + (kg : Int)).tmod (B.ng : Int) = (r : Int) := by rw [← hr, ← Int.natCast_add]; rfl
            have hwa : IntKind.i64.wrap ((a : Int) + (kg : Int)) = (a : Int) + (kg : Int) := IntWalk.i64_in _ (by omega)
            have n1 : ¬ (a : Int) < 0 := by omega
            have n1b : decide ((a : Int) < 0) = false := decide_eq_false (by omega)
            have n2 : ¬ (B.ng : Int) ≤ (a : Int) := by omega
            have n2b : decide ((B.ng : Int) ≤ (a : Int)) = false := decide_eq_false (by omega)
            have n2c : decide (B.ng ≤ a) = false := decide_eq_false (by omega)
            have HIr := Lib.hid (HI4'.out.mono (HBr.out.trans ((Below.refl w5.heap.size wr).drew)) (Nat.le_refl _))
            clear hr hin ha1 hrk
            go_wp2_with fail
            refine wp_region_held_drew (S := fun w' => w'.cell? ⟨bk, ok + k, none⟩ = some (.int .i64 a) ∧ w'.cell? ⟨w.heap.size + 1, 0, none⟩ = some (.int .i64 kg)) (by kernel_rfl) ⟨c0, tt⟩ (fun hHeld => ?_)
            (refine wpAnyH_take (i := 0) (v := ?_) rfl (by kernel_rfl) (by kernel_rfl) (by kernel_rfl) (fun _ _ _ h => h) (Or.inl ⟨by rfl, ?_⟩) (by assumption) ?_; rotate_left; (focus (intro w hSw; (try dsimp only at hSw); go_simp; (try with_reducible rfl))); (try simp only [List.getElem_toArray, List.getElem_cons_zero, List.getElem_cons_succ, Act.put, List.setIfInBounds_toArray, List.set_cons_zero, List.set_cons_succ])); (refine wpAnyH_take (i := 1) (v := ?_) rfl (by kernel_rfl) (by kernel_rfl) (by kernel_rfl) (fun _ _ _ h => h) (Or.inl ⟨by rfl, ?_⟩) (by assumption) ?_; rotate_left; (focus (intro w hSw; (try dsimp only at hSw); go_simp; (try with_reducible rfl))); (try simp only [List.getElem_toArray, List.getElem_cons_zero, List.getElem_cons_succ, Act.put, List.setIfInBounds_toArray, List.set_cons_zero, List.set_cons_succ])); (refine wpAnyH_take (i := 2) (v := ?_) rfl (by kernel_rfl) (by kernel_rfl) (by kernel_rfl) (fun _ _ _ h => h) (Or.inl ⟨by rfl, ?_⟩) (by assumption) ?_; rotate_left; (focus (intro w hSw; (try dsimp only at hSw); go_simp; (try with_reducible rfl))); (try simp only [List.getElem_toArray, List.getElem_cons_zero, List.getElem_cons_succ, Act.put, List.setIfInBounds_toArray, List.set_cons_zero, List.set_cons_succ])); (refine wpAnyH_take (i := 3) (v := ?_) rfl (by kernel_rfl) (by kernel_rfl) (by kernel_rfl) (fun _ _ _ h => h) (Or.inl ⟨by rfl, ?_⟩) (by assumption) ?_; rotate_left; (focus (intro w hSw; (try dsimp only at hSw); go_simp; (try with_reducible rfl))); (try simp only [List.getElem_toArray, List.getElem_cons_zero, List.getElem_cons_succ, Act.put, List.setIfInBounds_toArray, List.set_cons_zero, List.set_cons_succ])); (refine wpAnyH_take (i := 4) (v := ?_) rfl (by kernel_rfl) (by kernel_rfl) (by kernel_rfl) (fun _ _ _ h => h) (Or.inl ⟨by rfl, ?_⟩) (by assumption) ?_; rotate_left; (focus (intro w hSw; (try dsimp only at hSw); go_simp; (try with_reducible rfl))); (try simp only [List.getElem_toArray, List.getElem_cons_zero, List.getElem_cons_succ, Act.put, List.setIfInBounds_toArray, List.set_cons_zero, List.set_cons_succ])); (refine wpAnyH_take (i := 5) (v := ?_) rfl (by kernel_rfl) (by kernel_rfl) (by kernel_rfl) (fun _ _ _ h => h) (Or.inl ⟨by rfl, ?_⟩) (by assumption) ?_; rotate_left; (focus (intro w hSw; (try dsimp only at hSw); go_simp; (try with_reducible rfl))); (try simp only [List.getElem_toArray, List.getElem_cons_zero, List.getElem_cons_succ, Act.put, List.setIfInBounds_toArray, List.set_cons_zero, List.set_cons_succ])); (refine wpAnyH_take (i := 6) (v := ?_) rfl (by kernel_rfl) (by kernel_rfl) (by kernel_rfl) (fun _ _ _ h => h) (Or.inl ⟨by rfl, ?_⟩) (by assumption) ?_; rotate_left; (focus (intro w hSw; (try dsimp only at hSw); go_simp; (try with_reducible rfl))); (try simp only [List.getElem_toArray, List.getElem_cons_zero, List.getElem_cons_succ, Act.put, List.setIfInBounds_toArray, List.set_cons_zero, List.set_cons_succ])); (refine wpAnyH_take (i := 7) (v := ?_) rfl (by kernel_rfl) (by kernel_rfl) (by kernel_rfl) (fun _ _ _ h => h) (Or.inl ⟨by rfl, ?_⟩) (by assumption) ?_; rotate_left; (focus (intro w hSw; (try dsimp only at hSw); go_simp; (try with_reducible rfl))); (try simp only [List.getElem_toArray, List.getElem_cons_zero, List.getElem_cons_succ, Act.put, List.setIfInBounds_toArray, List.set_cons_zero, List.set_cons_succ])); (refine wpAnyH_take (i := 8) (v := ?_) rfl (by kernel_rfl) (by kernel_rfl) (by kernel_rfl) (fun _ _ _ h => h) (Or.inl ⟨by rfl, ?_⟩) (by assumption) ?_; rotate_left; (focus (intro w hSw; (try dsimp only at hSw); go_simp; (try with_reducible rfl))); (try simp only [List.getElem_toArray, List.getElem_cons_zero, List.getElem_cons_succ, Act.put, List.setIfInBounds_toArray, List.set_cons_zero, List.set_cons_succ])); (refine wpAnyH_take (i := 9) (v := ?_) rfl (by kernel_rfl) (by kernel_rfl) (by kernel_rfl) (fun _ _ _ h => h) (Or.inl ⟨by rfl, ?_⟩) (by assumption) ?_; rotate_left; (focus (intro w hSw; (try dsimp only at hSw); go_simp; (try with_reducible rfl))); (try simp only [List.getElem_toArray, List.getElem_cons_zero, List.getElem_cons_succ, Act.put, List.setIfInBounds_toArray, List.set_cons_zero, List.set_cons_succ])); (refine wpAnyH_take (i := 10) (v := ?_) rfl (by kernel_rfl) (by kernel_rfl) (by kernel_rfl) (fun _ _ _ h => h) (Or.inl ⟨by rfl, ?_⟩) (by assumption) ?_; rotate_left; (focus (intro w hSw; (try dsimp only at hSw); go_simp; (try with_reducible rfl))); (try simp only [List.getElem_toArray, List.getElem_cons_zero, List.getElem_cons_succ, Act.put, List.setIfInBounds_toArray, List.set_cons_zero, List.set_cons_succ])); (refine wpAnyH_take (i := 11) (v := ?_) rfl (by kernel_rfl) (by kernel_rfl) (by kernel_rfl) (fun _ _ _ h => h) (Or.inl ⟨by rfl, ?_⟩) (by assumption) ?_; rotate_left; (focus (intro w hSw; (try dsimp only at hSw); go_simp; (try with_reducible rfl))); (try simp only [List.getElem_toArray, List.getElem_cons_zero, List.getElem_cons_succ, Act.put, List.setIfInBounds_toArray, List.set_cons_zero, List.set_cons_succ])); (refine wpAnyH_take (i := 12) (v := ?_) rfl (by kernel_rfl) (by kernel_rfl) (by kernel_rfl) (fun _ _ _ h => h) (Or.inl ⟨by rfl, ?_⟩) (by assumption) ?_; rotate_left; (focus (intro w hSw; (try dsimp only at hSw); go_simp; (try with_reducible rfl))); (try simp only [List.getElem_toArray, List.getElem_cons_zero, List.getElem_cons_succ, Act.put, List.setIfInBounds_toArray, List.set_cons_zero, List.set_cons_succ])); (refine wpAnyH_take (i := 13) (v := ?_) rfl (by kernel_rfl) (by kernel_rfl) (by kernel_rfl) (fun _ _ _ h => h) (Or.inl ⟨by rfl, ?_⟩) (by assumption) ?_; rotate_left; (focus (intro w hSw; (try dsimp only at hSw); go_simp; (try with_reducible rfl))); (try simp only [List.getElem_toArray, List.getElem_cons_zero, List.getElem_cons_succ, Act.put, List.setIfInBounds_toArray, List.set_cons_zero, List.set_cons_succ])); (refine wpAnyH_take (i := 14) (v := ?_) rfl (by kernel_rfl) (by kernel_rfl) (by kernel_rfl) (fun _ _ _ h => h) (Or.inl ⟨by rfl, ?_⟩) (by assumption) ?_; rotate_left; (focus (intro w hSw; (try dsimp only at hSw); go_simp; (try with_reducible rfl))); (try simp only [List.getElem_toArray, List.getElem_cons_zero, List.getElem_cons_succ, Act.put, List.setIfInBounds_toArray, List.set_cons_zero, List.set_cons_succ])); (refine wpAnyH_take (i := 15) (v := ?_) rfl (by kernel_rfl) (by kernel_rfl) (by kernel_rfl) (fun _ _ _ h => h) (Or.inl ⟨by rfl, ?_⟩) (by assumption) ?_; rotate_left; (focus (intro w hSw; (try dsimp only at hSw); go_simp; (try with_reducible rfl))); (try simp only [List.getElem_toArray, List.getElem_cons_zero, List.getElem_cons_succ, Act.put, List.setIfInBounds_toArray, List.set_cons_zero, List.set_cons_succ])); (refine wpAnyH_take (i := 16) (v := ?_) rfl (by kernel_rfl) (by kernel_rfl) (by kernel_rfl) (fun _ _ _ h => h) (Or.inl ⟨by rfl, ?_⟩) (by assumption) ?_; rotate_left; (focus (intro w hSw; (try dsimp only at hSw); go_simp; (try with_reducible rfl))); (try simp only [List.getElem_toArray, List.getElem_cons_zero, List.getElem_cons_succ, Act.put, List.setIfInBounds_toArray, List.set_cons_zero, List.set_cons_succ])); (refine wpAnyH_take (i := 17) (v := ?_) rfl (by kernel_rfl) (by kernel_rfl) (by kernel_rfl) (fun _ _ _ h => h) (Or.inl ⟨by rfl, ?_⟩) (by assumption) ?_; rotate_left; (focus (intro w hSw; (try dsimp only at hSw); go_simp; (try with_reducible rfl))); (try simp only [List.getElem_toArray, List.getElem_cons_zero, List.getElem_cons_succ, Act.put, List.setIfInBounds_toArray, List.set_cons_zero, List.set_cons_succ])); (refine wpAnyH_take (i := 18) (v := ?_) rfl (by kernel_rfl) (by kernel_rfl) (by kernel_rfl) (fun _ _ _ h => h) (Or.inl ⟨by rfl, ?_⟩) (by assumption) ?_; rotate_left; (focus (intro w hSw; (try dsimp only at hSw); go_simp; (try with_reducible rfl))); (try simp only [List.getElem_toArray, List.getElem_cons_zero, List.getElem_cons_succ, Act.put, List.setIfInBounds_toArray, List.set_cons_zero, List.set_cons_succ])); (refine wpAnyH_take (i := 19) (v := ?_) rfl (by kernel_rfl) (by kernel_rfl) (by kernel_rfl) (fun _ _ _ h => h) (Or.inl ⟨by rfl, ?_⟩) (by assumption) ?_; rotate_left; (focus (intro w hSw; (try dsimp only at hSw); go_simp; (try with_reducible rfl))); (try simp only [List.getElem_toArray, List.getElem_cons_zero, List.getElem_cons_succ, Act.put, List.setIfInBounds_toArray, List.set_cons_zero, List.set_cons_succ])); (refine wpAnyH_take (i := 20) (v := ?_) rfl (by kernel_rfl) (by kernel_rfl) (by kernel_rfl) (fun _ _ _ h => h) (Or.inl ⟨by rfl, ?_⟩) (by assumption) ?_; rotate_left; (focus (intro w hSw; (try dsimp only at hSw); go_simp; (try with_reducible rfl))); (try simp only [List.getElem_toArray, List.getElem_cons_zero, List.getElem_cons_succ, Act.put, List.setIfInBounds_toArray, List.set_cons_zero, List.set_cons_succ])); (refine wpAnyH_take (i := 21) (v := ?_) rfl (by kernel_rfl) (by kernel_rfl) (by kernel_rfl) (fun _ _ _ h => h) (Or.inl ⟨by rfl, ?_⟩) (by assumption) ?_; rotate_left; (focus (intro w hSw; (try dsimp only at hSw); go_simp; (try with_reducible rfl))); (try simp only [List.getElem_toArray, List.getElem_cons_zero, List.getElem_cons_succ, Act.put, List.setIfInBounds_toArray, List.set_cons_zero, List.set_cons_succ])); (refine wpAnyH_take (i := 22) (v := ?_) rfl (by kernel_rfl) (by kernel_rfl) (by kernel_rfl) (fun _ _ _ h => h) (Or.inl ⟨by rfl, ?_⟩) (by assumption) ?_; rotate_left; (focus (intro w hSw; (try dsimp only at hSw); go_simp; (try with_reducible rfl))); (try simp only [List.getElem_toArray, List.getElem_cons_zero, List.getElem_cons_succ, Act.put, List.setIfInBounds_toArray, List.set_cons_zero, List.set_cons_succ])); (refine wpAnyH_take (i := 23) (v := ?_) rfl (by kernel_rfl) (by kernel_rfl) (by kernel_rfl) (fun _ _ _ h => h) (Or.inl ⟨by rfl, ?_⟩) (by assumption) ?_; rotate_left; (focus (intro w hSw; (try dsimp only at hSw); go_simp; (try with_reducible rfl))); (try simp only [List.getElem_toArray, List.getElem_cons_zero, List.getElem_cons_succ, Act.put, List.setIfInBounds_toArray, List.set_cons_zero, List.set_cons_succ]))
            refine wpAnyH_ready (rs := [24]) (by kernel_rfl) (by simp) ?_; refine AllReadyH.cons rfl (fun K hK => ?_) AllReadyH.nil; go_simp
            go_at_call 29
            refine (in_any _ _ kl _ _ _ HIr.out).mono ?_
            rintro e w' ⟨rfl, hw'⟩
            rw [hw', HIN.out]
            clear hw'
            refine hK.out _ _ ⟨c0, tt⟩ (fun hHeld => ?_)
            clear hK K
            (try simp only [List.getElem_toArray, List.getElem_cons_zero, List.getElem_cons_succ, Act.put, List.setIfInBounds_toArray, List.set_cons_zero, List.set_cons_succ])
            (refine wpAnyH_take (i := 25) (v := ?_) rfl (by kernel_rfl) (by kernel_rfl) (by kernel_rfl) (fun _ _ _ h => h) (Or.inl ⟨by rfl, ?_⟩) (by assumption) ?_; rotate_left; (focus (intro w hSw; (try dsimp only at hSw); go_simp; (try with_reducible rfl))); (try simp only [List.getElem_toArray, List.getElem_cons_zero, List.getElem_cons_succ, Act.put, List.setIfInBounds_toArray, List.set_cons_zero, List.set_cons_succ])); (refine wpAnyH_take (i := 26) (v := ?_) rfl (by kernel_rfl) (by kernel_rfl) (by kernel_rfl) (fun _ _ _ h => h) (Or.inl ⟨by rfl, ?_⟩) (by assumption) ?_; rotate_left; (focus (intro w hSw; (try dsimp only at hSw); go_simp; (try with_reducible rfl))); (try simp only [List.getElem_toArray, List.getElem_cons_zero, List.getElem_cons_succ, Act.put, List.setIfInBounds_toArray, List.set_cons_zero, List.set_cons_succ]))
            refine wpAnyH_done (by kernel_rfl) ?_ _; clear hHeld
            go_wp2
            go_roundw
            case rel => exact ⟨k + 1, by omega, by go_num, HBr.out.drew⟩
            case measure => simp [intOf]; omega
          · have hkk : k = kl := by omega
            subst hkk
            go_wp2_with fail
            go_meet
            exact HBr
    case rest =>
    obtain ⟨wI, hwI⟩ : ∃ wI, wI = wc := ⟨_, rfl⟩
    subst hwI
    have HBi : Hid (Below wH.heap.size wH wI) := bel HB5.out hcut.out
    have ci := (old_of HBi.out).1
    clear hcut HI3'' HI4' HKI c5
    go_upto_block 10 with (first
      | (go_at_call 15; have hx := HM1; clear HM1; refine (kMost_any N _ B _ (HBL.out.go HBi.out)).mono ?_; rw [hx.out]; clear hx; rintro e w6 ⟨rfl, hb6⟩; (try clear ci); have HB6 := Lib.hid (bel HBi.out hb6); have c6 := (old_of HB6.out).1; clear hb6)
      | (go_at_call 15; refine (kMost_any _ _ T1 _ (HBP.out.go HB6.out)).mono ?_; rw [HM2.out]; rintro e w7 ⟨rfl, hb7⟩; (try clear c6); have HB7 := Lib.hid (bel HB6.out hb7); have c7 := (old_of HB7.out).1; clear hb7)
      | (go_at_call 17; have hx := HS1; clear HS1; refine (kSafe_any N _ B _ (HBL.out.go HB7.out)).mono ?_; rw [hx.out]; clear hx; rintro e w8 ⟨rfl, hb8⟩; (try clear c7); have HB8 := Lib.hid (bel HB7.out hb8); have c8 := (old_of HB8.out).1; clear hb8)
      | (go_at_call 17; refine (kSafe_any _ _ T1 _ (HBP.out.go HB8.out)).mono ?_; rw [HS2.out]; rintro e w9 ⟨rfl, hb9⟩; (try clear c8); have HB9 := Lib.hid (bel HB8.out hb9); have c9 := (old_of HB9.out).1; clear hb9))
    clear c9
    have HZ9 : Hid (Below w9.heap.size w9 w9) := Below.refl _ _
    go_wp2_with fail
    go_loopw [28] (fun i wr => ∃ k : Nat, k ≤ B.ns ∧ i = .int .i64 k ∧ Hid (Below w9.heap.size w9 wr)) (fun i _ => B.ns - (intOf i).toNat)
    case atStart => exact ⟨0, Nat.zero_le _, rfl, HZ9⟩
    case round =>
      obtain ⟨k, hk, rfl, HBr⟩ := hrel
      have HBw : Hid (Below wH.heap.size wH wr) := bel HB9.out HBr.out
      by_cases hkn : k < B.ns
      · have hki : (k : Int) < (B.ns : Int) := by omega
        obtain ⟨ea, eb⟩ := HEA.out k hkn
        obtain ⟨al, hal⟩ : ∃ z, aloneN B k = z := ⟨_, rfl⟩
        obtain ⟨r, hr⟩ : ∃ r, rot B.ns ks k = r := ⟨_, rfl⟩
        rw [hal] at ea eb
        rw [hr] at eb
        have HA1 := Lib.hid ea
        have HA2 := Lib.hid eb
        have hrem : ((k : Int) + (ks : Int)).tmod (B.ns : Int) = (r : Int) := by rw [← hr, ← Int.natCast_add]; rfl
        have hwa : IntKind.i64.wrap ((k : Int) + (ks : Int)) = (k : Int) + (ks : Int) := IntWalk.i64_in _ (by omega)
        have cw := (old_of HBw.out).1
        clear ea eb hal hr
        go_upto_region 45 with (go_at_call 22; refine (kAlone_any N _ B _ _ (HBL.out.go HBw.out)).mono ?_; rw [HA1.out]; rintro e wa ⟨rfl, hba⟩; have HBa' := Lib.hid (bel HBw.out hba); have HRa := Lib.hid (bel HBr.out hba); clear hba cw)
        have HBad : Hid (Below wH.heap.size wH wa.drew) := HBa'.out.drew
        have Sad := old_of HBad.out
        refine wp_region_held_drew (S := (fun w' => (∀ b o, b < wH.heap.size → w'.cell? ⟨b, o, none⟩ = wH.cell? ⟨b, o, none⟩) ∧ Hid (Below wH.heap.size wH w'))) (by kernel_rfl) Sad (fun hHeld => ?_)
        (refine wpAnyH_take (i := 0) (v := ?_) rfl (by kernel_rfl) (by kernel_rfl) (by kernel_rfl) (fun _ _ _ h => h) (Or.inl ⟨by rfl, ?_⟩) (by assumption) ?_; rotate_left; (focus (intro w hSw; (try dsimp only at hSw); go_simp; (try with_reducible rfl))); (try simp only [List.getElem_toArray, List.getElem_cons_zero, List.getElem_cons_succ, Act.put, List.setIfInBounds_toArray, List.set_cons_zero, List.set_cons_succ])); (refine wpAnyH_take (i := 1) (v := ?_) rfl (by kernel_rfl) (by kernel_rfl) (by kernel_rfl) (fun _ _ _ h => h) (Or.inl ⟨by rfl, ?_⟩) (by assumption) ?_; rotate_left; (focus (intro w hSw; (try dsimp only at hSw); go_simp; (try with_reducible rfl))); (try simp only [List.getElem_toArray, List.getElem_cons_zero, List.getElem_cons_succ, Act.put, List.setIfInBounds_toArray, List.set_cons_zero, List.set_cons_succ])); (refine wpAnyH_take (i := 2) (v := ?_) rfl (by kernel_rfl) (by kernel_rfl) (by kernel_rfl) (fun _ _ _ h => h) (Or.inl ⟨by rfl, ?_⟩) (by assumption) ?_; rotate_left; (focus (intro w hSw; (try dsimp only at hSw); go_simp; (try with_reducible rfl))); (try simp only [List.getElem_toArray, List.getElem_cons_zero, List.getElem_cons_succ, Act.put, List.setIfInBounds_toArray, List.set_cons_zero, List.set_cons_succ])); (refine wpAnyH_take (i := 3) (v := ?_) rfl (by kernel_rfl) (by kernel_rfl) (by kernel_rfl) (fun _ _ _ h => h) (Or.inl ⟨by rfl, ?_⟩) (by assumption) ?_; rotate_left; (focus (intro w hSw; (try dsimp only at hSw); go_simp; (try with_reducible rfl))); (try simp only [List.getElem_toArray, List.getElem_cons_zero, List.getElem_cons_succ, Act.put, List.setIfInBounds_toArray, List.set_cons_zero, List.set_cons_succ])); (refine wpAnyH_take (i := 4) (v := ?_) rfl (by kernel_rfl) (by kernel_rfl) (by kernel_rfl) (fun _ _ _ h => h) (Or.inl ⟨by rfl, ?_⟩) (by assumption) ?_; rotate_left; (focus (intro w hSw; (try dsimp only at hSw); go_simp; (try with_reducible rfl))); (try simp only [List.getElem_toArray, List.getElem_cons_zero, List.getElem_cons_succ, Act.put, List.setIfInBounds_toArray, List.set_cons_zero, List.set_cons_succ])); (refine wpAnyH_take (i := 5) (v := ?_) rfl (by kernel_rfl) (by kernel_rfl) (by kernel_rfl) (fun _ _ _ h => h) (Or.inl ⟨by rfl, ?_⟩) (by assumption) ?_; rotate_left; (focus (intro w hSw; (try dsimp only at hSw); go_simp; (try with_reducible rfl))); (try simp only [List.getElem_toArray, List.getElem_cons_zero, List.getElem_cons_succ, Act.put, List.setIfInBounds_toArray, List.set_cons_zero, List.set_cons_succ])); (refine wpAnyH_take (i := 6) (v := ?_) rfl (by kernel_rfl) (by kernel_rfl) (by kernel_rfl) (fun _ _ _ h => h) (Or.inl ⟨by rfl, ?_⟩) (by assumption) ?_; rotate_left; (focus (intro w hSw; (try dsimp only at hSw); go_simp; (try with_reducible rfl))); (try simp only [List.getElem_toArray, List.getElem_cons_zero, List.getElem_cons_succ, Act.put, List.setIfInBounds_toArray, List.set_cons_zero, List.set_cons_succ]))
        refine wpAnyH_ready (rs := [7]) (by kernel_rfl) (by simp) ?_; refine AllReadyH.cons rfl (fun K hK => ?_) AllReadyH.nil; go_simp
        go_at_call 22
        refine (kAlone_any _ _ T1 _ _ (HBP.out.go HBad.out)).mono ?_
        rw [HA2.out]
        rintro e wb ⟨rfl, hbb⟩
        have Sb := old_of (bel HBad.out hbb)
        have HRb : Hid (Below w9.heap.size w9 wb) := bel HRa.out.drew hbb
        clear hbb
        refine hK.out _ _ Sb (fun hHeld => ?_); clear hK K; (try simp only [List.getElem_toArray, List.getElem_cons_zero, List.getElem_cons_succ, Act.put, List.setIfInBounds_toArray, List.set_cons_zero, List.set_cons_succ])
        (refine wpAnyH_take (i := 8) (v := ?_) rfl (by kernel_rfl) (by kernel_rfl) (by kernel_rfl) (fun _ _ _ h => h) (Or.inl ⟨by rfl, ?_⟩) (by assumption) ?_; rotate_left; (focus (intro w hSw; (try dsimp only at hSw); go_simp; (try with_reducible rfl))); (try simp only [List.getElem_toArray, List.getElem_cons_zero, List.getElem_cons_succ, Act.put, List.setIfInBounds_toArray, List.set_cons_zero, List.set_cons_succ])); (refine wpAnyH_take (i := 9) (v := ?_) rfl (by kernel_rfl) (by kernel_rfl) (by kernel_rfl) (fun _ _ _ h => h) (Or.inl ⟨by rfl, ?_⟩) (by assumption) ?_; rotate_left; (focus (intro w hSw; (try dsimp only at hSw); go_simp; (try with_reducible rfl))); (try simp only [List.getElem_toArray, List.getElem_cons_zero, List.getElem_cons_succ, Act.put, List.setIfInBounds_toArray, List.set_cons_zero, List.set_cons_succ])); (refine wpAnyH_take (i := 10) (v := ?_) rfl (by kernel_rfl) (by kernel_rfl) (by kernel_rfl) (fun _ _ _ h => h) (Or.inl ⟨by rfl, ?_⟩) (by assumption) ?_; rotate_left; (focus (intro w hSw; (try dsimp only at hSw); go_simp; (try with_reducible rfl))); (try simp only [List.getElem_toArray, List.getElem_cons_zero, List.getElem_cons_succ, Act.put, List.setIfInBounds_toArray, List.set_cons_zero, List.set_cons_succ])); (refine wpAnyH_take (i := 11) (v := ?_) rfl (by kernel_rfl) (by kernel_rfl) (by kernel_rfl) (fun _ _ _ h => h) (Or.inl ⟨by rfl, ?_⟩) (by assumption) ?_; rotate_left; (focus (intro w hSw; (try dsimp only at hSw); go_simp; (try with_reducible rfl))); (try simp only [List.getElem_toArray, List.getElem_cons_zero, List.getElem_cons_succ, Act.put, List.setIfInBounds_toArray, List.set_cons_zero, List.set_cons_succ])); (refine wpAnyH_take (i := 12) (v := ?_) rfl (by kernel_rfl) (by kernel_rfl) (by kernel_rfl) (fun _ _ _ h => h) (Or.inl ⟨by rfl, ?_⟩) (by assumption) ?_; rotate_left; (focus (intro w hSw; (try dsimp only at hSw); go_simp; (try with_reducible rfl))); (try simp only [List.getElem_toArray, List.getElem_cons_zero, List.getElem_cons_succ, Act.put, List.setIfInBounds_toArray, List.set_cons_zero, List.set_cons_succ]))
        refine wpAnyH_done (by kernel_rfl) ?_ _; clear hHeld
        clear Sb Sad
        go_wp2
        go_roundw
        case rel => exact ⟨k + 1, by omega, by go_num, HRb⟩
        case measure => simp [intOf]; omega
      · have hkk : k = B.ns := by omega
        subst hkk
        go_wp2_with (go_at_call 14; refine (works_any _).mono ?_; rintro e wE ⟨rfl, hbE⟩; have HBE := Lib.hid hbE; clear hbE)
        go_ret
        exact ⟨rfl, fin HB.out (bel HBH.out (bel HBw.out HBE.out))⟩

end Go.Proofs.Ytnnngbnimmcjiaa
