/-
  MarksOrder where all is valid.
-/
import Derived.Test.YtopajgnemeodeaaOrder8
import Derived.Test.YtopajgnemeodeaaOrder7
import Derived.Test.YtopajgnemeodeaaCWrong
namespace Go.Proofs.Ytopajgnemeodeaa
open Go.RowKit

set_option maxHeartbeats 8000000 in
set_option maxRecDepth 100000 in
theorem order_in (N : Nat) (v u : Value) (B : Bk) (R : Fr) (ts tm tf s t pf pm : Nat) (w : World) (h : BookAt N w v B) (hf : FruitsAt N w u R)
    (hr : rdy B R = true) (h1 : ts ≤ 100) (h2 : tm ≤ 100) (h3 : tf ≤ 100) (hs : s < B.ns) (ht : t < B.ns) (hpf : pf < R.n) (hpm : pm < B.nv) :
    Calls Try.prog 10 #[v, u, .agg #[.int .i64 ts, .int .i64 tm, .int .i64 tf, .int .i64 s, .int .i64 t, .int .i64 pf, .int .i64 pm]] w fun e w' => e = .returned (.bool true) ∧ Below w.heap.size w w' := by
  have h' := h
  obtain ⟨_, a1, c1, a2, c2, a3, c3, rfl, _⟩ := h'
  obtain ⟨ws, hws, HB, hsz, hsz1, hsz2, hblk, hblk1, hblk2⟩ := box3 w (.cells #[.slice a1 B.nv c1, .slice a2 B.nf c2, .slice a3 B.ns c3, .int .i64 B.wr] 25) (.cells #[.int .i64 ts, .int .i64 tm, .int .i64 tf, .int .i64 s, .int .i64 t, .int .i64 pf, .int .i64 pm] 79) (.cells #[.int .i64 ts, .int .i64 tm, .int .i64 tf] 77)
  have q0 := cell_blk hblk 0 rfl
  have q1 := cell_blk hblk 1 rfl
  have q2 := cell_blk hblk 2 rfl
  have q3 := cell_blk hblk 3 rfl
  have p0 := cell_blk hblk1 0 rfl
  have p1 := cell_blk hblk1 1 rfl
  have p2 := cell_blk hblk1 2 rfl
  have p3 := cell_blk hblk1 3 rfl
  have p4 := cell_blk hblk1 4 rfl
  have p5 := cell_blk hblk1 5 rfl
  have p6 := cell_blk hblk1 6 rfl
  have r0 := cell_blk hblk2 0 rfl
  have r1 := cell_blk hblk2 1 rfl
  have r2 := cell_blk hblk2 2 rfl
  obtain ⟨HBF, HB0⟩ := entry HB.out h hf
  clear hblk hblk1 hblk2 h hf
  obtain ⟨af, cf, rfl, hRn, _⟩ := id HBF.out.2
  have HNS : Hid (N ≤ ws.heap.size) := HBF.out.1.1
  have HR := Lib.hid hr
  have HS : Hid ((decide (0 ≤ (s : Int)) && decide ((s : Int) < (B.ns : Int))) = true) := by unfold Hid; simp; omega
  have HT : Hid ((decide (0 ≤ (t : Int)) && decide ((t : Int) < (B.ns : Int))) = true) := by unfold Hid; simp; omega
  have HP : Hid (inPlace B R (pf : Int) (pm : Int) = true) := by unfold Hid; simp [inPlace]; omega
  have HFACTS := Lib.hid (And.intro hs (And.intro ht (And.intro hpf hpm)))
  clear hr hs ht hpf hpm
  obtain ⟨mn, hmn⟩ : ∃ mn : Nat, mn = min (min ts tm) tf := ⟨_, rfl⟩
  obtain ⟨mx, hmx⟩ : ∃ mx : Nat, mx = max (max ts tm) tf := ⟨_, rfl⟩
  have hmx1 : ¬ (100 : Int) < (mx : Int) := by omega
  have hmn1 : ¬ (mn : Int) < 0 := by omega
  have dmx : decide ((100 : Int) < (mx : Int)) = false := decide_eq_false hmx1
  have dmn : decide ((mn : Int) < 0) = false := decide_eq_false hmn1
  have hmin3 : ∀ (a : Array TypeId) (b : TypeId) (W : World), (Builtin.min_ a b #[.int .i64 (ts : Int), .int .i64 (tm : Int), .int .i64 (tf : Int)]).run Try.prog W = .ok (.int .i64 (mn : Int)) W := fun a b W => by
    rw [run_min_int3]
    congr 2
    rw [hmn]
    repeat' split
    all_goals omega
  have hmax3 : ∀ (a : Array TypeId) (b : TypeId) (W : World), (Builtin.max_ a b #[.int .i64 (ts : Int), .int .i64 (tm : Int), .int .i64 (tf : Int)]).run Try.prog W = .ok (.int .i64 (mx : Int)) W := fun a b W => by
    rw [run_max_int3]
    congr 2
    rw [hmx]
    repeat' split
    all_goals omega
  have H100 : Hid (ts ≤ 100 ∧ tm ≤ 100 ∧ tf ≤ 100) := ⟨h1, h2, h3⟩
  clear hmn hmx hmx1 hmn1 h1 h2 h3
  go_enter Try.func10, Try.ntmps10
  go_upto_region 2 with fail
  go_cut [72] (fun c wx => c = .bool false ∧ Hid (Below ws.heap.size ws wx))
  case first =>
    as_aux_lemma =>
      go_wp2_with (first
        | (go_at_call 44; refine (ready_any N _ _ B R _ (HBF.out.go HB0.out).1 (HBF.out.go HB0.out).2).mono ?_; rintro e w1 ⟨rfl, hb1⟩; rw [HR.out]; (try clear c0); have HB1 := Lib.hid (bel HB0.out hb1); have c1 := (old_of HB1.out).1; clear hb1)
        | (go_at_call 54; have _t := HB2; refine (isSort_any N _ B t _ (HBF.out.go HB2.out).1).mono ?_; rintro e w3 ⟨rfl, hb3⟩; rw [HT.out]; (try clear c2); have HB3 := Lib.hid (bel HB2.out hb3); have c3 := (old_of HB3.out).1; clear hb3)
        | (go_at_call 54; refine (isSort_any N _ B s _ (HBF.out.go HB1.out).1).mono ?_; rintro e w2 ⟨rfl, hb2⟩; rw [HS.out]; (try clear c1); have HB2 := Lib.hid (bel HB1.out hb2); have c2 := (old_of HB2.out).1; clear hb2)
        | (go_at_call 49; refine (isPlace_any N _ _ B R pf pm _ (HBF.out.go HB3.out).1 (HBF.out.go HB3.out).2).mono ?_; rintro e w4 ⟨rfl, hb4⟩; rw [HP.out]; (try clear c3); have HB4 := Lib.hid (bel HB3.out hb4); have c4 := (old_of HB4.out).1; clear hb4))
      all_goals
        go_meet
        exact ⟨by first | rfl | (simp; done) | (simp; omega) | (congr 1; simp; omega), HB4⟩
  case rest =>
  obtain ⟨rfl, HBc⟩ := hcut
  have cc := (old_of HBc.out).1
  clear hws hmin3 hmax3 dmn dmx
  obtain ⟨w1, rfl⟩ : ∃ w1, w1 = wc := ⟨wc, rfl⟩
  have Scd := old_of HBc.out.drew; have HBcd := Scd.2
  obtain ⟨hs, ht, hpf, hpm⟩ := HFACTS.out
  have HG := Lib.hid (rdy_parts HR.out).2.2
  have HOK := Lib.hid (rdy_parts HR.out).2.1
  have HCK := Lib.hid (rdy_parts HR.out).1
  have HG0 : Hid (Good B R0) := good_of HOK.out (by simp [okFruits, allB, R0])
  have HPV : Hid (0 < B.nv ∧ 0 < B.ns ∧ 0 < R.n) := ⟨by omega, by omega, by omega⟩
  have HLF : Hid (R.n ≤ 1000 ∧ ∀ f, f < R.n → R.L f ≤ 1000) := ⟨by have := HG.out.n; omega, fun f hf => by rw [HG.out.L f hf]; have := HG.out.nv; omega⟩
  obtain ⟨T, hT⟩ : ∃ T, turnB B ts tm = T := ⟨_, rfl⟩
  obtain ⟨Q, hQ⟩ : ∃ Q, turnF R B.nv tf tm = Q := ⟨_, rfl⟩
  have HT1 := Lib.hid hT
  have HQ1 := Lib.hid hQ
  clear hs ht hpf hpm hT hQ
  go_upto_region 4 with fail
  go_cut [8, 9] (fun so sl wx => ∃ (gz : Nat) (e1 e2 e3 : Option Addr) (g1 g2 g3 : Nat) (vl : Value), so = .pointer (some ⟨gz, 0, none⟩) ∧ sl = vl ∧ ws.heap.size ≤ gz ∧ Hid (wx.heap[gz]? = some (Obj.cells #[.slice e1 T.nv g1, .slice e2 T.nf g2, .slice e3 T.ns g3, .int .i64 T.wr] 25 (0, 0))) ∧ Hid (BookAt wx.heap.size wx (.agg #[.slice e1 T.nv g1, .slice e2 T.nf g2, .slice e3 T.ns g3, .int .i64 T.wr]) T) ∧ Hid (FruitsAt wx.heap.size wx vl Q) ∧ Hid (Below ws.heap.size ws wx))
  case first =>
    as_aux_lemma =>
      refine wp_region_held_drew (S := (fun w' => (∀ b o, b < ws.heap.size → w'.cell? ⟨b, o, none⟩ = ws.cell? ⟨b, o, none⟩) ∧ Hid (Below ws.heap.size ws w'))) (by kernel_rfl) Scd (fun hHeld => ?_)
      (refine wpAnyH_take (i := 0) (v := ?_) rfl (by kernel_rfl) (by kernel_rfl) (by kernel_rfl) (fun _ _ _ h => h) (Or.inl ⟨by rfl, ?_⟩) (by assumption) ?_; rotate_left; (focus (intro w hSw; (try dsimp only at hSw); go_simp; (try with_reducible rfl))); (try simp only [List.getElem_toArray, List.getElem_cons_zero, List.getElem_cons_succ, Act.put, List.setIfInBounds_toArray, List.set_cons_zero, List.set_cons_succ])); (refine wpAnyH_take (i := 1) (v := ?_) rfl (by kernel_rfl) (by kernel_rfl) (by kernel_rfl) (fun _ _ _ h => h) (Or.inl ⟨by rfl, ?_⟩) (by assumption) ?_; rotate_left; (focus (intro w hSw; (try dsimp only at hSw); go_simp; (try with_reducible rfl))); (try simp only [List.getElem_toArray, List.getElem_cons_zero, List.getElem_cons_succ, Act.put, List.setIfInBounds_toArray, List.set_cons_zero, List.set_cons_succ]))
      (refine wpAnyH_take (i := 3) (v := ?_) rfl (by kernel_rfl) (by kernel_rfl) (by kernel_rfl) (fun _ _ _ h => h) (Or.inl ⟨by rfl, ?_⟩) (by assumption) ?_; rotate_left; (focus (intro w hSw; (try dsimp only at hSw); go_simp; (try with_reducible rfl))); (try simp only [List.getElem_toArray, List.getElem_cons_zero, List.getElem_cons_succ, Act.put, List.setIfInBounds_toArray, List.set_cons_zero, List.set_cons_succ])); (refine wpAnyH_take (i := 4) (v := ?_) rfl (by kernel_rfl) (by kernel_rfl) (by kernel_rfl) (fun _ _ _ h => h) (Or.inl ⟨by rfl, ?_⟩) (by assumption) ?_; rotate_left; (focus (intro w hSw; (try dsimp only at hSw); go_simp; (try with_reducible rfl))); (try simp only [List.getElem_toArray, List.getElem_cons_zero, List.getElem_cons_succ, Act.put, List.setIfInBounds_toArray, List.set_cons_zero, List.set_cons_succ])); (refine wpAnyH_take (i := 5) (v := ?_) rfl (by kernel_rfl) (by kernel_rfl) (by kernel_rfl) (fun _ _ _ h => h) (Or.inl ⟨by rfl, ?_⟩) (by assumption) ?_; rotate_left; (focus (intro w hSw; (try dsimp only at hSw); go_simp; (try with_reducible rfl))); (try simp only [List.getElem_toArray, List.getElem_cons_zero, List.getElem_cons_succ, Act.put, List.setIfInBounds_toArray, List.set_cons_zero, List.set_cons_succ]))
      refine wpAnyH_ready (rs := [2, 7]) (by kernel_rfl) (by simp) ?_; refine AllReadyH.cons rfl (fun K hK => ?_) (AllReadyH.cons rfl (fun K hK => ?_) AllReadyH.nil)
      · go_simp
        go_at_call 57
        refine (turnedBook_any N _ B ts tm tf _ (HBF.out.go HBcd.out).1 HG0.out H100.out.2.1 H100.out.1 HPV.out.1 HPV.out.2.1).mono ?_
        rintro e w2 ⟨v2, rfl, hk2, hb2⟩
        rw [HT1.out] at hk2
        obtain ⟨_, e1, g1, e2, g2, e3, g3, rfl, _⟩ := id hk2.book
        have HK2 := Lib.hid hk2
        have HC2 := Lib.hid hb2
        have S2 := old_of (bel HBcd.out hb2)
        have HB2 := S2.2
        clear hk2 hb2
        refine hK.out _ _ S2 (fun hHeld => ?_); clear hK K; (try simp only [List.getElem_toArray, List.getElem_cons_zero, List.getElem_cons_succ, Act.put, List.setIfInBounds_toArray, List.set_cons_zero, List.set_cons_succ])
        refine wpAnyH_ready (rs := [6, 7]) (by kernel_rfl) (by simp) ?_; refine AllReadyH.cons rfl (fun K hK => ?_) (AllReadyH.cons rfl (fun K hK => ?_) AllReadyH.nil)
        · go_simp
          go_at_call 58
          refine (turnedFruits_any N _ _ B R ts tm tf _ (HBF.out.go HB2.out).1 (HBF.out.go HB2.out).2 HG.out H100.out.2.1 H100.out.2.2).mono ?_
          rintro e w3 ⟨v3, rfl, hr3, hb3⟩
          rw [HQ1.out] at hr3
          obtain ⟨a3', c3', rfl⟩ := hr3.form
          have HR3 := Lib.hid hr3
          have HC3 := Lib.hid hb3
          have S3 := old_of (bel HB2.out hb3)
          have HB3 := S3.2
          clear hr3 hb3
          refine hK.out _ _ S3 (fun hHeld => ?_); clear hK K; (try simp only [List.getElem_toArray, List.getElem_cons_zero, List.getElem_cons_succ, Act.put, List.setIfInBounds_toArray, List.set_cons_zero, List.set_cons_succ])
          refine wpAnyH_ready (rs := [7]) (by kernel_rfl) (by simp) ?_; refine AllReadyH.cons rfl (fun K hK => ?_) AllReadyH.nil; go_simp
          obtain ⟨w8, hw8⟩ : ∃ w8 : World, w3.alloc (.cells #[.slice none 0 0, .slice none 0 0, .slice none 0 0, .int .i64 0] 25) = w8 := ⟨_, rfl⟩
          rw [hw8]
          have hb8 : Below w3.heap.size w3 w8 := (by rw [← hw8]; exact below_alloc (Nat.le_refl _) _)
          have HZ : Hid (w8.heap[w3.heap.size]? = some (Obj.cells #[.slice none 0 0, .slice none 0 0, .slice none 0 0, .int .i64 0] 25 (0, 0))) := (by rw [← hw8]; exact World.alloc_heap_new _ _)
          have HGZ : Hid (ws.heap.size ≤ w3.heap.size) := HB3.out.size
          have HC8 := Lib.hid hb8
          have S8 := old_of (bel HB3.out hb8)
          have HB8 := S8.2
          obtain ⟨gz, hgz⟩ : ∃ gz, w3.heap.size = gz := ⟨_, rfl⟩
          rw [hgz] at HZ HGZ ⊢
          clear hw8 hgz hb8
          refine hK.out _ _ S8 (fun hHeld => ?_); clear hK K; (try simp only [List.getElem_toArray, List.getElem_cons_zero, List.getElem_cons_succ, Act.put, List.setIfInBounds_toArray, List.set_cons_zero, List.set_cons_succ])
          have HZ2 := HZ
          have HK8 := Lib.hid (HK2.out.grow (bel HC3.out HC8.out))
          have HR8 := Lib.hid ((HR3.out.grow HC8.out).wider HC8.out.size)
          have hzf := frozen_blk HZ2.out
          have hz0 := cell_blk HZ2.out 0 rfl
          have hz1 := cell_blk HZ2.out 1 rfl
          have hz2 := cell_blk HZ2.out 2 rfl
          have hz3 := cell_blk HZ2.out 3 rfl
          refine wpAnyH_ready (rs := [8]) (by kernel_rfl) (by simp) ?_; refine AllReadyH.cons rfl (fun K hK => ?_) AllReadyH.nil; go_simp
          obtain ⟨w9, hw9⟩ : ∃ w9 : World, ((((w8.setCell ⟨gz, 0, none⟩ (.slice e1 T.nv g1)).setCell ⟨gz, 1, none⟩ (.slice e2 T.nf g2)).setCell ⟨gz, 2, none⟩ (.slice e3 T.ns g3)).setCell ⟨gz, 3, none⟩ (.int .i64 T.wr)) = w9 := ⟨_, rfl⟩
          rw [hw9]
          obtain ⟨f1, f2, f3, f4⟩ := put_book HZ2.out HK8.out HR8.out HLF.out.1 HLF.out.2 hw9
          have F1 := Lib.hid f1
          have F2 := Lib.hid f2
          have F3 : Hid (FruitsAt w9.heap.size w9 _ Q) := (by rw [← HQ1.out]; rw [← HQ1.out] at f3; exact f3)
          have S9 := old_of (HB8.out.trans (f4 _ HGZ.out))
          have HB9 := S9.2
          clear hw9 f1 f2 f3 f4 hzf hz0 hz1 hz2 hz3
          refine hK.out _ _ S9 (fun hHeld => ?_); clear hK K; (try simp only [List.getElem_toArray, List.getElem_cons_zero, List.getElem_cons_succ, Act.put, List.setIfInBounds_toArray, List.set_cons_zero, List.set_cons_succ])
          (refine wpAnyH_take (i := 9) (v := ?_) rfl (by kernel_rfl) (by kernel_rfl) (by kernel_rfl) (fun _ _ _ h => h) (Or.inl ⟨by rfl, ?_⟩) (by assumption) ?_; rotate_left; (focus (intro w hSw; (try dsimp only at hSw); go_simp; (try with_reducible rfl))); (try simp only [List.getElem_toArray, List.getElem_cons_zero, List.getElem_cons_succ, Act.put, List.setIfInBounds_toArray, List.set_cons_zero, List.set_cons_succ]))
          refine wpAnyH_done (by kernel_rfl) ?_ _; clear hHeld
          go_wp2_with fail
          go_meet
          exact ⟨gz, e1, e2, e3, g1, g2, g3, _, rfl, rfl, HGZ.out, F1, F2, F3, HB9⟩
        · go_simp
          obtain ⟨w7, hw7⟩ : ∃ w7 : World, w2.alloc (.cells #[.slice none 0 0, .slice none 0 0, .slice none 0 0, .int .i64 0] 25) = w7 := ⟨_, rfl⟩
          rw [hw7]
          have hb7 : Below w2.heap.size w2 w7 := (by rw [← hw7]; exact below_alloc (Nat.le_refl _) _)
          have HZ : Hid (w7.heap[w2.heap.size]? = some (Obj.cells #[.slice none 0 0, .slice none 0 0, .slice none 0 0, .int .i64 0] 25 (0, 0))) := (by rw [← hw7]; exact World.alloc_heap_new _ _)
          have HGZ : Hid (ws.heap.size ≤ w2.heap.size) := HB2.out.size
          have HC7 := Lib.hid hb7
          have S7 := old_of (bel HB2.out hb7)
          have HB7 := S7.2
          obtain ⟨gz, hgz⟩ : ∃ gz, w2.heap.size = gz := ⟨_, rfl⟩
          rw [hgz] at HZ HGZ ⊢
          clear hw7 hgz hb7
          refine hK.out _ _ S7 (fun hHeld => ?_); clear hK K; (try simp only [List.getElem_toArray, List.getElem_cons_zero, List.getElem_cons_succ, Act.put, List.setIfInBounds_toArray, List.set_cons_zero, List.set_cons_succ])
          refine wpAnyH_ready (rs := [6]) (by kernel_rfl) (by simp) ?_; refine AllReadyH.cons rfl (fun K hK => ?_) AllReadyH.nil; go_simp
          go_at_call 58
          refine (turnedFruits_any N _ _ B R ts tm tf _ (HBF.out.go HB7.out).1 (HBF.out.go HB7.out).2 HG.out H100.out.2.1 H100.out.2.2).mono ?_
          rintro e w8 ⟨v3, rfl, hr3, hb8⟩
          rw [HQ1.out] at hr3
          obtain ⟨a3', c3', rfl⟩ := hr3.form
          have HR3 := Lib.hid hr3
          have HC8 := Lib.hid hb8
          have S8 := old_of (bel HB7.out hb8)
          have HB8 := S8.2
          clear hr3 hb8
          refine hK.out _ _ S8 (fun hHeld => ?_); clear hK K; (try simp only [List.getElem_toArray, List.getElem_cons_zero, List.getElem_cons_succ, Act.put, List.setIfInBounds_toArray, List.set_cons_zero, List.set_cons_succ])
          have HZ2 := Lib.hid (keep_blk HC8.out HZ.out)
          have HK8 := Lib.hid (HK2.out.grow (bel HC7.out HC8.out))
          have HR8 := HR3
          have hzf := frozen_blk HZ2.out
          have hz0 := cell_blk HZ2.out 0 rfl
          have hz1 := cell_blk HZ2.out 1 rfl
          have hz2 := cell_blk HZ2.out 2 rfl
          have hz3 := cell_blk HZ2.out 3 rfl
          refine wpAnyH_ready (rs := [8]) (by kernel_rfl) (by simp) ?_; refine AllReadyH.cons rfl (fun K hK => ?_) AllReadyH.nil; go_simp
          obtain ⟨w9, hw9⟩ : ∃ w9 : World, ((((w8.setCell ⟨gz, 0, none⟩ (.slice e1 T.nv g1)).setCell ⟨gz, 1, none⟩ (.slice e2 T.nf g2)).setCell ⟨gz, 2, none⟩ (.slice e3 T.ns g3)).setCell ⟨gz, 3, none⟩ (.int .i64 T.wr)) = w9 := ⟨_, rfl⟩
          rw [hw9]
          obtain ⟨f1, f2, f3, f4⟩ := put_book HZ2.out HK8.out HR8.out HLF.out.1 HLF.out.2 hw9
          have F1 := Lib.hid f1
          have F2 := Lib.hid f2
          have F3 : Hid (FruitsAt w9.heap.size w9 _ Q) := (by rw [← HQ1.out]; rw [← HQ1.out] at f3; exact f3)
          have S9 := old_of (HB8.out.trans (f4 _ HGZ.out))
          have HB9 := S9.2
          clear hw9 f1 f2 f3 f4 hzf hz0 hz1 hz2 hz3
          refine hK.out _ _ S9 (fun hHeld => ?_); clear hK K; (try simp only [List.getElem_toArray, List.getElem_cons_zero, List.getElem_cons_succ, Act.put, List.setIfInBounds_toArray, List.set_cons_zero, List.set_cons_succ])
          (refine wpAnyH_take (i := 9) (v := ?_) rfl (by kernel_rfl) (by kernel_rfl) (by kernel_rfl) (fun _ _ _ h => h) (Or.inl ⟨by rfl, ?_⟩) (by assumption) ?_; rotate_left; (focus (intro w hSw; (try dsimp only at hSw); go_simp; (try with_reducible rfl))); (try simp only [List.getElem_toArray, List.getElem_cons_zero, List.getElem_cons_succ, Act.put, List.setIfInBounds_toArray, List.set_cons_zero, List.set_cons_succ]))
          refine wpAnyH_done (by kernel_rfl) ?_ _; clear hHeld
          go_wp2_with fail
          go_meet
          exact ⟨gz, e1, e2, e3, g1, g2, g3, _, rfl, rfl, HGZ.out, F1, F2, F3, HB9⟩
      · go_simp
        obtain ⟨w7, hw7⟩ : ∃ w7 : World, (w1.alloc (.cells #[.slice none 0 0, .slice none 0 0, .slice none 0 0, .int .i64 0] 25)).drew = w7 := ⟨_, rfl⟩
        rw [hw7]
        have hb7 : Below w1.heap.size w1 w7 := (by rw [← hw7]; exact (below_alloc (Nat.le_refl _) _).drew)
        have HZ : Hid (w7.heap[w1.heap.size]? = some (Obj.cells #[.slice none 0 0, .slice none 0 0, .slice none 0 0, .int .i64 0] 25 (0, 0))) := (by rw [← hw7]; exact World.alloc_heap_new _ _)
        have HGZ : Hid (ws.heap.size ≤ w1.heap.size) := HBc.out.size
        have HC7 := Lib.hid hb7
        have S7 := old_of (bel HBc.out hb7)
        have HB7 := S7.2
        obtain ⟨gz, hgz⟩ : ∃ gz, w1.heap.size = gz := ⟨_, rfl⟩
        rw [hgz] at HZ HGZ ⊢
        clear hw7 hgz hb7
        refine hK.out _ _ S7 (fun hHeld => ?_); clear hK K; (try simp only [List.getElem_toArray, List.getElem_cons_zero, List.getElem_cons_succ, Act.put, List.setIfInBounds_toArray, List.set_cons_zero, List.set_cons_succ])
        refine wpAnyH_ready (rs := [2]) (by kernel_rfl) (by simp) ?_; refine AllReadyH.cons rfl (fun K hK => ?_) AllReadyH.nil; go_simp
        go_at_call 57
        refine (turnedBook_any N _ B ts tm tf _ (HBF.out.go HB7.out).1 HG0.out H100.out.2.1 H100.out.1 HPV.out.1 HPV.out.2.1).mono ?_
        rintro e w2 ⟨v2, rfl, hk2, hb2⟩
        rw [HT1.out] at hk2
        obtain ⟨_, e1, g1, e2, g2, e3, g3, rfl, _⟩ := id hk2.book
        have HK2 := Lib.hid hk2
        have HC2 := Lib.hid hb2
        have S2 := old_of (bel HB7.out hb2)
        have HB2 := S2.2
        clear hk2 hb2
        refine hK.out _ _ S2 (fun hHeld => ?_); clear hK K; (try simp only [List.getElem_toArray, List.getElem_cons_zero, List.getElem_cons_succ, Act.put, List.setIfInBounds_toArray, List.set_cons_zero, List.set_cons_succ])
        refine wpAnyH_ready (rs := [6]) (by kernel_rfl) (by simp) ?_; refine AllReadyH.cons rfl (fun K hK => ?_) AllReadyH.nil; go_simp
        go_at_call 58
        refine (turnedFruits_any N _ _ B R ts tm tf _ (HBF.out.go HB2.out).1 (HBF.out.go HB2.out).2 HG.out H100.out.2.1 H100.out.2.2).mono ?_
        rintro e w8 ⟨v3, rfl, hr3, hb8⟩
        rw [HQ1.out] at hr3
        obtain ⟨a3', c3', rfl⟩ := hr3.form
        have HR3 := Lib.hid hr3
        have HC8 := Lib.hid hb8
        have S8 := old_of (bel HB2.out hb8)
        have HB8 := S8.2
        clear hr3 hb8
        refine hK.out _ _ S8 (fun hHeld => ?_); clear hK K; (try simp only [List.getElem_toArray, List.getElem_cons_zero, List.getElem_cons_succ, Act.put, List.setIfInBounds_toArray, List.set_cons_zero, List.set_cons_succ])
        have HZ2 := Lib.hid (keep_blk (bel HC2.out HC8.out) HZ.out)
        have HK8 := Lib.hid (HK2.out.grow HC8.out)
        have HR8 := HR3
        have hzf := frozen_blk HZ2.out
        have hz0 := cell_blk HZ2.out 0 rfl
        have hz1 := cell_blk HZ2.out 1 rfl
        have hz2 := cell_blk HZ2.out 2 rfl
        have hz3 := cell_blk HZ2.out 3 rfl
        refine wpAnyH_ready (rs := [8]) (by kernel_rfl) (by simp) ?_; refine AllReadyH.cons rfl (fun K hK => ?_) AllReadyH.nil; go_simp
        obtain ⟨w9, hw9⟩ : ∃ w9 : World, ((((w8.setCell ⟨gz, 0, none⟩ (.slice e1 T.nv g1)).setCell ⟨gz, 1, none⟩ (.slice e2 T.nf g2)).setCell ⟨gz, 2, none⟩ (.slice e3 T.ns g3)).setCell ⟨gz, 3, none⟩ (.int .i64 T.wr)) = w9 := ⟨_, rfl⟩
        rw [hw9]
        obtain ⟨f1, f2, f3, f4⟩ := put_book HZ2.out HK8.out HR8.out HLF.out.1 HLF.out.2 hw9
        have F1 := Lib.hid f1
        have F2 := Lib.hid f2
        have F3 : Hid (FruitsAt w9.heap.size w9 _ Q) := (by rw [← HQ1.out]; rw [← HQ1.out] at f3; exact f3)
        have S9 := old_of (HB8.out.trans (f4 _ HGZ.out))
        have HB9 := S9.2
        clear hw9 f1 f2 f3 f4 hzf hz0 hz1 hz2 hz3
        refine hK.out _ _ S9 (fun hHeld => ?_); clear hK K; (try simp only [List.getElem_toArray, List.getElem_cons_zero, List.getElem_cons_succ, Act.put, List.setIfInBounds_toArray, List.set_cons_zero, List.set_cons_succ])
        (refine wpAnyH_take (i := 9) (v := ?_) rfl (by kernel_rfl) (by kernel_rfl) (by kernel_rfl) (fun _ _ _ h => h) (Or.inl ⟨by rfl, ?_⟩) (by assumption) ?_; rotate_left; (focus (intro w hSw; (try dsimp only at hSw); go_simp; (try with_reducible rfl))); (try simp only [List.getElem_toArray, List.getElem_cons_zero, List.getElem_cons_succ, Act.put, List.setIfInBounds_toArray, List.set_cons_zero, List.set_cons_succ]))
        refine wpAnyH_done (by kernel_rfl) ?_ _; clear hHeld
        go_wp2_with fail
        go_meet
        exact ⟨gz, e1, e2, e3, g1, g2, g3, _, rfl, rfl, HGZ.out, F1, F2, F3, HB9⟩
  case rest =>
  obtain ⟨gz, e1, e2, e3, g1, g2, g3, vl, rfl, rfl, hgz, HX4, HK4, HFR4, HB4⟩ := hcut
  clear HBc cc Scd HBcd
  obtain ⟨w4, rfl⟩ : ∃ w4, w4 = wc := ⟨wc, rfl⟩
  have c4 := (old_of HB4.out).1
  obtain ⟨hs, ht, hpf, hpm⟩ := HFACTS.out
  obtain ⟨hts, htm, htf⟩ := H100.out
  have hns := HG.out.ns
  have hnv := HG.out.nv
  have hrn := HG.out.n
  obtain ⟨s2, hs2⟩ : ∃ s2, (s + ts) % B.ns = s2 := ⟨_, rfl⟩
  obtain ⟨t2, ht2⟩ : ∃ t2, (t + ts) % B.ns = t2 := ⟨_, rfl⟩
  obtain ⟨f2, hf2⟩ : ∃ f2, (pf + tf) % R.n = f2 := ⟨_, rfl⟩
  obtain ⟨m2, hm2⟩ : ∃ m2, (pm + tm) % B.nv = m2 := ⟨_, rfl⟩
  have k1 : Int.tmod (IntKind.i64.wrap ((s : Int) + (ts : Int))) (B.ns : Int) = (s2 : Int) := by rw [← hs2]; exact tmod_nat _ _ _ (by omega)
  have k2 : Int.tmod (IntKind.i64.wrap ((t : Int) + (ts : Int))) (B.ns : Int) = (t2 : Int) := by rw [← ht2]; exact tmod_nat _ _ _ (by omega)
  have k3 : Int.tmod (IntKind.i64.wrap ((pf : Int) + (tf : Int))) (R.n : Int) = (f2 : Int) := by rw [← hf2]; exact tmod_nat _ _ _ (by omega)
  have k4 : Int.tmod (IntKind.i64.wrap ((pm : Int) + (tm : Int))) (B.nv : Int) = (m2 : Int) := by rw [← hm2]; exact tmod_nat _ _ _ (by omega)
  have n1 : ¬ B.ns = 0 := by omega
  have n2 : ¬ B.nv = 0 := by omega
  have n3 : ¬ R.n = 0 := by omega
  obtain ⟨pw, hpw⟩ : ∃ p, eWrong B R (s2 : Int) = p := ⟨_, rfl⟩
  obtain ⟨pfe, hpfe⟩ : ∃ p, eFewest B R = p := ⟨_, rfl⟩
  obtain ⟨pis, hpis⟩ : ∃ p, eIs B R (s2 : Int) = p := ⟨_, rfl⟩
  obtain ⟨paf, hpaf⟩ : ∃ p, eAfter B R (f2 : Int) (m2 : Int) = p := ⟨_, rfl⟩
  obtain ⟨lv, ev, hlv⟩ : ∃ l e, eValues B R (f2 : Int) (m2 : Int) = (l, e) := ⟨_, _, rfl⟩
  have HW2 : Hid (eWrong T Q (s : Int) = pw) := by unfold Hid; rw [← hpw, ← HT1.out, ← HQ1.out, eWrong_t HCK.out HOK.out hs, hs2]
  have HF2 : Hid (eFewest T Q = pfe) := by unfold Hid; rw [← hpfe, ← HT1.out, ← HQ1.out, eFewest_t HCK.out HOK.out (by omega)]
  have HI2 : Hid (eIs T Q (s : Int) = pis) := by unfold Hid; rw [← hpis, ← HT1.out, ← HQ1.out, eIs_t HCK.out HOK.out hs, hs2]
  have HA2 : Hid (eAfter T Q (pf : Int) (pm : Int) = paf) := by unfold Hid; rw [← hpaf, ← HT1.out, ← HQ1.out, eAfter_t HCK.out HOK.out hpf hpm, hf2, hm2]
  have HV2 : Hid (eValues T Q (pf : Int) (pm : Int) = (lv, ev)) := by unfold Hid; rw [← hlv, ← HT1.out, ← HQ1.out, eValues_t HCK.out HOK.out hpf hpm, hf2, hm2]
  have HW1 := Lib.hid hpw
  have HF1 := Lib.hid hpfe
  have HI1 := Lib.hid hpis
  have HA1 := Lib.hid hpaf
  have HV1 := Lib.hid hlv
  obtain ⟨n, hvn⟩ : ∃ n, lv.length = n := ⟨_, rfl⟩
  have HVB : Hid (n ≤ 1000) := by
    have hfr : f2 < R.n := by rw [← hf2]; exact rot_lt tf hpf
    have hmr : m2 < B.nv := by rw [← hm2]; exact rot_lt tm hpm
    have h5 := HG.out.V m2 hmr
    have hl : (vals B R f2 m2).length ≤ (B.V m2).toNat := sel_len _ _
    rw [eValues_ok HCK.out hfr hmr] at hlv
    unfold Hid
    split at hlv
    · cases hlv; rw [← hvn]; simp
    · cases hlv; rw [← hvn]; omega
  have HVN := Lib.hid hvn
  obtain ⟨lp, lq, hp1, hp2, hpl, hpb, hpq⟩ := eApart_t (R := R) (b := ts) (a := tm) (c := tf) HCK.out HOK.out hs ht
  rw [hs2, ht2] at hp1
  rw [HT1.out] at hp2
  obtain ⟨q, hq⟩ : ∃ q, lq.length = q := ⟨_, rfl⟩
  have HP1 := Lib.hid hp1
  have HP2 := Lib.hid hp2
  have HPN1 : Hid (lp.length = q) := hpl.trans hq
  have HPN2 := Lib.hid hq
  have hqv : q ≤ B.nv := by rw [← hq]; exact hpb
  have HPQ := Lib.hid hpq
  have HQV := Lib.hid hqv
  have dq : decide (B.nv < q) = false := decide_eq_false (by omega)
  have dq' : ¬ B.nv < q := by omega
  have HSV : Hid (sameI n (fun i => lv.getD i 0) n (fun i => lv.getD i 0) = true) := sameI_self _ _
  have HKM := Lib.hid hm2
  clear hpw hpfe hpis hpaf hlv hvn hp1 hp2 hpl hpb hpq hq hqv hs2 ht2 hf2 hm2 hs ht hpf hpm hts htm htf
  go_upto_region 6 with fail
  have S4d := old_of HB4.out.drew; have HB4d := S4d.2
  refine wp_region_held_drew (S := (fun w' => (∀ b o, b < ws.heap.size → w'.cell? ⟨b, o, none⟩ = ws.cell? ⟨b, o, none⟩) ∧ Hid (Below ws.heap.size ws w'))) (by kernel_rfl) S4d (fun hHeld => ?_)
  (refine wpAnyH_take (i := 0) (v := ?_) rfl (by kernel_rfl) (by kernel_rfl) (by kernel_rfl) (fun _ _ _ h => h) (Or.inl ⟨by rfl, ?_⟩) (by assumption) ?_; rotate_left; (focus (intro w hSw; (try dsimp only at hSw); go_simp; (try with_reducible rfl))); (try simp only [List.getElem_toArray, List.getElem_cons_zero, List.getElem_cons_succ, Act.put, List.setIfInBounds_toArray, List.set_cons_zero, List.set_cons_succ])); (refine wpAnyH_take (i := 1) (v := ?_) rfl (by kernel_rfl) (by kernel_rfl) (by kernel_rfl) (fun _ _ _ h => h) (Or.inl ⟨by rfl, ?_⟩) (by assumption) ?_; rotate_left; (focus (intro w hSw; (try dsimp only at hSw); go_simp; (try with_reducible rfl))); (try simp only [List.getElem_toArray, List.getElem_cons_zero, List.getElem_cons_succ, Act.put, List.setIfInBounds_toArray, List.set_cons_zero, List.set_cons_succ])); (refine wpAnyH_take (i := 2) (v := ?_) rfl (by kernel_rfl) (by kernel_rfl) (by kernel_rfl) (fun _ _ _ h => h) (Or.inl ⟨by rfl, ?_⟩) (by assumption) ?_; rotate_left; (focus (intro w hSw; (try dsimp only at hSw); go_simp; (try with_reducible rfl))); (try simp only [List.getElem_toArray, List.getElem_cons_zero, List.getElem_cons_succ, Act.put, List.setIfInBounds_toArray, List.set_cons_zero, List.set_cons_succ])); (refine wpAnyH_take (i := 3) (v := ?_) rfl (by kernel_rfl) (by kernel_rfl) (by kernel_rfl) (fun _ _ _ h => h) (Or.inl ⟨by rfl, ?_⟩) (by assumption) ?_; rotate_left; (focus (intro w hSw; (try dsimp only at hSw); go_simp; (try with_reducible rfl))); (try simp only [List.getElem_toArray, List.getElem_cons_zero, List.getElem_cons_succ, Act.put, List.setIfInBounds_toArray, List.set_cons_zero, List.set_cons_succ])); (refine wpAnyH_take (i := 4) (v := ?_) rfl (by kernel_rfl) (by kernel_rfl) (by kernel_rfl) (fun _ _ _ h => h) (Or.inl ⟨by rfl, ?_⟩) (by assumption) ?_; rotate_left; (focus (intro w hSw; (try dsimp only at hSw); go_simp; (try with_reducible rfl))); (try simp only [List.getElem_toArray, List.getElem_cons_zero, List.getElem_cons_succ, Act.put, List.setIfInBounds_toArray, List.set_cons_zero, List.set_cons_succ])); (refine wpAnyH_take (i := 5) (v := ?_) rfl (by kernel_rfl) (by kernel_rfl) (by kernel_rfl) (fun _ _ _ h => h) (Or.inl ⟨by rfl, ?_⟩) (by assumption) ?_; rotate_left; (focus (intro w hSw; (try dsimp only at hSw); go_simp; (try with_reducible rfl))); (try simp only [List.getElem_toArray, List.getElem_cons_zero, List.getElem_cons_succ, Act.put, List.setIfInBounds_toArray, List.set_cons_zero, List.set_cons_succ])); (refine wpAnyH_take (i := 6) (v := ?_) rfl (by kernel_rfl) (by kernel_rfl) (by kernel_rfl) (fun _ _ _ h => h) (Or.inl ⟨by rfl, ?_⟩) (by assumption) ?_; rotate_left; (focus (intro w hSw; (try dsimp only at hSw); go_simp; (try with_reducible rfl))); (try simp only [List.getElem_toArray, List.getElem_cons_zero, List.getElem_cons_succ, Act.put, List.setIfInBounds_toArray, List.set_cons_zero, List.set_cons_succ])); (refine wpAnyH_take (i := 7) (v := ?_) rfl (by kernel_rfl) (by kernel_rfl) (by kernel_rfl) (fun _ _ _ h => h) (Or.inl ⟨by rfl, ?_⟩) (by assumption) ?_; rotate_left; (focus (intro w hSw; (try dsimp only at hSw); go_simp; (try with_reducible rfl))); (try simp only [List.getElem_toArray, List.getElem_cons_zero, List.getElem_cons_succ, Act.put, List.setIfInBounds_toArray, List.set_cons_zero, List.set_cons_succ])); (refine wpAnyH_take (i := 8) (v := ?_) rfl (by kernel_rfl) (by kernel_rfl) (by kernel_rfl) (fun _ _ _ h => h) (Or.inl ⟨by rfl, ?_⟩) (by assumption) ?_; rotate_left; (focus (intro w hSw; (try dsimp only at hSw); go_simp; (try with_reducible rfl))); (try simp only [List.getElem_toArray, List.getElem_cons_zero, List.getElem_cons_succ, Act.put, List.setIfInBounds_toArray, List.set_cons_zero, List.set_cons_succ])); (refine wpAnyH_take (i := 9) (v := ?_) rfl (by kernel_rfl) (by kernel_rfl) (by kernel_rfl) (fun _ _ _ h => h) (Or.inl ⟨by rfl, ?_⟩) (by assumption) ?_; rotate_left; (focus (intro w hSw; (try dsimp only at hSw); go_simp; (try with_reducible rfl))); (try simp only [List.getElem_toArray, List.getElem_cons_zero, List.getElem_cons_succ, Act.put, List.setIfInBounds_toArray, List.set_cons_zero, List.set_cons_succ])); (refine wpAnyH_take (i := 10) (v := ?_) rfl (by kernel_rfl) (by kernel_rfl) (by kernel_rfl) (fun _ _ _ h => h) (Or.inl ⟨by rfl, ?_⟩) (by assumption) ?_; rotate_left; (focus (intro w hSw; (try dsimp only at hSw); go_simp; (try with_reducible rfl))); (try simp only [List.getElem_toArray, List.getElem_cons_zero, List.getElem_cons_succ, Act.put, List.setIfInBounds_toArray, List.set_cons_zero, List.set_cons_succ])); (refine wpAnyH_take (i := 11) (v := ?_) rfl (by kernel_rfl) (by kernel_rfl) (by kernel_rfl) (fun _ _ _ h => h) (Or.inl ⟨by rfl, ?_⟩) (by assumption) ?_; rotate_left; (focus (intro w hSw; (try dsimp only at hSw); go_simp; (try with_reducible rfl))); (try simp only [List.getElem_toArray, List.getElem_cons_zero, List.getElem_cons_succ, Act.put, List.setIfInBounds_toArray, List.set_cons_zero, List.set_cons_succ])); (refine wpAnyH_take (i := 12) (v := ?_) rfl (by kernel_rfl) (by kernel_rfl) (by kernel_rfl) (fun _ _ _ h => h) (Or.inl ⟨by rfl, ?_⟩) (by assumption) ?_; rotate_left; (focus (intro w hSw; (try dsimp only at hSw); go_simp; (try with_reducible rfl))); (try simp only [List.getElem_toArray, List.getElem_cons_zero, List.getElem_cons_succ, Act.put, List.setIfInBounds_toArray, List.set_cons_zero, List.set_cons_succ])); (refine wpAnyH_take (i := 13) (v := ?_) rfl (by kernel_rfl) (by kernel_rfl) (by kernel_rfl) (fun _ _ _ h => h) (Or.inl ⟨by rfl, ?_⟩) (by assumption) ?_; rotate_left; (focus (intro w hSw; (try dsimp only at hSw); go_simp; (try with_reducible rfl))); (try simp only [List.getElem_toArray, List.getElem_cons_zero, List.getElem_cons_succ, Act.put, List.setIfInBounds_toArray, List.set_cons_zero, List.set_cons_succ])); (refine wpAnyH_take (i := 14) (v := ?_) rfl (by kernel_rfl) (by kernel_rfl) (by kernel_rfl) (fun _ _ _ h => h) (Or.inl ⟨by rfl, ?_⟩) (by assumption) ?_; rotate_left; (focus (intro w hSw; (try dsimp only at hSw); go_simp; (try with_reducible rfl))); (try simp only [List.getElem_toArray, List.getElem_cons_zero, List.getElem_cons_succ, Act.put, List.setIfInBounds_toArray, List.set_cons_zero, List.set_cons_succ])); (refine wpAnyH_take (i := 15) (v := ?_) rfl (by kernel_rfl) (by kernel_rfl) (by kernel_rfl) (fun _ _ _ h => h) (Or.inl ⟨by rfl, ?_⟩) (by assumption) ?_; rotate_left; (focus (intro w hSw; (try dsimp only at hSw); go_simp; (try with_reducible rfl))); (try simp only [List.getElem_toArray, List.getElem_cons_zero, List.getElem_cons_succ, Act.put, List.setIfInBounds_toArray, List.set_cons_zero, List.set_cons_succ]))
  refine wpAnyH_done (by kernel_rfl) ?_ _; clear hHeld
  clear S4d
  obtain ⟨w5, hw5⟩ : ∃ w5 : World, w4.drew = w5 := ⟨_, rfl⟩
  rw [hw5]
  have hb5 : Below w4.heap.size w4 w5 := by rw [← hw5]; exact (Below.refl _ _).drew
  have HB5 := Lib.hid (bel HB4.out hb5)
  have HX5 := Lib.hid (keep_blk hb5 HX4.out)
  have HK5 := Lib.hid (HK4.out.go hb5)
  have HC45 := Lib.hid hb5
  have c5 := (old_of HB5.out).1
  clear hw5 hb5 c4 HB4 HX4 HK4 HB4d
  go_upto_region 7 with fail
  go_cut [13] (fun st wx => ∃ gt : Nat, st = .pointer (some ⟨gt, 0, none⟩) ∧ Hid (wx.heap[gt]? = some (Obj.cells #[.int .i64 (f2 : Int), .int .i64 (m2 : Int)] 40 (0, 0))) ∧ Hid (Below w5.heap.size w5 wx))
  case first =>
    as_aux_lemma =>
      have S5d := old_of HB5.out.drew; have HB5d := S5d.2
      refine wp_region_held_drew (S := (fun w' => (∀ b o, b < ws.heap.size → w'.cell? ⟨b, o, none⟩ = ws.cell? ⟨b, o, none⟩) ∧ Hid (Below ws.heap.size ws w'))) (by kernel_rfl) S5d (fun hHeld => ?_)
      (refine wpAnyH_take (i := 0) (v := ?_) rfl (by kernel_rfl) (by kernel_rfl) (by kernel_rfl) (fun _ _ _ h => h) (Or.inl ⟨by rfl, ?_⟩) (by assumption) ?_; rotate_left; (focus (intro w hSw; (try dsimp only at hSw); go_simp; (try with_reducible rfl))); (try simp only [List.getElem_toArray, List.getElem_cons_zero, List.getElem_cons_succ, Act.put, List.setIfInBounds_toArray, List.set_cons_zero, List.set_cons_succ])); (refine wpAnyH_take (i := 1) (v := ?_) rfl (by kernel_rfl) (by kernel_rfl) (by kernel_rfl) (fun _ _ _ h => h) (Or.inl ⟨by rfl, ?_⟩) (by assumption) ?_; rotate_left; (focus (intro w hSw; (try dsimp only at hSw); go_simp; (try with_reducible rfl))); (try simp only [List.getElem_toArray, List.getElem_cons_zero, List.getElem_cons_succ, Act.put, List.setIfInBounds_toArray, List.set_cons_zero, List.set_cons_succ])); (refine wpAnyH_take (i := 2) (v := ?_) rfl (by kernel_rfl) (by kernel_rfl) (by kernel_rfl) (fun _ _ _ h => h) (Or.inl ⟨by rfl, ?_⟩) (by assumption) ?_; rotate_left; (focus (intro w hSw; (try dsimp only at hSw); go_simp; (try with_reducible rfl))); (try simp only [List.getElem_toArray, List.getElem_cons_zero, List.getElem_cons_succ, Act.put, List.setIfInBounds_toArray, List.set_cons_zero, List.set_cons_succ])); (refine wpAnyH_take (i := 3) (v := ?_) rfl (by kernel_rfl) (by kernel_rfl) (by kernel_rfl) (fun _ _ _ h => h) (Or.inl ⟨by rfl, ?_⟩) (by assumption) ?_; rotate_left; (focus (intro w hSw; (try dsimp only at hSw); go_simp; (try with_reducible rfl))); (try simp only [List.getElem_toArray, List.getElem_cons_zero, List.getElem_cons_succ, Act.put, List.setIfInBounds_toArray, List.set_cons_zero, List.set_cons_succ])); (refine wpAnyH_take (i := 4) (v := ?_) rfl (by kernel_rfl) (by kernel_rfl) (by kernel_rfl) (fun _ _ _ h => h) (Or.inl ⟨by rfl, ?_⟩) (by assumption) ?_; rotate_left; (focus (intro w hSw; (try dsimp only at hSw); go_simp; (try with_reducible rfl))); (try simp only [List.getElem_toArray, List.getElem_cons_zero, List.getElem_cons_succ, Act.put, List.setIfInBounds_toArray, List.set_cons_zero, List.set_cons_succ])); (refine wpAnyH_take (i := 5) (v := ?_) rfl (by kernel_rfl) (by kernel_rfl) (by kernel_rfl) (fun _ _ _ h => h) (Or.inl ⟨by rfl, ?_⟩) (by assumption) ?_; rotate_left; (focus (intro w hSw; (try dsimp only at hSw); go_simp; (try with_reducible rfl))); (try simp only [List.getElem_toArray, List.getElem_cons_zero, List.getElem_cons_succ, Act.put, List.setIfInBounds_toArray, List.set_cons_zero, List.set_cons_succ])); (refine wpAnyH_take (i := 6) (v := ?_) rfl (by kernel_rfl) (by kernel_rfl) (by kernel_rfl) (fun _ _ _ h => h) (Or.inl ⟨by rfl, ?_⟩) (by assumption) ?_; rotate_left; (focus (intro w hSw; (try dsimp only at hSw); go_simp; (try with_reducible rfl))); (try simp only [List.getElem_toArray, List.getElem_cons_zero, List.getElem_cons_succ, Act.put, List.setIfInBounds_toArray, List.set_cons_zero, List.set_cons_succ])); (refine wpAnyH_take (i := 7) (v := ?_) rfl (by kernel_rfl) (by kernel_rfl) (by kernel_rfl) (fun _ _ _ h => h) (Or.inl ⟨by rfl, ?_⟩) (by assumption) ?_; rotate_left; (focus (intro w hSw; (try dsimp only at hSw); go_simp; (try with_reducible rfl))); (try simp only [List.getElem_toArray, List.getElem_cons_zero, List.getElem_cons_succ, Act.put, List.setIfInBounds_toArray, List.set_cons_zero, List.set_cons_succ])); (refine wpAnyH_take (i := 8) (v := ?_) rfl (by kernel_rfl) (by kernel_rfl) (by kernel_rfl) (fun _ _ _ h => h) (Or.inl ⟨by rfl, ?_⟩) (by assumption) ?_; rotate_left; (focus (intro w hSw; (try dsimp only at hSw); go_simp; (try with_reducible rfl))); (try simp only [List.getElem_toArray, List.getElem_cons_zero, List.getElem_cons_succ, Act.put, List.setIfInBounds_toArray, List.set_cons_zero, List.set_cons_succ])); (refine wpAnyH_take (i := 9) (v := ?_) rfl (by kernel_rfl) (by kernel_rfl) (by kernel_rfl) (fun _ _ _ h => h) (Or.inl ⟨by rfl, ?_⟩) (by assumption) ?_; rotate_left; (focus (intro w hSw; (try dsimp only at hSw); go_simp; (try with_reducible rfl))); (try simp only [List.getElem_toArray, List.getElem_cons_zero, List.getElem_cons_succ, Act.put, List.setIfInBounds_toArray, List.set_cons_zero, List.set_cons_succ])); (refine wpAnyH_take (i := 10) (v := ?_) rfl (by kernel_rfl) (by kernel_rfl) (by kernel_rfl) (fun _ _ _ h => h) (Or.inl ⟨by rfl, ?_⟩) (by assumption) ?_; rotate_left; (focus (intro w hSw; (try dsimp only at hSw); go_simp; (try with_reducible rfl))); (try simp only [List.getElem_toArray, List.getElem_cons_zero, List.getElem_cons_succ, Act.put, List.setIfInBounds_toArray, List.set_cons_zero, List.set_cons_succ])); (refine wpAnyH_take (i := 11) (v := ?_) rfl (by kernel_rfl) (by kernel_rfl) (by kernel_rfl) (fun _ _ _ h => h) (Or.inl ⟨by rfl, ?_⟩) (by assumption) ?_; rotate_left; (focus (intro w hSw; (try dsimp only at hSw); go_simp; (try with_reducible rfl))); (try simp only [List.getElem_toArray, List.getElem_cons_zero, List.getElem_cons_succ, Act.put, List.setIfInBounds_toArray, List.set_cons_zero, List.set_cons_succ])); (refine wpAnyH_take (i := 12) (v := ?_) rfl (by kernel_rfl) (by kernel_rfl) (by kernel_rfl) (fun _ _ _ h => h) (Or.inl ⟨by rfl, ?_⟩) (by assumption) ?_; rotate_left; (focus (intro w hSw; (try dsimp only at hSw); go_simp; (try with_reducible rfl))); (try simp only [List.getElem_toArray, List.getElem_cons_zero, List.getElem_cons_succ, Act.put, List.setIfInBounds_toArray, List.set_cons_zero, List.set_cons_succ])); (refine wpAnyH_take (i := 13) (v := ?_) rfl (by kernel_rfl) (by kernel_rfl) (by kernel_rfl) (fun _ _ _ h => h) (Or.inl ⟨by rfl, ?_⟩) (by assumption) ?_; rotate_left; (focus (intro w hSw; (try dsimp only at hSw); go_simp; (try with_reducible rfl))); (try simp only [List.getElem_toArray, List.getElem_cons_zero, List.getElem_cons_succ, Act.put, List.setIfInBounds_toArray, List.set_cons_zero, List.set_cons_succ])); (refine wpAnyH_take (i := 14) (v := ?_) rfl (by kernel_rfl) (by kernel_rfl) (by kernel_rfl) (fun _ _ _ h => h) (Or.inl ⟨by rfl, ?_⟩) (by assumption) ?_; rotate_left; (focus (intro w hSw; (try dsimp only at hSw); go_simp; (try with_reducible rfl))); (try simp only [List.getElem_toArray, List.getElem_cons_zero, List.getElem_cons_succ, Act.put, List.setIfInBounds_toArray, List.set_cons_zero, List.set_cons_succ])); (refine wpAnyH_take (i := 15) (v := ?_) rfl (by kernel_rfl) (by kernel_rfl) (by kernel_rfl) (fun _ _ _ h => h) (Or.inl ⟨by rfl, ?_⟩) (by assumption) ?_; rotate_left; (focus (intro w hSw; (try dsimp only at hSw); go_simp; (try with_reducible rfl))); (try simp only [List.getElem_toArray, List.getElem_cons_zero, List.getElem_cons_succ, Act.put, List.setIfInBounds_toArray, List.set_cons_zero, List.set_cons_succ])); (refine wpAnyH_take (i := 16) (v := ?_) rfl (by kernel_rfl) (by kernel_rfl) (by kernel_rfl) (fun _ _ _ h => h) (Or.inl ⟨by rfl, ?_⟩) (by assumption) ?_; rotate_left; (focus (intro w hSw; (try dsimp only at hSw); go_simp; (try with_reducible rfl))); (try simp only [List.getElem_toArray, List.getElem_cons_zero, List.getElem_cons_succ, Act.put, List.setIfInBounds_toArray, List.set_cons_zero, List.set_cons_succ])); (refine wpAnyH_take (i := 17) (v := ?_) rfl (by kernel_rfl) (by kernel_rfl) (by kernel_rfl) (fun _ _ _ h => h) (Or.inl ⟨by rfl, ?_⟩) (by assumption) ?_; rotate_left; (focus (intro w hSw; (try dsimp only at hSw); go_simp; (try with_reducible rfl))); (try simp only [List.getElem_toArray, List.getElem_cons_zero, List.getElem_cons_succ, Act.put, List.setIfInBounds_toArray, List.set_cons_zero, List.set_cons_succ])); (refine wpAnyH_take (i := 18) (v := ?_) rfl (by kernel_rfl) (by kernel_rfl) (by kernel_rfl) (fun _ _ _ h => h) (Or.inl ⟨by rfl, ?_⟩) (by assumption) ?_; rotate_left; (focus (intro w hSw; (try dsimp only at hSw); go_simp; (try with_reducible rfl))); (try simp only [List.getElem_toArray, List.getElem_cons_zero, List.getElem_cons_succ, Act.put, List.setIfInBounds_toArray, List.set_cons_zero, List.set_cons_succ])); (refine wpAnyH_take (i := 19) (v := ?_) rfl (by kernel_rfl) (by kernel_rfl) (by kernel_rfl) (fun _ _ _ h => h) (Or.inl ⟨by rfl, ?_⟩) (by assumption) ?_; rotate_left; (focus (intro w hSw; (try dsimp only at hSw); go_simp; (try with_reducible rfl))); (try simp only [List.getElem_toArray, List.getElem_cons_zero, List.getElem_cons_succ, Act.put, List.setIfInBounds_toArray, List.set_cons_zero, List.set_cons_succ]))
      refine wpAnyH_ready (rs := [20]) (by kernel_rfl) (by simp) ?_; refine AllReadyH.cons rfl (fun K hK => ?_) AllReadyH.nil; go_simp
      obtain ⟨w6, hw6⟩ : ∃ w6 : World, (w5.alloc (.cells #[.int .i64 0, .int .i64 0] 40)).drew = w6 := ⟨_, rfl⟩
      rw [hw6]
      have hb6 : Below w5.heap.size w5 w6 := by rw [← hw6]; exact (below_alloc (Nat.le_refl _) _).drew
      have HZ : Hid (w6.heap[w5.heap.size]? = some (Obj.cells #[.int .i64 0, .int .i64 0] 40 (0, 0))) := by rw [← hw6]; exact World.alloc_heap_new _ _
      have S6 := old_of (bel HB5.out hb6)
      have HB6 := S6.2
      have HC6 := Lib.hid hb6
      obtain ⟨gt, hgt⟩ : ∃ gt, w5.heap.size = gt := ⟨_, rfl⟩
      have HGT : Hid (w5.heap.size ≤ gt) := by unfold Hid; omega
      rw [hgt] at HZ ⊢
      clear hw6 hb6 hgt
      refine hK.out _ _ S6 (fun hHeld => ?_); clear hK K; (try simp only [List.getElem_toArray, List.getElem_cons_zero, List.getElem_cons_succ, Act.put, List.setIfInBounds_toArray, List.set_cons_zero, List.set_cons_succ])
      have hzf := frozen_blk HZ.out
      have hz0 := cell_blk HZ.out 0 rfl
      have hz1 := cell_blk HZ.out 1 rfl
      refine wpAnyH_ready (rs := [21]) (by kernel_rfl) (by simp) ?_; refine AllReadyH.cons rfl (fun K hK => ?_) AllReadyH.nil; go_simp
      obtain ⟨w7, hw7⟩ : ∃ w7 : World, ((w6.setCell ⟨gt, 0, none⟩ (.int .i64 (f2 : Int))).setCell ⟨gt, 1, none⟩ (.int .i64 (m2 : Int))) = w7 := ⟨_, rfl⟩
      rw [hw7]
      obtain ⟨f1, f2⟩ := store_two HZ.out (.int .i64 (f2 : Int)) (.int .i64 (m2 : Int))
      rw [hw7] at f1 f2
      have HC7 := Lib.hid (HC6.out.trans (f2 _ HGT.out))
      have F1 := Lib.hid f1
      have S7 := old_of (bel HB5.out HC7.out)
      clear hw7 f1 f2 hzf hz0 hz1
      refine hK.out _ _ S7 (fun hHeld => ?_); clear hK K; (try simp only [List.getElem_toArray, List.getElem_cons_zero, List.getElem_cons_succ, Act.put, List.setIfInBounds_toArray, List.set_cons_zero, List.set_cons_succ])
      refine wpAnyH_done (by kernel_rfl) ?_ _; clear hHeld
      go_wp2_with fail
      go_meet
      exact ⟨gt, rfl, F1, HC7⟩
  case rest =>
  obtain ⟨gt, rfl, HD6, HC56⟩ := hcut
  obtain ⟨w6, rfl⟩ : ∃ w6, w6 = wc := ⟨wc, rfl⟩
  have HB6 := Lib.hid (bel HB5.out HC56.out)
  have HX6 := Lib.hid (keep_blk HC56.out HX5.out)
  have HK6 : Hid (BookAt w6.heap.size w6 _ T) := (HK5.out.go HC56.out).raise (bel HC45.out HC56.out).size (Nat.le_refl _)
  have HF6 : Hid (FruitsAt w6.heap.size w6 _ Q) := RowsAt.mono HFR4.out (bel HC45.out HC56.out) (bel HC45.out HC56.out).size
  have c6 := (old_of HB6.out).1
  have HC6 : Hid (Below w6.heap.size w6 w6) := Below.refl _ _
  have x0 := HX6.out
  have y0 := cell_blk x0 0 rfl
  have y1 := cell_blk x0 1 rfl
  have y2 := cell_blk x0 2 rfl
  have y3 := cell_blk x0 3 rfl
  have gg := (Array.getElem?_eq_some_iff.1 x0).1
  have x1 := HD6.out
  have d0 := cell_blk x1 0 rfl
  have d1 := cell_blk x1 1 rfl
  have gd := (Array.getElem?_eq_some_iff.1 x1).1
  clear x0 x1 HB5 HX5 HK5 HFR4 HC45 HC56 c5
  go_wp2_with (first
    | (go_at_call 20; have _t := HB7; refine (mWrong_any _ _ _ T Q (s : Int) _ (HK6.out.go HC7.out) (RowsAt.mono HF6.out HC7.out (Nat.le_refl _))).mono ?_; rintro e w8 ⟨rfl, hb8⟩; rw [HW2.out]; have HC8 := Lib.hid (bel HC7.out hb8); have HB8 := Lib.hid (bel HB7.out hb8); clear hb8 c7 y0 y1 y2 y3 gg d0 d1 gd; have c8 := (old_of HB8.out).1; have x0 := keep_blk HC8.out HX6.out; have y0 := cell_blk x0 0 rfl; have y1 := cell_blk x0 1 rfl; have y2 := cell_blk x0 2 rfl; have y3 := cell_blk x0 3 rfl; have gg := (Array.getElem?_eq_some_iff.1 x0).1; have x1 := keep_blk HC8.out HD6.out; have d0 := cell_blk x1 0 rfl; have d1 := cell_blk x1 1 rfl; have gd := (Array.getElem?_eq_some_iff.1 x1).1; clear x0 x1)
    | (go_at_call 20; refine (mWrong_any N _ _ B R (s2 : Int) _ (HBF.out.go HB6.out).1 (HBF.out.go HB6.out).2).mono ?_; rintro e w7 ⟨rfl, hb7⟩; rw [HW1.out]; have HC7 := Lib.hid (bel HC6.out hb7); have HB7 := Lib.hid (bel HB6.out hb7); clear hb7 c6 y0 y1 y2 y3 gg d0 d1 gd; have c7 := (old_of HB7.out).1; have x0 := keep_blk HC7.out HX6.out; have y0 := cell_blk x0 0 rfl; have y1 := cell_blk x0 1 rfl; have y2 := cell_blk x0 2 rfl; have y3 := cell_blk x0 3 rfl; have gg := (Array.getElem?_eq_some_iff.1 x0).1; have x1 := keep_blk HC7.out HD6.out; have d0 := cell_blk x1 0 rfl; have d1 := cell_blk x1 1 rfl; have gd := (Array.getElem?_eq_some_iff.1 x1).1; clear x0 x1)
    | (go_at_call 22; have _t := HB9; refine (mFewest_any _ _ _ T Q  _ (HK6.out.go HC9.out) (RowsAt.mono HF6.out HC9.out (Nat.le_refl _))).mono ?_; rintro e wA ⟨rfl, hbA⟩; rw [HF2.out]; have HCA := Lib.hid (bel HC9.out hbA); have HBA := Lib.hid (bel HB9.out hbA); clear hbA c9 y0 y1 y2 y3 gg d0 d1 gd; have cA := (old_of HBA.out).1; have x0 := keep_blk HCA.out HX6.out; have y0 := cell_blk x0 0 rfl; have y1 := cell_blk x0 1 rfl; have y2 := cell_blk x0 2 rfl; have y3 := cell_blk x0 3 rfl; have gg := (Array.getElem?_eq_some_iff.1 x0).1; have x1 := keep_blk HCA.out HD6.out; have d0 := cell_blk x1 0 rfl; have d1 := cell_blk x1 1 rfl; have gd := (Array.getElem?_eq_some_iff.1 x1).1; clear x0 x1)
    | (go_at_call 22; refine (mFewest_any N _ _ B R  _ (HBF.out.go HB8.out).1 (HBF.out.go HB8.out).2).mono ?_; rintro e w9 ⟨rfl, hb9⟩; rw [HF1.out]; have HC9 := Lib.hid (bel HC8.out hb9); have HB9 := Lib.hid (bel HB8.out hb9); clear hb9 c8 y0 y1 y2 y3 gg d0 d1 gd; have c9 := (old_of HB9.out).1; have x0 := keep_blk HC9.out HX6.out; have y0 := cell_blk x0 0 rfl; have y1 := cell_blk x0 1 rfl; have y2 := cell_blk x0 2 rfl; have y3 := cell_blk x0 3 rfl; have gg := (Array.getElem?_eq_some_iff.1 x0).1; have x1 := keep_blk HC9.out HD6.out; have d0 := cell_blk x1 0 rfl; have d1 := cell_blk x1 1 rfl; have gd := (Array.getElem?_eq_some_iff.1 x1).1; clear x0 x1)
    | (go_at_call 28; have _t := HBB; refine (mIs_any _ _ _ T Q (s : Int) _ (HK6.out.go HCB.out) (RowsAt.mono HF6.out HCB.out (Nat.le_refl _))).mono ?_; rintro e wC ⟨rfl, hbC⟩; rw [HI2.out]; have HCC := Lib.hid (bel HCB.out hbC); have HBC := Lib.hid (bel HBB.out hbC); clear hbC cB y0 y1 y2 y3 gg d0 d1 gd; have cC := (old_of HBC.out).1; have x0 := keep_blk HCC.out HX6.out; have y0 := cell_blk x0 0 rfl; have y1 := cell_blk x0 1 rfl; have y2 := cell_blk x0 2 rfl; have y3 := cell_blk x0 3 rfl; have gg := (Array.getElem?_eq_some_iff.1 x0).1; have x1 := keep_blk HCC.out HD6.out; have d0 := cell_blk x1 0 rfl; have d1 := cell_blk x1 1 rfl; have gd := (Array.getElem?_eq_some_iff.1 x1).1; clear x0 x1)
    | (go_at_call 28; refine (mIs_any N _ _ B R (s2 : Int) _ (HBF.out.go HBA.out).1 (HBF.out.go HBA.out).2).mono ?_; rintro e wB ⟨rfl, hbB⟩; rw [HI1.out]; have HCB := Lib.hid (bel HCA.out hbB); have HBB := Lib.hid (bel HBA.out hbB); clear hbB cA y0 y1 y2 y3 gg d0 d1 gd; have cB := (old_of HBB.out).1; have x0 := keep_blk HCB.out HX6.out; have y0 := cell_blk x0 0 rfl; have y1 := cell_blk x0 1 rfl; have y2 := cell_blk x0 2 rfl; have y3 := cell_blk x0 3 rfl; have gg := (Array.getElem?_eq_some_iff.1 x0).1; have x1 := keep_blk HCB.out HD6.out; have d0 := cell_blk x1 0 rfl; have d1 := cell_blk x1 1 rfl; have gd := (Array.getElem?_eq_some_iff.1 x1).1; clear x0 x1)
    | (go_at_call 35; have _t := HBD; refine (mAfter_any _ _ _ T Q (pf : Int) (pm : Int) _ (HK6.out.go HCD.out) (RowsAt.mono HF6.out HCD.out (Nat.le_refl _))).mono ?_; rintro e wE ⟨rfl, hbE⟩; rw [HA2.out]; have HCE := Lib.hid (bel HCD.out hbE); have HBE := Lib.hid (bel HBD.out hbE); clear hbE cD y0 y1 y2 y3 gg d0 d1 gd; have cE := (old_of HBE.out).1; have x0 := keep_blk HCE.out HX6.out; have y0 := cell_blk x0 0 rfl; have y1 := cell_blk x0 1 rfl; have y2 := cell_blk x0 2 rfl; have y3 := cell_blk x0 3 rfl; have gg := (Array.getElem?_eq_some_iff.1 x0).1; have x1 := keep_blk HCE.out HD6.out; have d0 := cell_blk x1 0 rfl; have d1 := cell_blk x1 1 rfl; have gd := (Array.getElem?_eq_some_iff.1 x1).1; clear x0 x1)
    | (go_at_call 35; refine (mAfter_any N _ _ B R (f2 : Int) (m2 : Int) _ (HBF.out.go HBC.out).1 (HBF.out.go HBC.out).2).mono ?_; rintro e wD ⟨rfl, hbD⟩; rw [HA1.out]; have HCD := Lib.hid (bel HCC.out hbD); have HBD := Lib.hid (bel HBC.out hbD); clear hbD cC y0 y1 y2 y3 gg d0 d1 gd; have cD := (old_of HBD.out).1; have x0 := keep_blk HCD.out HX6.out; have y0 := cell_blk x0 0 rfl; have y1 := cell_blk x0 1 rfl; have y2 := cell_blk x0 2 rfl; have y3 := cell_blk x0 3 rfl; have gg := (Array.getElem?_eq_some_iff.1 x0).1; have x1 := keep_blk HCD.out HD6.out; have d0 := cell_blk x1 0 rfl; have d1 := cell_blk x1 1 rfl; have gd := (Array.getElem?_eq_some_iff.1 x1).1; clear x0 x1)
    | (go_at_call 31; have _t := HBF'; refine (mValues_n _ _ _ T Q pf pm _ (HK6.out.go HCF'.out) (RowsAt.mono HF6.out HCF'.out (Nat.le_refl _)) HV2.out HVN.out).mono ?_; rintro e wG ⟨aoG, coG, rfl, HUG, hbG⟩; have HEG := Lib.hid hbG; have HCG := Lib.hid (bel HCF'.out hbG); have HBG := Lib.hid (bel HBF'.out hbG); clear hbG cF' y0 y1 y2 y3 gg d0 d1 gd; have cG := (old_of HBG.out).1; have x0 := keep_blk HCG.out HX6.out; have y0 := cell_blk x0 0 rfl; have y1 := cell_blk x0 1 rfl; have y2 := cell_blk x0 2 rfl; have y3 := cell_blk x0 3 rfl; have gg := (Array.getElem?_eq_some_iff.1 x0).1; have x1 := keep_blk HCG.out HD6.out; have d0 := cell_blk x1 0 rfl; have d1 := cell_blk x1 1 rfl; have gd := (Array.getElem?_eq_some_iff.1 x1).1; clear x0 x1)
    | (go_at_call 31; refine (mValues_n N _ _ B R f2 m2 _ (HBF.out.go HBE.out).1 (HBF.out.go HBE.out).2 HV1.out HVN.out).mono ?_; rintro e wF ⟨aoF, coF, rfl, HUF, hbF'⟩; have HCF' := Lib.hid (bel HCE.out hbF'); have HBF' := Lib.hid (bel HBE.out hbF'); clear hbF' cE y0 y1 y2 y3 gg d0 d1 gd; have cF' := (old_of HBF'.out).1; have x0 := keep_blk HCF'.out HX6.out; have y0 := cell_blk x0 0 rfl; have y1 := cell_blk x0 1 rfl; have y2 := cell_blk x0 2 rfl; have y3 := cell_blk x0 3 rfl; have gg := (Array.getElem?_eq_some_iff.1 x0).1; have x1 := keep_blk HCF'.out HD6.out; have d0 := cell_blk x1 0 rfl; have d1 := cell_blk x1 1 rfl; have gd := (Array.getElem?_eq_some_iff.1 x1).1; clear x0 x1)
    | (go_at_call 30; refine (sameInts_any _ _ _ _ _ _ _ _ (ints_n HUF.out HVN.out HVB.out HEG.out) (ints_n HUG.out HVN.out HVB.out (Below.refl _ _))).mono ?_; rintro e wH ⟨rfl, hbH⟩; rw [HSV.out]; replace hbH := drawn_below hbH; have HCH := Lib.hid (bel HCG.out hbH); have HBH := Lib.hid (bel HBG.out hbH); clear hbH cG y0 y1 y2 y3 gg d0 d1 gd; have cH := (old_of HBH.out).1; have x0 := keep_blk HCH.out HX6.out; have y0 := cell_blk x0 0 rfl; have y1 := cell_blk x0 1 rfl; have y2 := cell_blk x0 2 rfl; have y3 := cell_blk x0 3 rfl; have gg := (Array.getElem?_eq_some_iff.1 x0).1; have x1 := keep_blk HCH.out HD6.out; have d0 := cell_blk x1 0 rfl; have d1 := cell_blk x1 1 rfl; have gd := (Array.getElem?_eq_some_iff.1 x1).1; clear x0 x1)
    | (go_at_call 40; have _t := HBI; refine (mApart_n _ _ T s t _ (HK6.out.go HCI.out) HP2.out HPN2.out).mono ?_; rintro e wJ ⟨aoJ, coJ, rfl, HUJ, hbJ⟩; have HEJ := Lib.hid hbJ; have HCJ := Lib.hid (bel HCI.out hbJ); have HBJ := Lib.hid (bel HBI.out hbJ); clear hbJ cI y0 y1 y2 y3 gg d0 d1 gd; have cJ := (old_of HBJ.out).1; have x0 := keep_blk HCJ.out HX6.out; have y0 := cell_blk x0 0 rfl; have y1 := cell_blk x0 1 rfl; have y2 := cell_blk x0 2 rfl; have y3 := cell_blk x0 3 rfl; have gg := (Array.getElem?_eq_some_iff.1 x0).1; have x1 := keep_blk HCJ.out HD6.out; have d0 := cell_blk x1 0 rfl; have d1 := cell_blk x1 1 rfl; have gd := (Array.getElem?_eq_some_iff.1 x1).1; clear x0 x1)
    | (go_at_call 40; refine (mApart_n N _ B s2 t2 _ (HBF.out.go HBH.out).1 HP1.out HPN1.out).mono ?_; rintro e wI ⟨aoI, coI, rfl, HUI, hbI⟩; have HCI := Lib.hid (bel HCH.out hbI); have HBI := Lib.hid (bel HBH.out hbI); clear hbI cH y0 y1 y2 y3 gg d0 d1 gd; have cI := (old_of HBI.out).1; have x0 := keep_blk HCI.out HX6.out; have y0 := cell_blk x0 0 rfl; have y1 := cell_blk x0 1 rfl; have y2 := cell_blk x0 2 rfl; have y3 := cell_blk x0 3 rfl; have gg := (Array.getElem?_eq_some_iff.1 x0).1; have x1 := keep_blk HCI.out HD6.out; have d0 := cell_blk x1 0 rfl; have d1 := cell_blk x1 1 rfl; have gd := (Array.getElem?_eq_some_iff.1 x1).1; clear x0 x1))
  clear y0 y1 y2 y3 gg d0 d1 gd
  have HQ9 : Hid (q ≤ 1000) := Nat.le_trans HQV.out (by have := HG.out.nv; omega)
  go_loopw [24] (fun i wr => ∃ k : Nat, k ≤ q ∧ i = .int .i64 k ∧ Hid (Below ws.heap.size ws wr) ∧ Hid (Below wJ.heap.size wJ wr)) (fun i _ => q - (intOf i).toNat)
  case atStart => exact ⟨0, Nat.zero_le _, rfl, HBJ, Below.refl _ _⟩
  case round =>
  clear cJ HBJ HCJ
  obtain ⟨k, hk, rfl, HBr, HCr⟩ := hrel
  have cr := (old_of HBr.out).1
  have hszr := Nat.lt_of_lt_of_le hsz HBr.out.size
  have hszr1 := Nat.lt_of_lt_of_le hsz1 HBr.out.size
  have hszr2 := Nat.lt_of_lt_of_le hsz2 HBr.out.size
  by_cases hkn : k < q
  · obtain ⟨kk, hkv, hke, hka⟩ := HPQ.out k (by rw [HPN2.out]; exact hkn)
    obtain ⟨M, hM⟩ : ∃ M, (kk + tm) % B.nv = M := ⟨_, rfl⟩
    have k5 : Int.tmod (IntKind.i64.wrap ((kk : Int) + (tm : Int))) (B.nv : Int) = (M : Int) := by rw [← hM]; exact tmod_nat _ _ _ (by have := H100.out; have := HG.out.nv; omega)
    rw [hM, HPN1.out] at hka
    have HIN : Hid ((anyB q fun i => decide (lp.getD i 0 = (M : Int))) = true) := hka
    have HMK : Hid ((decide (0 ≤ (kk : Int)) && decide ((kk : Int) < (B.nv : Int))) = true) := by unfold Hid; simp; omega
    obtain ⟨_, _, e, _, hc⟩ := ints_n HUJ.out HPN2.out HQ9.out HCr.out
    cases e
    obtain ⟨bw, ow, rfl, hbw, hr⟩ := hc (by omega)
    obtain ⟨r, hr1, hr2⟩ := hr k hkn
    dsimp only at hr2
    rw [hke] at hr2
    subst hr2
    have hki : (k : Int) < (q : Int) := by omega
    have n2 : ¬ B.nv = 0 := by omega
    have HKN := Lib.hid hkn
    have HB0' : Hid (Below wr.heap.size wr wr) := Below.refl _ _
    have S0d := old_of HB0'.out.drew
    have HB0d := S0d.2
    clear hM hka hke hkv hr hc hkn hk
    go_upto_region 31 with fail
    refine wp_region_held_drew (S := (fun w' => (∀ b o, b < wr.heap.size → w'.cell? ⟨b, o, none⟩ = wr.cell? ⟨b, o, none⟩) ∧ Hid (Below wr.heap.size wr w'))) (by kernel_rfl) S0d (fun hHeld => ?_)
    (refine wpAnyH_take (i := 0) (v := ?_) rfl (by kernel_rfl) (by kernel_rfl) (by kernel_rfl) (fun _ _ _ h => h) (Or.inl ⟨by rfl, ?_⟩) (by assumption) ?_; rotate_left; (focus (intro w hSw; (try dsimp only at hSw); go_simp; (try with_reducible rfl))); (try simp only [List.getElem_toArray, List.getElem_cons_zero, List.getElem_cons_succ, Act.put, List.setIfInBounds_toArray, List.set_cons_zero, List.set_cons_succ])); (refine wpAnyH_take (i := 1) (v := ?_) rfl (by kernel_rfl) (by kernel_rfl) (by kernel_rfl) (fun _ _ _ h => h) (Or.inl ⟨by rfl, ?_⟩) (by assumption) ?_; rotate_left; (focus (intro w hSw; (try dsimp only at hSw); go_simp; (try with_reducible rfl))); (try simp only [List.getElem_toArray, List.getElem_cons_zero, List.getElem_cons_succ, Act.put, List.setIfInBounds_toArray, List.set_cons_zero, List.set_cons_succ])); (refine wpAnyH_take (i := 2) (v := ?_) rfl (by kernel_rfl) (by kernel_rfl) (by kernel_rfl) (fun _ _ _ h => h) (Or.inl ⟨by rfl, ?_⟩) (by assumption) ?_; rotate_left; (focus (intro w hSw; (try dsimp only at hSw); go_simp; (try with_reducible rfl))); (try simp only [List.getElem_toArray, List.getElem_cons_zero, List.getElem_cons_succ, Act.put, List.setIfInBounds_toArray, List.set_cons_zero, List.set_cons_succ])); (refine wpAnyH_take (i := 3) (v := ?_) rfl (by kernel_rfl) (by kernel_rfl) (by kernel_rfl) (fun _ _ _ h => h) (Or.inl ⟨by rfl, ?_⟩) (by assumption) ?_; rotate_left; (focus (intro w hSw; (try dsimp only at hSw); go_simp; (try with_reducible rfl))); (try simp only [List.getElem_toArray, List.getElem_cons_zero, List.getElem_cons_succ, Act.put, List.setIfInBounds_toArray, List.set_cons_zero, List.set_cons_succ])); (refine wpAnyH_take (i := 4) (v := ?_) rfl (by kernel_rfl) (by kernel_rfl) (by kernel_rfl) (fun _ _ _ h => h) (Or.inl ⟨by rfl, ?_⟩) (by assumption) ?_; rotate_left; (focus (intro w hSw; (try dsimp only at hSw); go_simp; (try with_reducible rfl))); (try simp only [List.getElem_toArray, List.getElem_cons_zero, List.getElem_cons_succ, Act.put, List.setIfInBounds_toArray, List.set_cons_zero, List.set_cons_succ]))
    refine wpAnyH_ready (rs := [5]) (by kernel_rfl) (by simp) ?_; refine AllReadyH.cons rfl (fun K hK => ?_) AllReadyH.nil; go_simp
    go_at_call 53
    refine (isMark_any N _ B kk _ ((HBF.out.go HBr.out).1.go HB0d.out)).mono ?_
    rintro e w2 ⟨rfl, hb2⟩
    rw [HMK.out]
    have S2 := old_of (bel HB0d.out hb2)
    have HB2 := S2.2
    clear hb2
    refine hK.out _ _ S2 (fun hHeld => ?_); clear hK K; (try simp only [List.getElem_toArray, List.getElem_cons_zero, List.getElem_cons_succ, Act.put, List.setIfInBounds_toArray, List.set_cons_zero, List.set_cons_succ])
    (refine wpAnyH_take (i := 6) (v := ?_) rfl (by kernel_rfl) (by kernel_rfl) (by kernel_rfl) (fun _ _ _ h => h) (Or.inl ⟨by rfl, ?_⟩) (by assumption) ?_; rotate_left; (focus (intro w hSw; (try dsimp only at hSw); go_simp; (try with_reducible rfl))); (try simp only [List.getElem_toArray, List.getElem_cons_zero, List.getElem_cons_succ, Act.put, List.setIfInBounds_toArray, List.set_cons_zero, List.set_cons_succ])); (refine wpAnyH_take (i := 7) (v := ?_) rfl (by kernel_rfl) (by kernel_rfl) (by kernel_rfl) (fun _ _ _ h => h) (Or.inl ⟨by rfl, ?_⟩) (by assumption) ?_; rotate_left; (focus (intro w hSw; (try dsimp only at hSw); go_simp; (try with_reducible rfl))); (try simp only [List.getElem_toArray, List.getElem_cons_zero, List.getElem_cons_succ, Act.put, List.setIfInBounds_toArray, List.set_cons_zero, List.set_cons_succ])); (refine wpAnyH_take (i := 8) (v := ?_) rfl (by kernel_rfl) (by kernel_rfl) (by kernel_rfl) (fun _ _ _ h => h) (Or.inl ⟨by rfl, ?_⟩) (by assumption) ?_; rotate_left; (focus (intro w hSw; (try dsimp only at hSw); go_simp; (try with_reducible rfl))); (try simp only [List.getElem_toArray, List.getElem_cons_zero, List.getElem_cons_succ, Act.put, List.setIfInBounds_toArray, List.set_cons_zero, List.set_cons_succ])); (refine wpAnyH_take (i := 9) (v := ?_) rfl (by kernel_rfl) (by kernel_rfl) (by kernel_rfl) (fun _ _ _ h => h) (Or.inl ⟨by rfl, ?_⟩) (by assumption) ?_; rotate_left; (focus (intro w hSw; (try dsimp only at hSw); go_simp; (try with_reducible rfl))); (try simp only [List.getElem_toArray, List.getElem_cons_zero, List.getElem_cons_succ, Act.put, List.setIfInBounds_toArray, List.set_cons_zero, List.set_cons_succ])); (refine wpAnyH_take (i := 10) (v := ?_) rfl (by kernel_rfl) (by kernel_rfl) (by kernel_rfl) (fun _ _ _ h => h) (Or.inl ⟨by rfl, ?_⟩) (by assumption) ?_; rotate_left; (focus (intro w hSw; (try dsimp only at hSw); go_simp; (try with_reducible rfl))); (try simp only [List.getElem_toArray, List.getElem_cons_zero, List.getElem_cons_succ, Act.put, List.setIfInBounds_toArray, List.set_cons_zero, List.set_cons_succ])); (refine wpAnyH_take (i := 11) (v := ?_) rfl (by kernel_rfl) (by kernel_rfl) (by kernel_rfl) (fun _ _ _ h => h) (Or.inl ⟨by rfl, ?_⟩) (by assumption) ?_; rotate_left; (focus (intro w hSw; (try dsimp only at hSw); go_simp; (try with_reducible rfl))); (try simp only [List.getElem_toArray, List.getElem_cons_zero, List.getElem_cons_succ, Act.put, List.setIfInBounds_toArray, List.set_cons_zero, List.set_cons_succ])); (refine wpAnyH_take (i := 12) (v := ?_) rfl (by kernel_rfl) (by kernel_rfl) (by kernel_rfl) (fun _ _ _ h => h) (Or.inl ⟨by rfl, ?_⟩) (by assumption) ?_; rotate_left; (focus (intro w hSw; (try dsimp only at hSw); go_simp; (try with_reducible rfl))); (try simp only [List.getElem_toArray, List.getElem_cons_zero, List.getElem_cons_succ, Act.put, List.setIfInBounds_toArray, List.set_cons_zero, List.set_cons_succ])); (refine wpAnyH_take (i := 13) (v := ?_) rfl (by kernel_rfl) (by kernel_rfl) (by kernel_rfl) (fun _ _ _ h => h) (Or.inl ⟨by rfl, ?_⟩) (by assumption) ?_; rotate_left; (focus (intro w hSw; (try dsimp only at hSw); go_simp; (try with_reducible rfl))); (try simp only [List.getElem_toArray, List.getElem_cons_zero, List.getElem_cons_succ, Act.put, List.setIfInBounds_toArray, List.set_cons_zero, List.set_cons_succ])); (refine wpAnyH_take (i := 14) (v := ?_) rfl (by kernel_rfl) (by kernel_rfl) (by kernel_rfl) (fun _ _ _ h => h) (Or.inl ⟨by rfl, ?_⟩) (by assumption) ?_; rotate_left; (focus (intro w hSw; (try dsimp only at hSw); go_simp; (try with_reducible rfl))); (try simp only [List.getElem_toArray, List.getElem_cons_zero, List.getElem_cons_succ, Act.put, List.setIfInBounds_toArray, List.set_cons_zero, List.set_cons_succ])); (refine wpAnyH_take (i := 15) (v := ?_) rfl (by kernel_rfl) (by kernel_rfl) (by kernel_rfl) (fun _ _ _ h => h) (Or.inl ⟨by rfl, ?_⟩) (by assumption) ?_; rotate_left; (focus (intro w hSw; (try dsimp only at hSw); go_simp; (try with_reducible rfl))); (try simp only [List.getElem_toArray, List.getElem_cons_zero, List.getElem_cons_succ, Act.put, List.setIfInBounds_toArray, List.set_cons_zero, List.set_cons_succ])); (refine wpAnyH_take (i := 16) (v := ?_) rfl (by kernel_rfl) (by kernel_rfl) (by kernel_rfl) (fun _ _ _ h => h) (Or.inl ⟨by rfl, ?_⟩) (by assumption) ?_; rotate_left; (focus (intro w hSw; (try dsimp only at hSw); go_simp; (try with_reducible rfl))); (try simp only [List.getElem_toArray, List.getElem_cons_zero, List.getElem_cons_succ, Act.put, List.setIfInBounds_toArray, List.set_cons_zero, List.set_cons_succ])); (refine wpAnyH_take (i := 17) (v := ?_) rfl (by kernel_rfl) (by kernel_rfl) (by kernel_rfl) (fun _ _ _ h => h) (Or.inl ⟨by rfl, ?_⟩) (by assumption) ?_; rotate_left; (focus (intro w hSw; (try dsimp only at hSw); go_simp; (try with_reducible rfl))); (try simp only [List.getElem_toArray, List.getElem_cons_zero, List.getElem_cons_succ, Act.put, List.setIfInBounds_toArray, List.set_cons_zero, List.set_cons_succ])); (refine wpAnyH_take (i := 18) (v := ?_) rfl (by kernel_rfl) (by kernel_rfl) (by kernel_rfl) (fun _ _ _ h => h) (Or.inl ⟨by rfl, ?_⟩) (by assumption) ?_; rotate_left; (focus (intro w hSw; (try dsimp only at hSw); go_simp; (try with_reducible rfl))); (try simp only [List.getElem_toArray, List.getElem_cons_zero, List.getElem_cons_succ, Act.put, List.setIfInBounds_toArray, List.set_cons_zero, List.set_cons_succ])); (refine wpAnyH_take (i := 19) (v := ?_) rfl (by kernel_rfl) (by kernel_rfl) (by kernel_rfl) (fun _ _ _ h => h) (Or.inl ⟨by rfl, ?_⟩) (by assumption) ?_; rotate_left; (focus (intro w hSw; (try dsimp only at hSw); go_simp; (try with_reducible rfl))); (try simp only [List.getElem_toArray, List.getElem_cons_zero, List.getElem_cons_succ, Act.put, List.setIfInBounds_toArray, List.set_cons_zero, List.set_cons_succ]))
    refine wpAnyH_ready (rs := [20]) (by kernel_rfl) (by simp) ?_; refine AllReadyH.cons rfl (fun K hK => ?_) AllReadyH.nil; go_simp
    go_at_call 48
    refine (in_any _ _ _ _ M _ (ints_n HUI.out HPN1.out HQ9.out (bel (bel HEJ.out HCr.out) HB2.out))).mono ?_
    rintro e w3 ⟨rfl, rfl⟩
    rw [HIN.out]
    refine hK.out _ _ S2 (fun hHeld => ?_); clear hK K; (try simp only [List.getElem_toArray, List.getElem_cons_zero, List.getElem_cons_succ, Act.put, List.setIfInBounds_toArray, List.set_cons_zero, List.set_cons_succ])
    (refine wpAnyH_take (i := 21) (v := ?_) rfl (by kernel_rfl) (by kernel_rfl) (by kernel_rfl) (fun _ _ _ h => h) (Or.inl ⟨by rfl, ?_⟩) (by assumption) ?_; rotate_left; (focus (intro w hSw; (try dsimp only at hSw); go_simp; (try with_reducible rfl))); (try simp only [List.getElem_toArray, List.getElem_cons_zero, List.getElem_cons_succ, Act.put, List.setIfInBounds_toArray, List.set_cons_zero, List.set_cons_succ])); (refine wpAnyH_take (i := 22) (v := ?_) rfl (by kernel_rfl) (by kernel_rfl) (by kernel_rfl) (fun _ _ _ h => h) (Or.inl ⟨by rfl, ?_⟩) (by assumption) ?_; rotate_left; (focus (intro w hSw; (try dsimp only at hSw); go_simp; (try with_reducible rfl))); (try simp only [List.getElem_toArray, List.getElem_cons_zero, List.getElem_cons_succ, Act.put, List.setIfInBounds_toArray, List.set_cons_zero, List.set_cons_succ]))
    refine wpAnyH_done (by kernel_rfl) ?_ _; clear hHeld
    clear S2 S0d
    go_wp2
    go_roundw
    case rel => exact ⟨k + 1, by have := HKN.out; omega, by go_num, bel HBr.out HB2.out, bel HCr.out HB2.out⟩
    case measure => simp [intOf]; have := HKN.out; omega
  · go_wp2_with (first
      | (go_at_call 15; refine (works_any _).mono ?_; rintro e wZ ⟨rfl, hbZ⟩; (try clear cr); have HBZ := Lib.hid (bel HBr.out hbZ); have cZ := (old_of HBZ.out).1; clear hbZ))
    go_ret
    exact ⟨rfl, fin HB.out HBZ.out⟩

theorem corder_any (N : Nat) (v u : Value) (B : Bk) (R : Fr) (ts tm tf s t pf pm : Int) (w : World) (h : BookAt N w v B) (hf : FruitsAt N w u R) :
    Calls Try.prog 10 #[v, u, .agg #[.int .i64 ts, .int .i64 tm, .int .i64 tf, .int .i64 s, .int .i64 t, .int .i64 pf, .int .i64 pm]] w fun e w' => e = .returned (.bool true) ∧ Below w.heap.size w w' := by
  by_cases hn : (rdy B R = true ∧ (0 ≤ ts ∧ 0 ≤ tm ∧ 0 ≤ tf) ∧ (ts ≤ 100 ∧ tm ≤ 100 ∧ tf ≤ 100) ∧ (decide (0 ≤ s) && decide (s < (B.ns : Int))) = true ∧ (decide (0 ≤ t) && decide (t < (B.ns : Int))) = true ∧ inPlace B R pf pm = true)
  · obtain ⟨hr, ⟨h1, h2, h3⟩, ⟨h4, h5, h6⟩, hs, ht, hp⟩ := hn
    simp only [Bool.and_eq_true, decide_eq_true_eq] at hs ht
    simp only [inPlace, Bool.and_eq_true, decide_eq_true_eq] at hp
    have e1 : ((ts.toNat : Nat) : Int) = ts := Int.toNat_of_nonneg h1
    have e2 : ((tm.toNat : Nat) : Int) = tm := Int.toNat_of_nonneg h2
    have e3 : ((tf.toNat : Nat) : Int) = tf := Int.toNat_of_nonneg h3
    have e4 : ((s.toNat : Nat) : Int) = s := Int.toNat_of_nonneg hs.1
    have e5 : ((t.toNat : Nat) : Int) = t := Int.toNat_of_nonneg ht.1
    have e6 : ((pf.toNat : Nat) : Int) = pf := Int.toNat_of_nonneg (by omega)
    have e7 : ((pm.toNat : Nat) : Int) = pm := Int.toNat_of_nonneg (by omega)
    have := order_in N v u B R ts.toNat tm.toNat tf.toNat s.toNat t.toNat pf.toNat pm.toNat w h hf hr (by omega) (by omega) (by omega) (by omega) (by omega) (by omega) (by omega)
    rwa [e1, e2, e3, e4, e5, e6, e7] at this
  · exact order_out N v u B R ts tm tf s t pf pm w h hf hn

end Go.Proofs.Ytopajgnemeodeaa
