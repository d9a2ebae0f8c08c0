/-
  RWith: the reference's list without the wants of a garden.
-/
import Derived.Test.YtnnngbnimmcjiaaRSafe
namespace Go.Proofs.Ytnnngbnimmcjiaa
open Go.RowKit

theorem pairL_congr {x y x' y' : Nat → Int} : ∀ n, (∀ i, i < n → x i = x' i ∧ y i = y' i) → pairL n x y = pairL n x' y' := by
  intro n
  induction n with
  | zero => intro _; rfl
  | succ n ih =>
    intro h
    unfold pairL
    rw [ih fun i hi => h i (by omega), (h n (by omega)).1, (h n (by omega)).2]
/-- the wants of a list of numbers, as they lie -/
def wantsV (B : SB) (L : List Nat) : List Value := pairL L.length (fun i => B.G (L.getD i 0)) (fun i => B.S (L.getD i 0))
theorem wantsV_snoc (B : SB) (L : List Nat) (k : Nat) : wantsV B (L ++ [k]) = wantsV B L ++ [.int .i64 (B.G k), .int .i64 (B.S k)] := by
  unfold wantsV
  rw [List.length_append, List.length_singleton]
  show pairL L.length _ _ ++ _ = _
  rw [pairL_congr (x' := fun i => B.G (L.getD i 0)) (y' := fun i => B.S (L.getD i 0)) L.length fun i hi => ?_]
  · congr 2 <;> simp [List.getD]
  · simp [List.getD, List.getElem?_append_left hi]
theorem two_cells {W : World} {b : Nat} {x y : Int} {t : TypeId} (h : W.heap[b]? = some (.cells #[.int .i64 x, .int .i64 y] t)) : ∀ (j : Nat) (u : Value), [Value.int .i64 x, .int .i64 y][j]? = some u → W.cell? ((⟨b, 0, none⟩ : Addr).add j) = some u := by
  intro j u hj
  rw [show ((⟨b, 0, none⟩ : Addr).add j) = ⟨b, j, none⟩ by unfold Addr.add; split <;> simp_all]
  rcases j with _ | _ | j
  · exact cell_blk h 0 (by simpa using hj)
  · exact cell_blk h 1 (by simpa using hj)
  · simp at hj
theorem keptL_hit {x : Nat → Int} {d : Int} {k : Nat} (h : x k ≠ d) : keptL x d (k + 1) = keptL x d k ++ [k] := by simp [keptL, h]
theorem keptL_miss {x : Nat → Int} {d : Int} {k : Nat} (h : x k = d) : keptL x d (k + 1) = keptL x d k := by simp [keptL, h]

set_option maxHeartbeats 6400000 in
set_option maxRecDepth 100000 in
theorem rwithout_any (N : Nat) (v : Value) (B : SB) (p : Nat) (d : Int) (w : World) (h : BookAt N w v B) (hG : GoodL B p) :
    Calls Try.prog 71 #[v, .int .i64 d] w fun e w' => (∃ v', e = .returned v' ∧ BookAt w'.heap.size w' v' (delB B d)) ∧ Below w.heap.size w w' := by
  obtain ⟨a1, z1, a2, z2, a3, z3, rfl⟩ := h.form
  obtain ⟨i1, hi1, hy0, hy1, hy2⟩ := info_parts Try.infoW
  obtain ⟨ws, hws, HB, hsz, hsz1, hblk, hblk1⟩ := box2 w (.cells #[.slice a1 B.ns z1, .slice a2 B.ng z2, .slice a3 B.nw z3] 26) (.cells #[.slice none 0 0, .slice none 0 0, .slice none 0 0] 26)
  have q0 := cell_blk hblk 0 rfl
  have q1 := cell_blk hblk 1 rfl
  have q2 := cell_blk hblk 2 rfl
  have HBK := Lib.hid (h.go HB.out)
  have HNS : Hid (N ≤ ws.heap.size) := HBK.out.1
  have HR1 := Lib.hid hblk1
  have HB0 : Hid (Below ws.heap.size ws ws) := Below.refl _ _
  have hnw := hG.nw
  have HG := Lib.hid hG
  have hns := hG.ns
  have hng := hG.ng
  clear hblk hblk1 h hG
  go_enter Try.func71, Try.ntmps71
  go_wp2_with (go_at_call 26; refine (copy_any N _ B _ (HBK.out.go HB0.out) (by omega) (by omega) (by omega)).mono ?_; rintro e w1 ⟨v1, rfl, ho1, hb1⟩; obtain ⟨u1, u2, u3, rfl, i1', i2', i3'⟩ := ho1; obtain ⟨b1, d1, rfl⟩ := i1'.form; obtain ⟨b2, d2, rfl⟩ := i2'.form; obtain ⟨b3, d3, rfl⟩ := i3'.form; have HI1 := Lib.hid i1'; have HI2 := Lib.hid i2'; clear i1' i2' i3'; have HB1 : Hid (Below ws.heap.size ws w1) := hb1; clear hb1; obtain ⟨w2, hw2, HB12, hsz2, hblk2⟩ := box1 w1 (.cells #[.slice b1 B.ns d1, .slice b2 B.ng d2, .slice b3 B.nw d3] 26); have x2 := cell_blk hblk2 2 rfl; have y2 := free_blk hblk2 2; have HK2 := Lib.hid hblk2; clear hblk2)
  obtain ⟨o, ho⟩ : ∃ o, w1.heap.size = o := ⟨_, rfl⟩
  have HO := Lib.hid ho
  obtain ⟨w3, hw3, hg3, ho3, hb3⟩ := set_step (n := w1.heap.size) (W0 := w2) HK2.out (fun _ _ => rfl) 2 (.slice none 0 0) (Nat.le_refl _)
  have hb13 : Below w1.heap.size w1 w3 := HB12.out.trans hb3
  rw [hw3]
  rw [ho] at hg3 hb13 ⊢
  have HG3 : Hid (w3.heap[o]? = some (.cells #[.slice b1 B.ns d1, .slice b2 B.ng d2, .slice none 0 0] 26)) := hg3
  have HB13 := Lib.hid hb13
  have hwo : ws.heap.size ≤ o := by rw [← ho]; exact HB1.out.size
  clear hws hw3 hg3 ho3 hb3 hb13 hw2 x2 y2 HB12 ho
  go_loopw [6] (fun i wr => ∃ (k : Nat) (av : Option Addr) (cv : Nat), k ≤ B.nw ∧ i = .int .i64 k ∧ Hid (wr.heap[o]? = some (.cells #[.slice b1 B.ns d1, .slice b2 B.ng d2, .slice av (keptL B.G d k).length cv] 26)) ∧ Hid (wr.ownsRow (o + 1) 43 2 (.slice av (keptL B.G d k).length cv) (keptL B.G d k).length (wantsV B (keptL B.G d k))) ∧ Hid (Below o w1 wr)) (fun i _ => B.nw - (intOf i).toNat)
  case atStart => exact ⟨0, none, 0, Nat.zero_le _, rfl, HG3, World.ownsRow_nil _ _ _ _, HB13⟩
  case round =>
    obtain ⟨k, av, cv, hk, rfl, HOB, HOW, HBr⟩ := hrel
    have HBw : Hid (Below ws.heap.size ws wr) := HB1.out.trans (HBr.out.mono hwo)
    have r0 := (HBw.out.cell (p := ⟨w.heap.size, 0, none⟩) hsz).trans q0
    have r1 := (HBw.out.cell (p := ⟨w.heap.size, 1, none⟩) hsz).trans q1
    have r2 := (HBw.out.cell (p := ⟨w.heap.size, 2, none⟩) hsz).trans q2
    have hor : o < wr.heap.size := heap_lt HOB.out
    by_cases hkn : k < B.nw
    · have hki : (k : Int) < (B.nw : Int) := by omega
      obtain ⟨b5, o5, e5, hb5, hr5⟩ := HBK.out.wants.cells (by omega)
      cases e5
      have hb5s : b5 < ws.heap.size := by have := HNS.out; omega
      have c0 := (HBw.out.cell (p := ⟨b5, o5 + k * 2, none⟩) hb5s).trans (hr5 k hkn).1
      have c1 := (HBw.out.cell (p := ⟨b5, o5 + k * 2 + 1, none⟩) hb5s).trans (hr5 k hkn).2
      obtain ⟨gk, hgk⟩ : ∃ gk, B.G k = gk := ⟨_, rfl⟩
      obtain ⟨sk, hsk⟩ : ∃ sk, B.S k = sk := ⟨_, rfl⟩
      have HGK := Lib.hid hgk
      have HSK := Lib.hid hsk
      rw [hgk] at c0
      rw [hsk] at c1
      have hkl := keptL_len B.G d k
      clear hr5 hgk hsk
      by_cases hd : gk = d
      · subst hd
        have HKM := Lib.hid (keptL_miss HGK.out)
        go_wp2
        go_roundw
        case rel => exact ⟨k + 1, av, cv, by omega, by go_num, by rw [HKM.out]; exact HOB, by rw [HKM.out]; exact HOW, HBr⟩
        case measure => simp [intOf]; omega
      · have hdb : (gk != d) = true := by simpa using hd
        have HKH := Lib.hid (keptL_hit (x := B.G) (d := d) (k := k) (by rw [HGK.out]; exact hd))
        have HWS : Hid (wantsV B (keptL B.G d k ++ [k]) = wantsV B (keptL B.G d k) ++ [.int .i64 gk, .int .i64 sk]) := by unfold Hid; rw [wantsV_snoc, HGK.out, HSK.out]
        obtain ⟨L, hL⟩ : ∃ L, keptL B.G d k = L := ⟨_, rfl⟩
        rw [hL] at HKH HWS HOW HOB hkl
        obtain ⟨n, hn⟩ : ∃ n, L.length = n := ⟨_, rfl⟩
        have HN := Lib.hid hn
        rw [hn] at HOW HOB hkl
        clear hL hn hd
        have hb5o : b5 < o := by omega
        have hwho : w.heap.size < o := by omega
        have HBZ : Hid (Below o wr wr) := Below.refl _ _
        have HBZd : Hid (Below o wr wr.drew) := HBZ.out.drew
        have SZd := old_of HBZd.out
        go_wp2
        refine wp_region_held_drew (S := fun w' => (∀ b off, b < o → w'.cell? ⟨b, off, none⟩ = wr.cell? ⟨b, off, none⟩) ∧ Hid (Below o wr w')) (by kernel_rfl) SZd (fun hHeld => ?_)
        (refine wpAnyH_take (i := 0) (v := ?_) rfl (by kernel_rfl) (by kernel_rfl) (by kernel_rfl) (fun _ _ _ h => h) (Or.inl ⟨by rfl, ?_⟩) (by assumption) ?_; rotate_left; (focus (intro w hSw; (try dsimp only at hSw); go_simp; (try with_reducible rfl))); (try simp only [List.getElem_toArray, List.getElem_cons_zero, List.getElem_cons_succ, Act.put, List.setIfInBounds_toArray, List.set_cons_zero, List.set_cons_succ]))
        (refine wpAnyH_take (i := 2) (v := ?_) rfl (by kernel_rfl) (by kernel_rfl) (by kernel_rfl) (fun _ _ _ h => h) (Or.inl ⟨by rfl, ?_⟩) (by assumption) ?_; rotate_left; (focus (intro w hSw; (try dsimp only at hSw); go_simp; (try with_reducible rfl))); (try simp only [List.getElem_toArray, List.getElem_cons_zero, List.getElem_cons_succ, Act.put, List.setIfInBounds_toArray, List.set_cons_zero, List.set_cons_succ])); (refine wpAnyH_take (i := 3) (v := ?_) rfl (by kernel_rfl) (by kernel_rfl) (by kernel_rfl) (fun _ _ _ h => h) (Or.inl ⟨by rfl, ?_⟩) (by assumption) ?_; rotate_left; (focus (intro w hSw; (try dsimp only at hSw); go_simp; (try with_reducible rfl))); (try simp only [List.getElem_toArray, List.getElem_cons_zero, List.getElem_cons_succ, Act.put, List.setIfInBounds_toArray, List.set_cons_zero, List.set_cons_succ])); (refine wpAnyH_take (i := 4) (v := ?_) rfl (by kernel_rfl) (by kernel_rfl) (by kernel_rfl) (fun _ _ _ h => h) (Or.inl ⟨by rfl, ?_⟩) (by assumption) ?_; rotate_left; (focus (intro w hSw; (try dsimp only at hSw); go_simp; (try with_reducible rfl))); (try simp only [List.getElem_toArray, List.getElem_cons_zero, List.getElem_cons_succ, Act.put, List.setIfInBounds_toArray, List.set_cons_zero, List.set_cons_succ])); (refine wpAnyH_take (i := 5) (v := ?_) rfl (by kernel_rfl) (by kernel_rfl) (by kernel_rfl) (fun _ _ _ h => h) (Or.inl ⟨by rfl, ?_⟩) (by assumption) ?_; rotate_left; (focus (intro w hSw; (try dsimp only at hSw); go_simp; (try with_reducible rfl))); (try simp only [List.getElem_toArray, List.getElem_cons_zero, List.getElem_cons_succ, Act.put, List.setIfInBounds_toArray, List.set_cons_zero, List.set_cons_succ])); (refine wpAnyH_take (i := 6) (v := ?_) rfl (by kernel_rfl) (by kernel_rfl) (by kernel_rfl) (fun _ _ _ h => h) (Or.inl ⟨by rfl, ?_⟩) (by assumption) ?_; rotate_left; (focus (intro w hSw; (try dsimp only at hSw); go_simp; (try with_reducible rfl))); (try simp only [List.getElem_toArray, List.getElem_cons_zero, List.getElem_cons_succ, Act.put, List.setIfInBounds_toArray, List.set_cons_zero, List.set_cons_succ]))
        have x2 := cell_blk (show wr.drew.heap[o]? = _ from HOB.out) 2 rfl
        obtain ⟨wd, hwd⟩ : ∃ wd : World, wr.drew = wd := ⟨_, rfl⟩
        have HOBd : Hid (wd.heap[o]? = _) := (show wd.heap[o]? = wr.heap[o]? by rw [← hwd]; rfl).trans HOB.out
        have HOWd : Hid (wd.ownsRow (o + 1) 43 2 (.slice av n cv) n (wantsV B L)) := by rw [← hwd]; exact own_below HOW.out (Below.refl _ _).drew
        have hord : o < wd.heap.size := heap_lt HOBd.out
        rw [hwd] at HBZd SZd hHeld x2 ⊢
        clear hwd
        refine wpAnyH_ready (rs := [1, 7]) (by kernel_rfl) (by simp) ?_
        refine AllReadyH.cons rfl (fun K hK => ?_) (AllReadyH.cons rfl (fun K hK => ?_) AllReadyH.nil)
        · go_simp
          refine hK.out _ _ SZd (fun hHeld => ?_)
          clear hK K
          (try simp only [List.getElem_toArray, List.getElem_cons_zero, List.getElem_cons_succ, Act.put, List.setIfInBounds_toArray, List.set_cons_zero, List.set_cons_succ])
          refine wpAnyH_ready (rs := [7]) (by kernel_rfl) (by simp) ?_; refine AllReadyH.cons rfl (fun K hK => ?_) AllReadyH.nil; go_simp
          obtain ⟨wa, hwa, HBa, hsza, hblka⟩ := box1 wd (.cells #[.int .i64 gk, .int .i64 sk] 43)
          rw [hwa]
          have Sa := old_of (HBZd.out.trans (HBa.out.mono (Nat.le_of_lt hord)))
          refine hK.out _ _ Sa (fun hHeld => ?_)
          clear hK K
          (try simp only [List.getElem_toArray, List.getElem_cons_zero, List.getElem_cons_succ, Act.put, List.setIfInBounds_toArray, List.set_cons_zero, List.set_cons_succ])
          refine wpAnyH_ready (rs := [8]) (by kernel_rfl) (by simp) ?_
          refine AllReadyH.cons rfl (fun K hK => ?_) AllReadyH.nil
          rw [if_pos (by rfl)]
          refine wp_append_own (P := Try.prog) _ (.tmp 26) (.tmp 32) 24 rfl (o + 1) 43 i1 (.agg #[.int .i64 0, .int .i64 0]) 2 16 Try.underlying24 hi1 hy0 hy1 hy2 rfl (by decide) (.slice av n cv) n (wantsV B L) rfl (own_below HOWd.out HBa.out) ⟨wd.heap.size, 0, none⟩ 1 1 [.int .i64 gk, .int .i64 sk] rfl rfl (two_cells hblka) (by simp [Value.oneCell']) (by unfold maxLen; omega) (by omega) (by omega) fun v' w' hown hgrow _ => ?_
          obtain ⟨av', cv', rfl⟩ : ∃ a c, v' = .slice a (n + 1) c := by
            obtain ⟨_, ⟨rfl, h2⟩ | ⟨g, cap, cur, rfl, _⟩⟩ := id hown
            · omega
            · exact ⟨_, _, rfl⟩
          have hog := hgrow.block o (by omega) (fun e => by have := (HOWd.out.lt o e.symm).1; omega)
          have HOB9 := Lib.hid (hog.trans ((HBa.out.block o hord).trans HOBd.out))
          have HB9 : Hid (Below o wr w') := (HBZd.out.trans (HBa.out.mono (Nat.le_of_lt hord))).grown hgrow (by omega) (fun j e => by have := (HOWd.out.lt j e).1; omega)
          have HOW9 := Lib.hid hown
          have S9 := old_of HB9.out
          clear hown hgrow hog
          refine hK.out _ _ S9 (fun hHeld => ?_)
          clear hK K
          (try simp only [List.getElem_toArray, List.getElem_cons_zero, List.getElem_cons_succ, Act.put, List.setIfInBounds_toArray, List.set_cons_zero, List.set_cons_succ])
          (refine wpAnyH_take (i := 9) (v := ?_) rfl (by kernel_rfl) (by kernel_rfl) (by kernel_rfl) (fun _ _ _ h => h) (Or.inl ⟨by rfl, ?_⟩) (by assumption) ?_; rotate_left; (focus (intro w hSw; (try dsimp only at hSw); go_simp; (try with_reducible rfl))); (try simp only [List.getElem_toArray, List.getElem_cons_zero, List.getElem_cons_succ, Act.put, List.setIfInBounds_toArray, List.set_cons_zero, List.set_cons_succ]))
          have t2 := cell_blk HOB9.out 2 rfl
          have f2 := free_blk HOB9.out 2
          refine wpAnyH_ready (rs := [10]) (by kernel_rfl) (by simp) ?_; refine AllReadyH.cons rfl (fun K hK => ?_) AllReadyH.nil; go_simp
          obtain ⟨wf, hwf, hgf, hof, hbf⟩ := set_step (n := o) (W0 := w') HOB9.out (fun _ _ => rfl) 2 (.slice av' (n + 1) cv') (Nat.le_refl _)
          rw [hwf]
          have HBf : Hid (Below o wr wf) := HB9.out.trans hbf
          have Sf := old_of HBf.out
          have HOF : Hid (wf.heap[o]? = some (.cells #[.slice b1 B.ns d1, .slice b2 B.ng d2, .slice av' (n + 1) cv'] 26)) := hgf
          have HOWF : Hid (wf.ownsRow (o + 1) 43 2 (.slice av' (n + 1) cv') (n + 1) (wantsV B L ++ [.int .i64 gk, .int .i64 sk])) := by
            obtain ⟨k1, k2 | ⟨g, cap, cur, k3, k4, k5, k6⟩⟩ := HOW9.out
            · exact ⟨k1, .inl k2⟩
            · exact ⟨k1, .inr ⟨g, cap, cur, k3, k4, (hof g (by omega)).trans k5, k6⟩⟩
          clear hwf hgf hof hbf t2 f2
          refine hK.out _ _ Sf (fun hHeld => ?_)
          clear hK K
          refine wpAnyH_done (by kernel_rfl) ?_ _
          clear hHeld Sf S9 Sa SZd x2
          go_wp2
          go_roundw
          case rel => exact ⟨k + 1, av', cv', by omega, by go_num, by rw [HKH.out, List.length_append, HN.out]; exact HOF, by rw [HKH.out, List.length_append, HN.out, HWS.out]; exact HOWF, HBr.out.trans HBf.out⟩
          case measure => simp [intOf]; omega
        · go_simp
          obtain ⟨wa, hwa, HBa, hsza, hblka⟩ := box1 wd (.cells #[.int .i64 gk, .int .i64 sk] 43)
          rw [hwa]
          have Sa := old_of (HBZd.out.trans (HBa.out.mono (Nat.le_of_lt hord)))
          refine hK.out _ _ Sa (fun hHeld => ?_)
          clear hK K
          (try simp only [List.getElem_toArray, List.getElem_cons_zero, List.getElem_cons_succ, Act.put, List.setIfInBounds_toArray, List.set_cons_zero, List.set_cons_succ])
          have x2 := (HBa.out.cell (p := ⟨o, 2, none⟩) hord).trans x2
          refine wpAnyH_ready (rs := [1]) (by kernel_rfl) (by simp) ?_; refine AllReadyH.cons rfl (fun K hK => ?_) AllReadyH.nil; go_simp
          refine hK.out _ _ Sa (fun hHeld => ?_)
          clear hK K
          (try simp only [List.getElem_toArray, List.getElem_cons_zero, List.getElem_cons_succ, Act.put, List.setIfInBounds_toArray, List.set_cons_zero, List.set_cons_succ])
          refine wpAnyH_ready (rs := [8]) (by kernel_rfl) (by simp) ?_
          refine AllReadyH.cons rfl (fun K hK => ?_) AllReadyH.nil
          rw [if_pos (by rfl)]
          refine wp_append_own (P := Try.prog) _ (.tmp 26) (.tmp 32) 24 rfl (o + 1) 43 i1 (.agg #[.int .i64 0, .int .i64 0]) 2 16 Try.underlying24 hi1 hy0 hy1 hy2 rfl (by decide) (.slice av n cv) n (wantsV B L) rfl (own_below HOWd.out HBa.out) ⟨wd.heap.size, 0, none⟩ 1 1 [.int .i64 gk, .int .i64 sk] rfl rfl (two_cells hblka) (by simp [Value.oneCell']) (by unfold maxLen; omega) (by omega) (by omega) fun v' w' hown hgrow _ => ?_
          obtain ⟨av', cv', rfl⟩ : ∃ a c, v' = .slice a (n + 1) c := by
            obtain ⟨_, ⟨rfl, h2⟩ | ⟨g, cap, cur, rfl, _⟩⟩ := id hown
            · omega
            · exact ⟨_, _, rfl⟩
          have hog := hgrow.block o (by omega) (fun e => by have := (HOWd.out.lt o e.symm).1; omega)
          have HOB9 := Lib.hid (hog.trans ((HBa.out.block o hord).trans HOBd.out))
          have HB9 : Hid (Below o wr w') := (HBZd.out.trans (HBa.out.mono (Nat.le_of_lt hord))).grown hgrow (by omega) (fun j e => by have := (HOWd.out.lt j e).1; omega)
          have HOW9 := Lib.hid hown
          have S9 := old_of HB9.out
          clear hown hgrow hog
          refine hK.out _ _ S9 (fun hHeld => ?_)
          clear hK K
          (try simp only [List.getElem_toArray, List.getElem_cons_zero, List.getElem_cons_succ, Act.put, List.setIfInBounds_toArray, List.set_cons_zero, List.set_cons_succ])
          (refine wpAnyH_take (i := 9) (v := ?_) rfl (by kernel_rfl) (by kernel_rfl) (by kernel_rfl) (fun _ _ _ h => h) (Or.inl ⟨by rfl, ?_⟩) (by assumption) ?_; rotate_left; (focus (intro w hSw; (try dsimp only at hSw); go_simp; (try with_reducible rfl))); (try simp only [List.getElem_toArray, List.getElem_cons_zero, List.getElem_cons_succ, Act.put, List.setIfInBounds_toArray, List.set_cons_zero, List.set_cons_succ]))
          have t2 := cell_blk HOB9.out 2 rfl
          have f2 := free_blk HOB9.out 2
          refine wpAnyH_ready (rs := [10]) (by kernel_rfl) (by simp) ?_; refine AllReadyH.cons rfl (fun K hK => ?_) AllReadyH.nil; go_simp
          obtain ⟨wf, hwf, hgf, hof, hbf⟩ := set_step (n := o) (W0 := w') HOB9.out (fun _ _ => rfl) 2 (.slice av' (n + 1) cv') (Nat.le_refl _)
          rw [hwf]
          have HBf : Hid (Below o wr wf) := HB9.out.trans hbf
          have Sf := old_of HBf.out
          have HOF : Hid (wf.heap[o]? = some (.cells #[.slice b1 B.ns d1, .slice b2 B.ng d2, .slice av' (n + 1) cv'] 26)) := hgf
          have HOWF : Hid (wf.ownsRow (o + 1) 43 2 (.slice av' (n + 1) cv') (n + 1) (wantsV B L ++ [.int .i64 gk, .int .i64 sk])) := by
            obtain ⟨k1, k2 | ⟨g, cap, cur, k3, k4, k5, k6⟩⟩ := HOW9.out
            · exact ⟨k1, .inl k2⟩
            · exact ⟨k1, .inr ⟨g, cap, cur, k3, k4, (hof g (by omega)).trans k5, k6⟩⟩
          clear hwf hgf hof hbf t2 f2
          refine hK.out _ _ Sf (fun hHeld => ?_)
          clear hK K
          refine wpAnyH_done (by kernel_rfl) ?_ _
          clear hHeld Sf S9 Sa SZd x2
          go_wp2
          go_roundw
          case rel => exact ⟨k + 1, av', cv', by omega, by go_num, by rw [HKH.out, List.length_append, HN.out]; exact HOF, by rw [HKH.out, List.length_append, HN.out, HWS.out]; exact HOWF, HBr.out.trans HBf.out⟩
          case measure => simp [intOf]; omega
    · have hkk : k = B.nw := by omega
      subst hkk
      have x0 := cell_blk HOB.out 0 rfl
      have x1 := cell_blk HOB.out 1 rfl
      have x2 := cell_blk HOB.out 2 rfl
      have hz := (HBw.out.block (w.heap.size + 1) hsz1).trans HR1.out
      have z0 := cell_blk hz 0 rfl
      have z1' := cell_blk hz 1 rfl
      have z2' := cell_blk hz 2 rfl
      have y0 := free_blk hz 0
      have y1 := free_blk hz 1
      have y2 := free_blk hz 2
      have HZ := Lib.hid hz
      clear hz
      go_wp2
      obtain ⟨w4, hw4, hg4, ho4, hb4⟩ := put3o HZ.out (.slice b1 B.ns d1) (.slice b2 B.ng d2) (.slice av (keptL B.G d B.nw).length cv)
      rw [hw4]
      refine bodyPost_ret (v := .agg #[.slice b1 B.ns d1, .slice b2 B.ng d2, .slice av (keptL B.G d B.nw).length cv]) (resL rfl rfl hg4) rfl ?_
      have hB4 : Below w.heap.size w w4 := (fin HB.out HBw.out).trans (hb4.mono (by omega))
      have hsz4 : wr.heap.size ≤ w4.heap.size := hb4.size
      have hke : ∀ g, ws.heap.size ≤ g → w4.heap[g]? = wr.heap[g]? := fun g hg => ho4 g (by omega)
      have j1 : IB ws.heap.size w4 (.slice b1 B.ns d1) B.ns B.C := HI1.out.keep fun g hg hl => by rw [hke g hg, HBr.out.block g (by rw [← HO.out]; exact hl)]
      have j2 : PB ws.heap.size w4 (.slice b2 B.ng d2) B.ng B.P B.F := HI2.out.keep fun g hg hl => by rw [hke g hg, HBr.out.block g (by rw [← HO.out]; exact hl)]
      have j3 : PB (o + 1) w4 (.slice av (keptL B.G d B.nw).length cv) (keptL B.G d B.nw).length (fun i => B.G ((keptL B.G d B.nw).getD i 0)) (fun i => B.S ((keptL B.G d B.nw).getD i 0)) := (PB.of_own HOW.out).keep fun g hg hl => hke g (by omega)
      have hkl := keptL_len B.G d B.nw
      exact ⟨⟨_, rfl, Nat.le_refl _, b1, d1, b2, d2, av, cv, rfl, j1.ints (by omega), j2.pairs (by omega), j3.pairs (by omega)⟩, hB4⟩

end Go.Proofs.Ytnnngbnimmcjiaa
