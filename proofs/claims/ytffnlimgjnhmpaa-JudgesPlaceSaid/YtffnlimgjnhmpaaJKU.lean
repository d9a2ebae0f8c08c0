/-
  JKU: without of a jury.
-/
import Derived.Test.YtffnlimgjnhmpaaJKT
import Derived.Test.YtffnlimgjnhmpaaJLink
namespace Go.Proofs.Ytffnlimgjnhmpaa
open Go.RowKit

theorem drp_eq (J D : Int) : drp J D = min D (max 0 (J - 2) / 2) := rfl
set_option maxHeartbeats 6400000 in
set_option maxRecDepth 100000 in
theorem kwithout_any (N : Nat) (v : Value) (S : JB) (k : Nat) (w : World) (h : ShowAt N w v S) (hG : GoodS S) (hk : (k : Int) < S.J) :
    Calls Try.prog 89 #[v, .int .i64 k] w fun e w' => ∃ v', e = .returned v' ∧ ShowAt w'.heap.size w' v' (withoutJ S k) ∧ Below w.heap.size w w' := by
  obtain ⟨a1, c1, rfl⟩ := h.form
  obtain ⟨wv, hwv, HBv, hszv, hblk⟩ := box1 w (.cells #[.int .i64 S.J, .int .i64 S.D, .int .i64 S.Z, .slice a1 S.np c1] 74)
  obtain ⟨ws, hws, HBs, hszs, hblks⟩ := box1 wv (.cells #[.int .i64 0, .int .i64 0, .int .i64 0, .slice none 0 0] 74)
  have HB : Hid (Below w.heap.size w ws) := HBv.out.trans (HBs.out.mono HBv.out.size)
  have hz0 := (HBs.out.block _ hszv).trans hblk
  have q0 := cell_blk hz0 0 rfl
  have q1 := cell_blk hz0 1 rfl
  have q2 := cell_blk hz0 2 rfl
  have q3 := cell_blk hz0 3 rfl
  have f0 := free_blk hz0 0
  have f1 := free_blk hz0 1
  have HZ0 := Lib.hid hz0
  have HZ2 := Lib.hid hblks
  have HNZ : Hid (N ≤ w.heap.size) := h.1
  have HBK := Lib.hid (h.go HB.out)
  have hvs : wv.heap.size = w.heap.size + 1 := by rw [← hwv]; simp
  have hss : ws.heap.size = w.heap.size + 2 := by rw [← hws]; simp; omega
  have HVS := Lib.hid hvs
  have HSS := Lib.hid hss
  obtain ⟨A, C, hcap, _, hrows, hcells⟩ := HBK.out.plates.open
  have HRW := Lib.hid hrows
  have HCL := Lib.hid hcells
  have HGS := Lib.hid hG
  have HNP : Hid (S.np ≤ 1000) := by have := hG.np; unfold Hid; omega
  have hsz0 : w.heap.size < ws.heap.size := by omega
  have hNS : N ≤ ws.heap.size := HBK.out.1
  have hnp6 : S.np ≤ 6 := hG.np
  have hJ := hG.J1
  have hJ5 := hG.J5
  have hD0 := hG.D0
  have hDJ := hG.DJ
  obtain ⟨mx, hmx⟩ : ∃ mx : Int, max 0 (S.J - 1 - 1) = mx := ⟨_, rfl⟩
  have hmx0 : 0 ≤ mx := by omega
  obtain ⟨hf, hhf⟩ : ∃ hf : Int, mx / 2 = hf := ⟨_, rfl⟩
  obtain ⟨dn, hdn⟩ : ∃ dn : Int, min S.D hf = dn := ⟨_, rfl⟩
  have HDN : Hid (drp S.J S.D = dn) := by unfold Hid; rw [drp_eq, ← hdn, ← hhf, ← hmx, show S.J - 1 - 1 = S.J - 2 by omega]
  have hmaxr : ∀ a b W, (Builtin.max_ a b #[.int .i64 0, .int .i64 (S.J - 1 - 1)]).run Try.prog W = .ok (.int .i64 mx) W := fun a b W => by rw [run_max_int2]; congr 2; rw [← hmx]; split <;> omega
  have hminr : ∀ a b W, (Builtin.min_ a b #[.int .i64 S.D, .int .i64 hf]).run Try.prog W = .ok (.int .i64 dn) W := fun a b W => by rw [run_min_int2]; congr 2; rw [← hdn]; split <;> omega
  have htd : mx.tdiv 2 = hf := by rw [← hhf]; exact Int.tdiv_eq_ediv_of_nonneg hmx0
  have hf0 : 0 ≤ hf := by omega
  have hf2 : hf ≤ 2 := by omega
  clear hz0 hblk hblks h hrows hcells hvs hss hszv hszs hmx hhf hdn
  go_enter Try.func89, Try.ntmps89
  go_upto_region 1 with fail
  clear hwv
  go_upto_region 2 with fail
  clear hws
  obtain ⟨w1, hw1, hz1, ho1, hb1⟩ := set_step (n := w.heap.size) (W0 := ws) HZ0.out (fun _ _ => rfl) 0 (.int .i64 (S.J - 1)) (Nat.le_refl _)
  rw [hw1]
  have HZ1 := Lib.hid hz1
  have HO1 := Lib.hid ho1
  have HB1 := Lib.hid hb1
  clear hw1 hz1 ho1 hb1 q0 q1 q2 q3 f0 f1
  have q0 := cell_blk HZ1.out 0 rfl
  have q1 := cell_blk HZ1.out 1 rfl
  have q3 := cell_blk HZ1.out 3 rfl
  have f1 := free_blk HZ1.out 1
  go_upto_region 3 with fail
  obtain ⟨w2, hw2, hz2, ho2, hb2⟩ := set_step (n := w.heap.size) (W0 := ws) HZ1.out HO1.out 1 (.int .i64 dn) (Nat.le_refl _)
  rw [hw2]
  have HZ2' := Lib.hid hz2
  have HO2 := Lib.hid ho2
  have HB2 : Hid (Below w.heap.size ws w2) := HB1.out.trans hb2
  have hs2 : w2.heap.size = ws.heap.size := by have h1 := HO2.out ws.heap.size (by omega); have h2 := HB2.out.size; rw [Array.getElem?_eq_none (Nat.le_refl _), Array.getElem?_eq_none_iff] at h1; omega
  have HS2 := Lib.hid hs2
  clear hw2 hz2 ho2 hb2 q0 q1 q3 f1 hs2
  have q3 := cell_blk HZ2'.out 3 rfl
  have f3 := free_blk HZ2'.out 3
  have hN2 : N ≤ w2.heap.size := by have := HS2.out; omega
  have hlt2 : w.heap.size < w2.heap.size := by have := HS2.out; omega
  have HCL2 : Hid (0 < S.np → ∃ b off, a1 = some ⟨b, off, none⟩ ∧ b < N ∧ ∀ i, i < S.np → w2.cell? ⟨b, off + i * 2, none⟩ = some (.int .i64 (S.sz i)) ∧ w2.cell? ⟨b, off + i * 2 + 1, none⟩ = some (.slice (A i) (S.pts i).length (C i))) := fun h0 => by
    obtain ⟨b, off, e, hb, hr⟩ := HCL.out h0
    have hne : b ≠ w.heap.size := by have := HNZ.out; omega
    exact ⟨b, off, e, hb, fun i hi => ⟨(World.cell?_of_block (w := ws) (HO2.out b hne)).trans (hr i hi).1, (World.cell?_of_block (w := ws) (HO2.out b hne)).trans (hr i hi).2⟩⟩
  go_upto_region 4 with (go_at_call 97; refine (kcloneP_any N _ S.np _ S.sz (fun i => .slice (A i) (S.pts i).length (C i)) _ hN2 HNP.out HCL2.out).mono ?_; rintro e w3 ⟨v3, rfl, hp3, hb3⟩; obtain ⟨a2, c2, rfl⟩ := hp3.form; have HP3 := Lib.hid hp3; have HB3 : Hid (Below w2.heap.size w2 w3) := hb3; have hx := (hb3.block _ hlt2).trans HZ2'.out; have HX := Lib.hid hx; have x3 := cell_blk hx 3 rfl; have xf3 := free_blk hx 3; clear hp3 hb3 hx)
  obtain ⟨w4, hw4, hz4, ho4, hb4⟩ := set_step (n := w.heap.size) (W0 := w3) HX.out (fun _ _ => rfl) 3 (.slice a2 S.np c2) (Nat.le_refl _)
  rw [hw4]
  have HP4 : Hid (PK ws.heap.size w4 (.slice a2 S.np c2) S.np S.sz (fun i => .slice (A i) (S.pts i).length (C i))) := by
    have := HS2.out
    exact (HP3.out.keep fun g _ h1 _ => ho4 g (by omega)).lower (by omega)
  have HJ4 : Hid (w4.heap[w.heap.size]? = some (.cells #[.int .i64 (S.J - 1), .int .i64 dn, .int .i64 S.Z, .slice a2 S.np c2] 74)) := hz4
  have HR4 : Hid (w4.heap[wv.heap.size]? = some (.cells #[.int .i64 0, .int .i64 0, .int .i64 0, .slice none 0 0] 74)) :=
    (ho4 _ (by have := HVS.out; omega)).trans ((HB3.out.block _ (by have := HS2.out; have := HSS.out; have := HVS.out; omega)).trans ((HO2.out _ (by have := HVS.out; omega)).trans HZ2.out))
  have HB4 : Hid (Below w.heap.size ws w4) := HB2.out.trans ((HB3.out.mono (Nat.le_of_lt hlt2)).trans hb4)
  have hs4 : ws.heap.size ≤ w4.heap.size := by have := HS2.out; have := HB3.out.size; have := hb4.size; omega
  clear hw4 hz4 ho4 hb4 x3 xf3 q3 f3 HP3 HX HB1 HB2 HO1 HO2 HZ1 HZ2' HZ2 HZ0 HCL2 HB3
  have j3 := cell_blk HJ4.out 3 rfl
  go_wp2_with fail
  clear j3
  go_loopw [35] (fun i wr => ∃ (m : Nat) (Y : Nat → Value), m ≤ S.np ∧ i = .int .i64 m ∧ Hid (PK ws.heap.size wr (.slice a2 S.np c2) S.np S.sz (fun i => if i < m then Y i else .slice (A i) (S.pts i).length (C i))) ∧ Hid (∀ i, i < m → RI ws.heap.size wr (Y i) ((S.pts i).eraseIdx k)) ∧ Hid (∀ b, b < ws.heap.size → wr.heap[b]? = w4.heap[b]?) ∧ Hid (Below ws.heap.size w4 wr)) (fun i _ => S.np - (intOf i).toNat)
  case atStart => exact ⟨0, fun _ => undef, Nat.zero_le _, rfl, by unfold Hid; simpa using HP4.out, fun i hi => absurd hi (Nat.not_lt_zero i), fun _ _ => rfl, Below.refl _ _⟩
  case round =>
    obtain ⟨m, Y, hm, rfl, HPr, HYr, HLr, HBr⟩ := hrel
    have HJr := Lib.hid ((HLr.out _ hsz0).trans HJ4.out)
    have r0 := cell_blk HJr.out 0 rfl
    have r1 := cell_blk HJr.out 1 rfl
    have r2 := cell_blk HJr.out 2 rfl
    have r3 := cell_blk HJr.out 3 rfl
    by_cases hmn : m < S.np
    · have hmi : (m : Int) < (S.np : Int) := by omega
      obtain ⟨g, rfl, _, _, hgl, hgs, hgc, hgf, cur, hcur⟩ := HPr.out.at (by omega)
      have gq := (hgc m hmn).2
      rw [if_neg (Nat.lt_irrefl m)] at gq
      have gf := hgf (m * 2 + 1)
      have HGH := Lib.hid hcur
      have HGL := Lib.hid hgl
      have HGK := Lib.hid hgs
      obtain ⟨l, hl⟩ : ∃ l, S.pts m = l := ⟨_, rfl⟩
      have HPL := Lib.hid hl
      have hlC := HRW.out m hmn
      have hlJ := HGS.out.len m hmn
      rw [hl] at gq hlC hlJ
      obtain ⟨n, hn⟩ : ∃ n, l.length = n := ⟨_, rfl⟩
      have HLN := Lib.hid hn
      rw [hn] at gq hlC hlJ
      have HLI : Hid (LI N wr (.slice (A m) n (C m)) l) := hlC.2.mono ((HB4.out.mono HNZ.out).trans (HBr.out.mono hNS)) (Nat.le_refl _)
      have hn40 : n ≤ 40 := by omega
      have hkl : k < n := by omega
      have hNr : N ≤ wr.heap.size := by have := HBr.out.size; omega
      clear hgc hgf hcur hl hn hlC hgl
      go_upto_region 9 with (first
        | (go_at_call 95; refine (kcloneI_any N _ l _ HLI.out (by omega) (by have := HLN.out; omega)).mono ?_; rintro e w5 ⟨v5, rfl, hr5, hb5⟩; rcases hr5 with ⟨h0, _⟩ | ⟨h0, g5, cap5, cur5, rfl, k1, k2, k3, k4⟩; (focus (have := HLN.out; rw [h0] at this; simp at this; omega)); rw [HLN.out] at k2 ⊢; have HB5 : Hid (Below wr.heap.size wr w5) := hb5; have HK5 := Lib.hid (And.intro k1 (And.intro k2 (And.intro k3 k4))); clear hb5 k1 k2 k3 k4 h0)
        | (go_at_call 100; have hdel := kdelete_any g5 cap5 k l cur5 w5 (by rw [HLN.out]; exact hkl) (by rw [HLN.out]; exact hn40) (by rw [HLN.out]; exact HK5.out.2.1) HK5.out.2.2.1 HK5.out.2.2.2; rw [HLN.out] at hdel; refine hdel.mono ?_; clear hdel; rintro e w6 ⟨rfl, cur6, hh6, hc6, ho6, hb6⟩; have HH6 := Lib.hid hh6; have HC6 := Lib.hid hc6; have HO6 := Lib.hid ho6; have HB6 := Lib.hid hb6; have hgg : g ≠ g5 := (by have := HK5.out.1; omega); have gq6 := (World.cell?_of_block (a := ⟨g, m * 2 + 1, none⟩) (ho6 g hgg)).trans ((HB5.out.cell (p := ⟨g, m * 2 + 1, none⟩) hgs).trans gq); have gf6 := free_blk ((ho6 g hgg).trans ((HB5.out.block g hgs).trans HGH.out)) (m * 2 + 1); clear hh6 hc6 ho6 hb6))
      obtain ⟨w7, hw7⟩ : ∃ w7, w6.setCell ⟨g, m * 2 + 1, none⟩ (.slice (some ⟨g5, 0, none⟩) (n - 1) cap5) = w7 := ⟨_, rfl⟩
      rw [hw7]
      have hg5 : wr.heap.size ≤ g5 := HK5.out.1
      have hold : ∀ b, b < wr.heap.size → w6.heap[b]? = wr.heap[b]? := fun b hb => (HO6.out b (by omega)).trans (HB5.out.block b hb)
      have ho7 : ∀ b, b ≠ g → w7.heap[b]? = w6.heap[b]? := fun b hb => by rw [← hw7]; exact Below.heap_setCell _ _ _ _ (by exact hb)
      have hb7 : Below g w6 w7 := by rw [← hw7]; exact (Below.refl g w6).setCell (p := ⟨g, m * 2 + 1, none⟩) (Nat.le_refl _) _
      have HP7 : Hid (PK ws.heap.size w7 (.slice (some ⟨g, 0, none⟩) S.np c2) S.np S.sz (fun i => if i < m + 1 then (if i = m then .slice (some ⟨g5, 0, none⟩) (n - 1) cap5 else Y i) else .slice (A i) (S.pts i).length (C i))) := by
        have h1 := (HPr.out.keep (W' := w6) fun g' e _ h => hold g' h).setRow hmn (.slice (some ⟨g5, 0, none⟩) (n - 1) cap5)
        rw [hw7] at h1
        unfold Hid
        refine (congrArg (PK ws.heap.size w7 (.slice (some ⟨g, 0, none⟩) S.np c2) S.np S.sz) (funext fun i => ?_)).mp h1
        by_cases e1 : i = m
        · subst e1; rw [if_pos rfl, if_pos (Nat.lt_succ_self _), if_pos rfl]
        · by_cases e2 : i < m
          · rw [if_neg e1, if_pos e2, if_pos (by omega), if_neg e1]
          · rw [if_neg e1, if_neg e2, if_neg (by omega)]
      have HY7 : Hid (∀ i, i < m + 1 → RI ws.heap.size w7 (if i = m then .slice (some ⟨g5, 0, none⟩) (n - 1) cap5 else Y i) ((S.pts i).eraseIdx k)) := fun i hi => by
        by_cases e1 : i = m
        · subst e1
          rw [if_pos rfl, HPL.out]
          have hel : (l.eraseIdx k).length = n - 1 := by rw [List.length_eraseIdx_of_lt (by rw [HLN.out]; exact hkl), HLN.out]
          rcases Nat.eq_zero_or_pos (n - 1) with h0 | h0
          · exact .inl ⟨List.length_eq_zero_iff.1 (hel.trans h0), _, _, by rw [h0]⟩
          · refine .inr ⟨by rw [hel]; exact h0, g5, cap5, cur6, by rw [hel], by have := HBr.out.size; omega, by rw [hel]; have := HK5.out.2.1; omega, ?_, ?_⟩
            · rw [ho7 g5 (by have := HGK.out; omega)]; exact HH6.out
            · rw [hel]; intro j hj; exact HC6.out j hj
        · rw [if_neg e1]
          exact (HYr.out i (by omega)).keepT HGH.out (by decide) fun b hb hne => (ho7 b hne).trans (hold b hb)
      have HL7 : Hid (∀ b, b < ws.heap.size → w7.heap[b]? = w4.heap[b]?) := fun b hb => by
        have := HBr.out.size
        exact (ho7 b (by have := HGL.out; omega)).trans ((hold b (by omega)).trans (HLr.out b hb))
      have HB7 : Hid (Below ws.heap.size w4 w7) := HBr.out.trans ((HB5.out.mono (by have := HBr.out.size; omega)).trans ((HB6.out.mono (by have := HBr.out.size; omega)).trans (hb7.mono HGL.out)))
      clear hw7 ho7 hb7 hold gq6 gf6 gq gf
      go_wp2_with fail
      go_roundw
      case rel => exact ⟨m + 1, _, by omega, by go_num, HP7, HY7, HL7, HB7⟩
      case measure => simp [intOf]; omega
    · have hmi : ¬ (m : Int) < (S.np : Int) := by omega
      have hme : m = S.np := by omega
      have HME := Lib.hid hme
      have HRr := Lib.hid ((HLr.out wv.heap.size (by have := HSS.out; have := HVS.out; omega)).trans HR4.out)
      have e0 := free_blk HRr.out 0
      have e1 := free_blk HRr.out 1
      have e2 := free_blk HRr.out 2
      have e3 := free_blk HRr.out 3
      have v0 := cell_blk HRr.out 0 rfl
      have v1 := cell_blk HRr.out 1 rfl
      have v2 := cell_blk HRr.out 2 rfl
      have v3 := cell_blk HRr.out 3 rfl
      clear hme
      go_wp2_with fail
      obtain ⟨w6, hw6, hz6, ho6, hb6⟩ := put4o HRr.out (.int .i64 (S.J - 1)) (.int .i64 dn) (.int .i64 S.Z) (.slice a2 S.np c2)
      rw [hw6]
      refine bodyPost_ret (v := .agg #[.int .i64 (S.J - 1), .int .i64 dn, .int .i64 S.Z, .slice a2 S.np c2]) (resJury rfl rfl hz6) rfl ?_
      have hBf : Below w.heap.size w w6 := HB.out.trans (HB4.out.trans ((HBr.out.mono (Nat.le_of_lt hsz0)).trans (hb6.mono (by have := HVS.out; omega))))
      have hne : ∀ b, ws.heap.size ≤ b → b ≠ wv.heap.size := fun b hb => by have := HSS.out; have := HVS.out; omega
      have hp6 := HPr.out.keep (W' := w6) fun g' e h1 _ => ho6 g' (hne g' h1)
      refine ⟨_, rfl, ?_, hBf⟩
      have hfin := hp6.show (pts := (withoutJ S k).pts) (by have := HNP.out; omega) (fun i hi => ?_) (S.J - 1) dn S.Z
      · rw [show withoutJ S k = ⟨S.J - 1, dn, S.Z, S.np, S.sz, (withoutJ S k).pts⟩ by unfold withoutJ; rw [HDN.out]]
        exact hfin
      · have hy := (HYr.out i (by have := HME.out; omega)).keep (W' := w6) fun g' _ h1 _ => ho6 g' (hne g' h1)
        simp only [if_pos (show i < m by have := HME.out; omega)]
        obtain ⟨ya, yc, hyv⟩ := hy.form
        refine ⟨ya, yc, hyv, ?_, hy.li ?_⟩
        · rcases hy with ⟨h0, _⟩ | ⟨_, g', cap', cur', ev, _, k2, _⟩
          · show ((S.pts i).eraseIdx k).length ≤ yc
            rw [h0]; exact Nat.zero_le _
          · rw [ev] at hyv; cases hyv
            exact k2
        · have h1 := HGS.out.len i hi
          have h2 := List.length_eraseIdx_le (S.pts i) k
          omega

end Go.Proofs.Ytffnlimgjnhmpaa
