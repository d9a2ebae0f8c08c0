/-
  LFits: ScionsFits returns true.
-/
import Derived.Test.YtnnngbnimmcjiaaSame
import Derived.Test.YtnnngbnimmcjiaaWorks
import Derived.Test.YtnnngbnimmcjiaaCopy
namespace Go.Proofs.Ytnnngbnimmcjiaa
open Go.RowKit

theorem wpList_cloneI (w : World) {ops : Array Oper} {rest : List Oper} {o : Oper} {a : Act} {Q : Exit → Act → World → Prop} (hgd : o.guard = none) (s x : Operand)
    (ho : o.op = .call { callee := .builtin .append, args := #[s, x], argTypes := #[22, 22] }) (hty : o.type = 22)
    (N g : Nat) (A : Option Addr) (m c : Nat) (X : Nat → Int) (hs : a.eval s = .slice (some ⟨g, 0, none⟩) 0 0) (hx : a.eval x = .slice A m c)
    (hi : IntsAt N w (.slice A m c) m X) (hN : N ≤ w.heap.size) (h40 : m ≤ 1000000)
    (h : ∀ v' w', IB w.heap.size w' v' m X → Below w.heap.size w w' → wpList Try.prog ops Q rest (a.put o.dst v') w') : wpList Try.prog ops Q (o :: rest) a w :=
  wpList_plain hgd fun K hK => wp_cloneI w s x ho hty N g A m c X hs hx hi hN h40 fun v' w' r1 r2 => hK _ _ (h v' w' r1 r2)

theorem copy_near (N : Nat) (v : Value) (B : SB) (w : World) (h : BookAt N w v B) (h1 : B.ns ≤ 40) (h2 : B.ng ≤ 40) (h3 : B.nw ≤ 40) :
    Calls Try.prog 26 #[v] w fun e w' => ∃ b1 d1 b2 d2 b3 d3, e = .returned (.agg #[.slice b1 B.ns d1, .slice b2 B.ng d2, .slice b3 B.nw d3]) ∧ OwnB w.heap.size w' (.agg #[.slice b1 B.ns d1, .slice b2 B.ng d2, .slice b3 B.nw d3]) B ∧ BookAt w'.heap.size w' (.agg #[.slice b1 B.ns d1, .slice b2 B.ng d2, .slice b3 B.nw d3]) B ∧ Below w.heap.size w w' := by
  refine (copy_any N v B w h (by omega) (by omega) (by omega)).mono ?_
  rintro e w' ⟨v', rfl, ho, hb⟩
  have hbk := ho.book (by omega) (by omega) (by omega)
  obtain ⟨b1, d1, b2, d2, b3, d3, rfl⟩ := hbk.form
  exact ⟨_, _, _, _, _, _, rfl, ho, hbk, hb⟩
theorem eLost_len (B : SB) (n : Nat) (x : Nat → Int) (f : Int) : (eLost B n x f).1.length ≤ 140737488351232 := by
  unfold eLost
  split
  · split
    · have := sel_len (lostP B (natL n x) f.toNat) 4; simp only; omega
    · simp
  · simp

set_option maxHeartbeats 4000000 in
set_option maxRecDepth 100000 in
theorem cfits_any (N M : Nat) (v u : Value) (B : SB) (n : Nat) (x : Nat → Int) (f : Int) (w : World) (h : BookAt N w v B) (hu : IntsAt M w u n x) (hM : M ≤ w.heap.size) :
    Calls Try.prog 8 #[v, u, .int .i64 f] w fun e w' => e = .returned (.bool true) ∧ Below w.heap.size w w' := by
  have hn := hu.len
  obtain ⟨au, cu, rfl, _, _⟩ := id hu
  have h' := h
  obtain ⟨_, a1, z1, a2, z2, a3, z3, rfl, _⟩ := h'
  obtain ⟨ws, hws, HB, hsz, hblk⟩ := box1 w (.cells #[.slice a1 B.ns z1, .slice a2 B.ng z2, .slice a3 B.nw z3] 26)
  have q0 := cell_blk hblk 0 rfl
  have q1 := cell_blk hblk 1 rfl
  have q2 := cell_blk hblk 2 rfl
  have HBK := Lib.hid (h.go HB.out)
  have HB0 : Hid (Below ws.heap.size ws ws) := Below.refl _ _
  have HNS : Hid (N ≤ ws.heap.size) := HBK.out.1
  have hlens := h.lens
  obtain ⟨hlv, hls, hln⟩ := hlens
  clear hblk h
  have HX := Lib.hid (hu.go hM HB.out)
  have HM : Hid (M ≤ ws.heap.size) := Nat.le_trans hM HB.out.size
  clear hu hM
  cases hfar : farL B with
  | true =>
    have HFA := Lib.hid hfar
    clear hfar
    go_enter Try.func8, Try.ntmps8
    go_wp2_with (first
      | (go_at_call 33; refine (Far_any N _ B _ (HBK.out.go HB0.out)).mono ?_; rintro e w1 ⟨rfl, hb1⟩; rw [HFA.out]; (try clear c0); have HB1 := Lib.hid (bel HB0.out hb1); have c1 := (old_of HB1.out).1; clear hb1)
      | (go_at_call 14; refine (works_any _).mono ?_; rintro e w2 ⟨rfl, hb2⟩; (try clear c1); have HB2 := Lib.hid (bel HB1.out hb2); have c2 := (old_of HB2.out).1; clear hb2))
    go_ret
    exact ⟨rfl, fin HB.out HB2.out⟩
  | false =>
    have HFA := Lib.hid hfar
    obtain ⟨l1, l2, l3, _⟩ := farL_le hfar
    have HNE := Lib.hid (And.intro l1 (And.intro l2 l3))
    clear hfar l1 l2 l3
    by_cases h40 : 40 < n
    · have h40i : (40 : Int) < (n : Int) := by omega
      clear h40
      go_enter Try.func8, Try.ntmps8
      go_wp2_with (first
        | (go_at_call 33; refine (Far_any N _ B _ (HBK.out.go HB0.out)).mono ?_; rintro e w1 ⟨rfl, hb1⟩; rw [HFA.out]; (try clear c0); have HB1 := Lib.hid (bel HB0.out hb1); have c1 := (old_of HB1.out).1; clear hb1)
        | (go_at_call 14; refine (works_any _).mono ?_; rintro e w2 ⟨rfl, hb2⟩; (try clear c1); have HB2 := Lib.hid (bel HB1.out hb2); have c2 := (old_of HB2.out).1; clear hb2))
      go_ret
      exact ⟨rfl, fin HB.out HB2.out⟩
    · have h40i : ¬ (40 : Int) < (n : Int) := by omega
      have hn1 : n ≤ 1000 := by omega
      have HNN := Lib.hid hn1
      have HLL := Lib.hid (eLost_len B n x f)
      have HSL : Hid (sameI (eLost B n x f).1.length (fun i => (eLost B n x f).1.getD i 0) (eLost B n x f).1.length (fun i => (eLost B n x f).1.getD i 0) = true) := sameI_self _ _
      have HSX : Hid (sameI n x n x = true) := sameI_self _ _
      obtain ⟨ef, hef⟩ : ∃ z, (eFits B n x).2 = z := ⟨_, rfl⟩
      obtain ⟨bf, hbf⟩ : ∃ z, (eFits B n x).1 = z := ⟨_, rfl⟩
      obtain ⟨el, hel⟩ : ∃ z, (eLost B n x f).2 = z := ⟨_, rfl⟩
      obtain ⟨ec, hec⟩ : ∃ z : Int, (if okL B then 0 else 60) = z := ⟨_, rfl⟩
      have HEF := Lib.hid hef
      have HBB := Lib.hid hbf
      have HEL := Lib.hid hel
      have HEC := Lib.hid hec
      clear h40 hn1 hef hbf hel hec
      go_enter Try.func8, Try.ntmps8
      go_upto_region 4 with (first
        | (go_at_call 33; refine (Far_any N _ B _ (HBK.out.go HB0.out)).mono ?_; rintro e w1 ⟨rfl, hb1⟩; rw [HFA.out]; (try clear c0); have HB1 := Lib.hid (bel HB0.out hb1); have c1 := (old_of HB1.out).1; clear hb1)
        | (go_at_call 26; refine (copy_near N _ B _ (HBK.out.go HB1.out) HNE.out.1 HNE.out.2.1 HNE.out.2.2).mono ?_; rintro e w2 ⟨b1, d1, b2, d2, b3, d3, rfl, how2, hbk2, hb2⟩; clear how2; have HBK2 := Lib.hid hbk2; clear hbk2; (try clear c1); have HB2 := Lib.hid (bel HB1.out hb2); have c2 := (old_of HB2.out).1; clear hb2)
        | (at_builtin; refine wpList_cloneI _ rfl _ _ rfl rfl M w2.heap.size _ n _ x rfl rfl (HX.out.go HM.out (HB2.out.trans (below_alloc HB2.out.size _))) (Nat.le_trans HM.out (HB2.out.trans (below_alloc HB2.out.size _)).size) (by have := HNN.out; omega) ?_; intro v' w3 hi3 hb3; obtain ⟨b4, d4, rfl⟩ := hi3.form; have HBa : Hid (Below w2.heap.size w2 w3) := (below_alloc (Nat.le_refl _) _).trans (hb3.mono (by simp)); have HI3 := Lib.hid (hi3.ints HNN.out); clear hi3 hb3; have HB3 : Hid (Below ws.heap.size ws w3) := bel HB2.out HBa.out; have HBK3 := Lib.hid (HBK2.out.mono HBa.out HBa.out.size (Nat.le_refl _)); clear c2; obtain ⟨w4, hw4, HB34, hsz4, hblk4⟩ := box1 w3 (.cells #[.slice b1 B.ns d1, .slice b2 B.ng d2, .slice b3 B.nw d3] 26); have x0 := cell_blk hblk4 0 rfl; have x1 := cell_blk hblk4 1 rfl; have x2 := cell_blk hblk4 2 rfl; have HB4 : Hid (Below ws.heap.size ws w4) := bel HB3.out HB34.out; have HI4 := Lib.hid (HI3.out.mono HB34.out HB34.out.size); have HX4 : Hid (IntsAt w4.heap.size w4 (.slice au n cu) n x) := Lib.hid ((HX.out.go HM.out HB4.out).mono (Below.refl _ _) (Nat.le_trans HM.out HB4.out.size)); have HBK4 := Lib.hid (HBK3.out.mono HB34.out HB34.out.size (Nat.le_refl _)); have HBF4 : Hid (BookAt w4.heap.size w4 _ B) := Lib.hid ((HBK.out.go HB4.out).mono (Below.refl _ _) (Nat.le_trans HNS.out HB4.out.size) (Nat.le_refl _)); clear hblk4))
      have hsz4b : w.heap.size < w4.heap.size := Nat.lt_of_lt_of_le hsz HB4.out.size
      have r0 := (HB4.out.cell (p := ⟨w.heap.size, 0, none⟩) hsz).trans q0
      have r1 := (HB4.out.cell (p := ⟨w.heap.size, 1, none⟩) hsz).trans q1
      have r2 := (HB4.out.cell (p := ⟨w.heap.size, 2, none⟩) hsz).trans q2
      clear hws q0 q1 q2
      have HBZ : Hid (Below w4.heap.size w4 w4) := Below.refl _ _
      have SZd := old_of HBZ.out.drew; have HBZd := SZd.2
      refine wp_region_held_drew (S := (fun w' => (∀ b o, b < w4.heap.size → w'.cell? ⟨b, o, none⟩ = w4.cell? ⟨b, o, none⟩) ∧ Hid (Below w4.heap.size w4 w'))) (by kernel_rfl) SZd (fun hHeld => ?_)
      (refine wpAnyH_take (i := 0) (v := ?_) rfl (by kernel_rfl) (by kernel_rfl) (by kernel_rfl) (fun _ _ _ h => h) (Or.inl ⟨by rfl, ?_⟩) (by assumption) ?_; rotate_left; (focus (intro w hSw; (try dsimp only at hSw); go_simp; (try with_reducible rfl))); (try simp only [List.getElem_toArray, List.getElem_cons_zero, List.getElem_cons_succ, Act.put, List.setIfInBounds_toArray, List.set_cons_zero, List.set_cons_succ]))
      (refine wpAnyH_take (i := 2) (v := ?_) rfl (by kernel_rfl) (by kernel_rfl) (by kernel_rfl) (fun _ _ _ h => h) (Or.inl ⟨by rfl, ?_⟩) (by assumption) ?_; rotate_left; (focus (intro w hSw; (try dsimp only at hSw); go_simp; (try with_reducible rfl))); (try simp only [List.getElem_toArray, List.getElem_cons_zero, List.getElem_cons_succ, Act.put, List.setIfInBounds_toArray, List.set_cons_zero, List.set_cons_succ]))
      refine wpAnyH_ready (rs := [1]) (by kernel_rfl) (by simp) ?_; refine AllReadyH.cons rfl (fun K hK => ?_) AllReadyH.nil; go_simp
      go_at_call 34
      refine (kCheck_any w4.heap.size _ B _ (HBK4.out.go HBZd.out)).mono ?_
      rw [HEC.out]
      rintro e w5 ⟨rfl, hb5⟩
      have S5 := old_of (bel HBZd.out hb5)
      have HB5 := S5.2
      clear hb5
      refine hK.out _ _ S5 (fun hHeld => ?_); clear hK K; (try simp only [List.getElem_toArray, List.getElem_cons_zero, List.getElem_cons_succ, Act.put, List.setIfInBounds_toArray, List.set_cons_zero, List.set_cons_succ])
      refine wpAnyH_ready (rs := [3]) (by kernel_rfl) (by simp) ?_; refine AllReadyH.cons rfl (fun K hK => ?_) AllReadyH.nil; go_simp
      go_at_call 35
      refine (rCheck_any w4.heap.size _ B _ (HBF4.out.go HB5.out)).mono ?_
      rw [HEC.out]
      rintro e w6 ⟨rfl, hb6⟩
      have S6 := old_of (bel HB5.out hb6)
      have HB6 := S6.2
      clear hb6 S5
      refine hK.out _ _ S6 (fun hHeld => ?_); clear hK K; (try simp only [List.getElem_toArray, List.getElem_cons_zero, List.getElem_cons_succ, Act.put, List.setIfInBounds_toArray, List.set_cons_zero, List.set_cons_succ])
      (refine wpAnyH_take (i := 4) (v := ?_) rfl (by kernel_rfl) (by kernel_rfl) (by kernel_rfl) (fun _ _ _ h => h) (Or.inl ⟨by rfl, ?_⟩) (by assumption) ?_; rotate_left; (focus (intro w hSw; (try dsimp only at hSw); go_simp; (try with_reducible rfl))); (try simp only [List.getElem_toArray, List.getElem_cons_zero, List.getElem_cons_succ, Act.put, List.setIfInBounds_toArray, List.set_cons_zero, List.set_cons_succ]))
      refine wpAnyH_done (by kernel_rfl) ?_ _; clear hHeld
      have c6 := S6.1
      clear S6
      go_wp2_with (first
        | (go_at_call 18; refine (kFits_any w4.heap.size w4.heap.size _ _ B n x _ (HBK4.out.go HB6.out) (HI4.out.go (Nat.le_refl _) HB6.out) HB6.out.size).mono ?_; rw [HEF.out, HBB.out]; rintro e w7 ⟨rfl, hb7⟩; (try clear c6); have HB7 := Lib.hid (bel HB6.out hb7); have c7 := (old_of HB7.out).1; clear hb7)
        | (go_at_call 36; refine (rFits_any w4.heap.size w4.heap.size _ _ B n x _ (HBF4.out.go HB7.out) (HX4.out.go (Nat.le_refl _) HB7.out) HB7.out.size).mono ?_; rw [HEF.out, HBB.out]; rintro e w8 ⟨rfl, hb8⟩; (try clear c7); have HB8 := Lib.hid (bel HB7.out hb8); have c8 := (old_of HB8.out).1; clear hb8)
        | (go_at_call 28; refine (kLost_any w4.heap.size w4.heap.size _ _ B n x f _ (HBK4.out.go HB8.out) (HI4.out.go (Nat.le_refl _) HB8.out) HB8.out.size).mono ?_; rw [HEL.out]; rintro e w9 ⟨v9, rfl, ho9, hb9⟩; have P9 := Lib.hid ho9; clear ho9; (try clear c8); have HB9 := Lib.hid (bel HB8.out hb9); have c9 := (old_of HB9.out).1; clear hb9)
        | (go_at_call 37; refine (rLost_any w4.heap.size w4.heap.size _ _ B n x f _ (HBF4.out.go HB9.out) (HX4.out.go (Nat.le_refl _) HB9.out) HB9.out.size).mono ?_; rw [HEL.out]; rintro e wA ⟨vA, rfl, hoA, hbA⟩; replace P9 := Lib.hid (show OwnI _ _ _ _ from own_below P9.out hbA); have PA := Lib.hid hoA; clear hoA; (try clear c9); have HBA := Lib.hid (bel HB9.out hbA); have cA := (old_of HBA.out).1; clear hbA)
        | (go_at_call 32; have hx1 := PA; clear PA; refine (sameInts_any _ _ _ _ _ _ _ _ (P9.out.ints HLL.out) (hx1.out.ints HLL.out)).mono ?_; rintro e wE ⟨rfl, qE, hE⟩; rw [HSL.out]; have hbE : Below wA.heap.size wA wE := (by rw [hE]; exact below_drewN (Below.refl _ _) _); clear P9 hx1 hE; (try clear cA); have HBE := Lib.hid (bel HBA.out hbE); have cE := (old_of HBE.out).1; clear hbE)
        | (go_at_call 38; refine (same_any _ _ _ _ B _ (HBK4.out.go HBE.out) (HBF4.out.go HBE.out)).mono ?_; rintro e wF ⟨rfl, hbF⟩; (try clear cE); have HBF := Lib.hid (bel HBE.out hbF); have cF := (old_of HBF.out).1; clear hbF)
        | (go_at_call 32; refine (sameInts_any w4.heap.size _ _ _ _ _ _ _ (HI4.out.go (Nat.le_refl _) HBF.out) (HX4.out.go (Nat.le_refl _) HBF.out)).mono ?_; rintro e wG ⟨rfl, qG, hG⟩; rw [HSX.out]; have hbG : Below wF.heap.size wF wG := (by rw [hG]; exact below_drewN (Below.refl _ _) _); clear hG; (try clear cF); have HBG := Lib.hid (bel HBF.out hbG); have cG := (old_of HBG.out).1; clear hbG)
        | (go_at_call 14; refine (works_any _).mono ?_; rintro e wH ⟨rfl, hbH⟩; (try clear cG); have HBH := Lib.hid (bel HBG.out hbH); have cH := (old_of HBH.out).1; clear hbH))
      go_ret
      exact ⟨rfl, fin HB.out (fin HB4.out HBH.out)⟩

end Go.Proofs.Ytnnngbnimmcjiaa
