/-
  JKW: rank of a jury: what it compares by, and the sort.
  JKX: the sort by insertion of rank.
  JKY: rank of a jury.
-/
import Derived.Test.YtffnlimgjnhmpaaJRank
import Derived.Test.YtffnlimgjnhmpaaJKF
import Derived.Test.YtffnlimgjnhmpaaJKR
import Derived.Test.YtffnlimgjnhmpaaJKV
import Derived.Test.YtffnlimgjnhmpaaJKE
namespace Go.Proofs.Ytffnlimgjnhmpaa
open Go.RowKit

/-- block jb holds the show -/
def JBX (W : World) (jb : Nat) (a1 : Option Addr) (c1 : Nat) (S : JB) : Prop := W.heap[jb]? = some (.cells #[.int .i64 S.J, .int .i64 S.D, .int .i64 S.Z, .slice a1 S.np c1] 74)

set_option maxHeartbeats 3200000 in
set_option maxRecDepth 100000 in
theorem rank1_any (N jb : Nat) (a1 : Option Addr) (c1 : Nat) (S : JB) (i j : Nat) (w : World) (h : ShowAt N w (.agg #[.int .i64 S.J, .int .i64 S.D, .int .i64 S.Z, .slice a1 S.np c1]) S) (hR : RdJ S) (hX : JBX w jb a1 c1 S) (hi : i < S.np) (hj : j < S.np) :
    Calls Try.prog 93 #[.int .i64 i, .int .i64 j, .pointer (some ⟨jb, 0, none⟩)] w fun e w' => e = .returned (.int .i64 (scC (hiT S j) (S.sz j) (hiT S i) (S.sz i))) ∧ Below w.heap.size w w' := by
  have HR := Lib.hid hR
  have HBK := Lib.hid h
  have hjw : jb < w.heap.size := heap_lt hX
  have q0 := cell_blk hX 0 rfl
  have q1 := cell_blk hX 1 rfl
  have q2 := cell_blk hX 2 rfl
  have q3 := cell_blk hX 3 rfl
  have HSQ : Hid (∀ W, Below w.heap.size w W → (W.cell? ⟨jb, 0, none⟩ = some (.int .i64 S.J) ∧ W.cell? ⟨jb, 1, none⟩ = some (.int .i64 S.D) ∧ W.cell? ⟨jb, 2, none⟩ = some (.int .i64 S.Z) ∧ W.cell? ⟨jb, 3, none⟩ = some (.slice a1 S.np c1))) := fun W hW => ⟨(hW.cell (p := ⟨jb, 0, none⟩) hjw).trans q0, (hW.cell (p := ⟨jb, 1, none⟩) hjw).trans q1, (hW.cell (p := ⟨jb, 2, none⟩) hjw).trans q2, (hW.cell (p := ⟨jb, 3, none⟩) hjw).trans q3⟩
  obtain ⟨ti, hti⟩ : ∃ x, hiT S i = x := ⟨_, rfl⟩
  obtain ⟨tj, htj⟩ : ∃ x, hiT S j = x := ⟨_, rfl⟩
  obtain ⟨si, hsi⟩ : ∃ x, S.sz i = x := ⟨_, rfl⟩
  obtain ⟨sj, hsj⟩ : ∃ x, S.sz j = x := ⟨_, rfl⟩
  have HT := Lib.hid (And.intro hti (And.intro htj (And.intro hsi hsj)))
  rw [hti, htj, hsi, hsj]
  clear h hR hX q0 q1 q2 q3 hti htj hsi hsj
  go_enter Try.func93, Try.ntmps93
  go_upto_region 1 with fail
  have hS0 := HSQ.out w.drew (Below.refl _ _).drew
  refine wp_region_held_drew (S := fun W => (W.cell? ⟨jb, 0, none⟩ = some (.int .i64 S.J) ∧ W.cell? ⟨jb, 1, none⟩ = some (.int .i64 S.D) ∧ W.cell? ⟨jb, 2, none⟩ = some (.int .i64 S.Z) ∧ W.cell? ⟨jb, 3, none⟩ = some (.slice a1 S.np c1))) (by kernel_rfl) hS0 (fun hHeld => ?_)
  (refine wpAnyH_take (i := 0) (v := ?_) rfl (by kernel_rfl) (by kernel_rfl) (by kernel_rfl) (fun _ _ _ h => h) (Or.inl ⟨by rfl, ?_⟩) (by assumption) ?_; rotate_left; (focus (intro w hSw; (try dsimp only at hSw); go_simp; (try with_reducible rfl))); (try simp only [List.getElem_toArray, List.getElem_cons_zero, List.getElem_cons_succ, Act.put, List.setIfInBounds_toArray, List.set_cons_zero, List.set_cons_succ])); (refine wpAnyH_take (i := 1) (v := ?_) rfl (by kernel_rfl) (by kernel_rfl) (by kernel_rfl) (fun _ _ _ h => h) (Or.inl ⟨by rfl, ?_⟩) (by assumption) ?_; rotate_left; (focus (intro w hSw; (try dsimp only at hSw); go_simp; (try with_reducible rfl))); (try simp only [List.getElem_toArray, List.getElem_cons_zero, List.getElem_cons_succ, Act.put, List.setIfInBounds_toArray, List.set_cons_zero, List.set_cons_succ]))
  (refine wpAnyH_take (i := 3) (v := ?_) rfl (by kernel_rfl) (by kernel_rfl) (by kernel_rfl) (fun _ _ _ h => h) (Or.inl ⟨by rfl, ?_⟩) (by assumption) ?_; rotate_left; (focus (intro w hSw; (try dsimp only at hSw); go_simp; (try with_reducible rfl))); (try simp only [List.getElem_toArray, List.getElem_cons_zero, List.getElem_cons_succ, Act.put, List.setIfInBounds_toArray, List.set_cons_zero, List.set_cons_succ])); (refine wpAnyH_take (i := 4) (v := ?_) rfl (by kernel_rfl) (by kernel_rfl) (by kernel_rfl) (fun _ _ _ h => h) (Or.inl ⟨by rfl, ?_⟩) (by assumption) ?_; rotate_left; (focus (intro w hSw; (try dsimp only at hSw); go_simp; (try with_reducible rfl))); (try simp only [List.getElem_toArray, List.getElem_cons_zero, List.getElem_cons_succ, Act.put, List.setIfInBounds_toArray, List.set_cons_zero, List.set_cons_succ]))
  refine wpAnyH_ready (rs := [2]) (by kernel_rfl) (by simp) ?_; refine AllReadyH.cons rfl (fun K hK => ?_) AllReadyH.nil; go_simp
  go_at_call 82
  refine (kmost_any N _ S j _ (HBK.out.go (Below.refl _ _).drew) HR.out hj).mono ?_
  rw [HT.out.2.1, HT.out.2.2.2]
  rintro e w1 ⟨rfl, hb1⟩
  have HC1 : Hid (Below w.heap.size w w1) := (Below.refl _ _).drew.trans hb1
  have hS1 := HSQ.out w1 HC1.out
  clear hb1
  refine hK.out _ _ hS1 (fun hHeld => ?_); clear hK K; (try simp only [List.getElem_toArray, List.getElem_cons_zero, List.getElem_cons_succ, Act.put, List.setIfInBounds_toArray, List.set_cons_zero, List.set_cons_succ])
  refine wpAnyH_ready (rs := [5]) (by kernel_rfl) (by simp) ?_; refine AllReadyH.cons rfl (fun K hK => ?_) AllReadyH.nil; go_simp
  go_at_call 82
  refine (kmost_any N _ S i _ (HBK.out.go HC1.out) HR.out hi).mono ?_
  rw [HT.out.1, HT.out.2.2.1]
  rintro e w2 ⟨rfl, hb2⟩
  have HC2 : Hid (Below w.heap.size w w2) := bel HC1.out hb2
  have hS2 := HSQ.out w2 HC2.out
  clear hb2 hS1
  refine hK.out _ _ hS2 (fun hHeld => ?_); clear hK K; (try simp only [List.getElem_toArray, List.getElem_cons_zero, List.getElem_cons_succ, Act.put, List.setIfInBounds_toArray, List.set_cons_zero, List.set_cons_succ])
  refine wpAnyH_ready (rs := [6]) (by kernel_rfl) (by simp) ?_; refine AllReadyH.cons rfl (fun K hK => ?_) AllReadyH.nil; go_simp
  go_at_call 94
  refine (scompare_any _ _ _ _ _).mono ?_
  rintro e w3 ⟨rfl, hb3⟩
  have HC3 : Hid (Below w.heap.size w w3) := bel HC2.out hb3
  have hS3 := HSQ.out w3 HC3.out
  clear hb3 hS2
  refine hK.out _ _ hS3 (fun hHeld => ?_); clear hK K; (try simp only [List.getElem_toArray, List.getElem_cons_zero, List.getElem_cons_succ, Act.put, List.setIfInBounds_toArray, List.set_cons_zero, List.set_cons_succ])
  (refine wpAnyH_take (i := 7) (v := ?_) rfl (by kernel_rfl) (by kernel_rfl) (by kernel_rfl) (fun _ _ _ h => h) (Or.inl ⟨by rfl, ?_⟩) (by assumption) ?_; rotate_left; (focus (intro w hSw; (try dsimp only at hSw); go_simp; (try with_reducible rfl))); (try simp only [List.getElem_toArray, List.getElem_cons_zero, List.getElem_cons_succ, Act.put, List.setIfInBounds_toArray, List.set_cons_zero, List.set_cons_succ]))
  refine wpAnyH_done (by kernel_rfl) ?_ _; clear hHeld
  clear hS3
  go_wp2_with fail
  go_ret
  exact ⟨rfl, HC3.out⟩

end Go.Proofs.Ytffnlimgjnhmpaa

namespace Go.Proofs.Ytffnlimgjnhmpaa
open Go.RowKit

theorem ltS_sc (S : JB) (k x : Nat) : decide (scC (hiT S x) (S.sz x) (hiT S k) (S.sz k) < 0) = ltS S k x := by
  rw [scC_neg]; unfold ltS; rw [Int.toNat_natCast, Int.toNat_natCast]; rfl
theorem JBX.go {w w' : World} {jb : Nat} {a1 : Option Addr} {c1 : Nat} {S : JB} {lo : Nat} (h : JBX w jb a1 c1 S) (hb : Below lo w w') (hl : jb < lo) : JBX w' jb a1 c1 S := (hb.block jb hl).trans h

set_option maxHeartbeats 6400000 in
set_option maxRecDepth 100000 in
theorem insCmp_any (N jb lo : Nat) (a1 : Option Addr) (c1 : Nat) (S : JB) (v : Value) (n : Nat) (w : World) (hsh : ShowAt N w (.agg #[.int .i64 S.J, .int .i64 S.D, .int .i64 S.Z, .slice a1 S.np c1]) S) (hRJ : RdJ S) (hX : JBX w jb a1 c1 S) (hNl : N ≤ lo) (hjl : jb < lo) (hlo : lo ≤ w.heap.size) (h : RI lo w v (upTo n)) (hn : S.np = n) (hl : n ≤ 6) :
    Calls Try.prog 113 #[v, .int .i64 0, .int .i64 n, .func (.func 93) #[] #[.pointer (some ⟨jb, 0, none⟩)]] w fun e w' => (∃ r, e = .returned r) ∧ (∃ L, L.Perm (upTo n) ∧ RO (ltS S) n n L ∧ RI lo w' v L) ∧ Below lo w w' := by
  have hnl := upTo_len n
  obtain ⟨av, cv, rfl⟩ := h.form
  rw [hnl] at h ⊢
  have HR := Lib.hid h
  have HSH := Lib.hid hsh
  have HRJ := Lib.hid hRJ
  have HX := Lib.hid hX
  have HNP := Lib.hid hn
  have HUL := Lib.hid hnl
  clear h hsh hRJ hX hn hnl
  go_enter Try.func113, Try.ntmps113
  go_wp2_with fail
  go_loopw [8, 9] (fun i j wr => ∃ k : Nat, k ≤ n + 1 ∧ 1 ≤ k ∧ i = .int .i64 k ∧ Hid (∃ L, L.Perm (upTo n) ∧ RO (ltS S) n (min k n) L ∧ RI lo wr (.slice av n cv) L ∧ Below lo w wr)) (fun i _ _ => n + 1 - (intOf i).toNat)
  case atStart => exact ⟨1, by omega, by omega, by go_num, upTo n, List.Perm.refl _, ro_start _ _ _ (by omega), HR.out, Below.refl _ _⟩
  case round =>
    obtain ⟨k, hk, hk1, rfl, hI⟩ := hrel
    obtain ⟨L, hp, hu, hr, hb⟩ := hI
    have HL := Lib.hid (And.intro hp (And.intro hu (And.intro hr hb)))
    clear hp hu hr hb
    by_cases hkn : k < n
    · have hki : (k : Int) < (n : Int) := by omega
      go_wp2_with fail
      obtain ⟨wo, hwo⟩ : ∃ wo, wo = wr := ⟨_, rfl⟩
      subst hwo
      go_loopw [9] (fun j wr => ∃ m : Nat, m ≤ k ∧ j = .int .i64 m ∧ Hid (∃ L, L.Perm (upTo n) ∧ RN (ltS S) n k m L ∧ RI lo wr (.slice av n cv) L ∧ Below lo w wr)) (fun j _ => (intOf j).toNat)
      case atStart => exact ⟨k, Nat.le_refl _, rfl, L, HL.out.1, rn_start (by have := HL.out.2.1; rw [Nat.min_eq_left (by omega)] at this; exact this) hkn, HL.out.2.2.1, HL.out.2.2.2⟩
      case round =>
        obtain ⟨m, hm, rfl, hI⟩ := hrel
        obtain ⟨M, hp, hs, hr, hb⟩ := hI
        have hlen : M.length = n := hp.length_eq.trans HUL.out
        by_cases hm0 : m = 0
        · have hmd : decide ((0 : Int) < (m : Int)) = false := decide_eq_false (by omega)
          have hmdn : decide (0 < m) = false := decide_eq_false (by omega)
          have HM := Lib.hid (And.intro hp (And.intro (rn_zero (hm0 ▸ hs) hkn) (And.intro hr hb)))
          have hmi : ¬ (0 : Int) < (m : Int) := by omega
          clear hp hs hr hb hlen hm0
          go_wp2_with fail
          go_quiet (fail)
          go_wp2_with fail
          go_roundw
          case rel => exact ⟨k + 1, by omega, by omega, by go_num, M, HM.out.1, by rw [Nat.min_eq_left (by omega)]; exact HM.out.2.1, HM.out.2.2.1.keep fun _ _ _ _ => rfl, HM.out.2.2.2.trans (below_drewN (Below.refl _ _) _)⟩
          case measure => simp [intOf]; omega
        · obtain ⟨q, hqm⟩ : ∃ q, m = q + 1 := ⟨m - 1, by omega⟩
          obtain ⟨g, rfl, hq⟩ := hr.addr (by omega)
          clear hq
          obtain ⟨hgw, hlg, hcl, hfr, cur, hcur⟩ := hr.at (by omega)
          obtain ⟨x, hx⟩ : ∃ x : Nat, M.getD q 0 = x := ⟨(M.getD q 0).toNat, by have := hs.2.2.2.1 q (by omega) (by omega); omega⟩
          have hxk : x < k := by have := hs.2.2.2.1 q (by omega) (by omega); omega
          have hy : M.getD m 0 = k := hs.2.2.1
          have cq := hcl q (by omega)
          have cm := hcl m (by omega)
          rw [hx] at cq
          rw [hy] at cm
          have HM := Lib.hid (And.intro hp (And.intro hs (And.intro hr hb)))
          have HXY := Lib.hid (And.intro hx hy)
          have HLE := Lib.hid hlen
          have HQM := Lib.hid hqm
          have HXK : Hid (x < S.np ∧ k < S.np) := by unfold Hid; rw [HNP.out]; omega
          have hqi : (q : Int) < (n : Int) := by omega
          have hq0 : (0 : Int) ≤ (q : Int) := by omega
          have hmi : (m : Int) < (n : Int) := by omega
          have hqn : q < n := by omega
          have hmn : m < n := by omega
          have hpd : decide ((0 : Int) < (m : Int)) = true := decide_eq_true (by omega)
          have hpdn : decide (0 < m) = true := decide_eq_true (by omega)
          have hw1 : IntKind.i64.wrap ((m : Int) - 1) = (q : Int) := by rw [show (m : Int) - 1 = (q : Int) by omega]; exact IntWalk.i64_in _ (by omega)
          obtain ⟨sv, hsv⟩ : ∃ sv, scC (hiT S x) (S.sz x) (hiT S k) (S.sz k) = sv := ⟨_, rfl⟩
          have HSV := Lib.hid hsv
          have HLT : Hid (decide (sv < 0) = ltS S k x) := by unfold Hid; rw [← hsv]; exact ltS_sc S k x
          have HSW : Hid (∀ W, Below wr.heap.size wr W → W.cell? ⟨g, m, none⟩ = some (.int .i64 k) ∧ W.cell? ⟨g, q, none⟩ = some (.int .i64 x)) := fun W hW => ⟨(hW.cell (p := ⟨g, m, none⟩) hgw).trans cm, (hW.cell (p := ⟨g, q, none⟩) hgw).trans cq⟩
          have HLW : Hid (lo ≤ wr.heap.size) := by have := hb.size; unfold Hid; omega
          clear hp hs hr hb hx hy hlen hcl hfr hcur hm0 hqm hsv hxk cq cm
          cases hlt : ltS S k x with
          | true =>
            have hsn : decide (sv < 0) = true := HLT.out.trans hlt
            have hsi : sv < 0 := of_decide_eq_true hsn
            have HLT2 := Lib.hid hlt
            clear hlt
            go_upto_region 4 with fail
            have hS0 := HSW.out wr.drew (Below.refl _ _).drew
            refine wp_region_held_drew (S := fun W => W.cell? ⟨g, m, none⟩ = some (.int .i64 k) ∧ W.cell? ⟨g, q, none⟩ = some (.int .i64 x)) (by kernel_rfl) hS0 (fun hHeld => ?_)
            (refine wpAnyH_take (i := 0) (v := ?_) rfl (by kernel_rfl) (by kernel_rfl) (by kernel_rfl) (fun _ _ _ h => h) (Or.inl ⟨by rfl, ?_⟩) (by assumption) ?_; rotate_left; (focus (intro w hSw; (try dsimp only at hSw); go_simp; (try with_reducible rfl))); (try simp only [List.getElem_toArray, List.getElem_cons_zero, List.getElem_cons_succ, Act.put, List.setIfInBounds_toArray, List.set_cons_zero, List.set_cons_succ])); (refine wpAnyH_take (i := 1) (v := ?_) rfl (by kernel_rfl) (by kernel_rfl) (by kernel_rfl) (fun _ _ _ h => h) (Or.inl ⟨by rfl, ?_⟩) (by assumption) ?_; rotate_left; (focus (intro w hSw; (try dsimp only at hSw); go_simp; (try with_reducible rfl))); (try simp only [List.getElem_toArray, List.getElem_cons_zero, List.getElem_cons_succ, Act.put, List.setIfInBounds_toArray, List.set_cons_zero, List.set_cons_succ])); (refine wpAnyH_take (i := 2) (v := ?_) rfl (by kernel_rfl) (by kernel_rfl) (by kernel_rfl) (fun _ _ _ h => h) (Or.inl ⟨by rfl, ?_⟩) (by assumption) ?_; rotate_left; (focus (intro w hSw; (try dsimp only at hSw); go_simp; (try with_reducible rfl))); (try simp only [List.getElem_toArray, List.getElem_cons_zero, List.getElem_cons_succ, Act.put, List.setIfInBounds_toArray, List.set_cons_zero, List.set_cons_succ])); (refine wpAnyH_take (i := 3) (v := ?_) rfl (by kernel_rfl) (by kernel_rfl) (by kernel_rfl) (fun _ _ _ h => h) (Or.inl ⟨by rfl, ?_⟩) (by assumption) ?_; rotate_left; (focus (intro w hSw; (try dsimp only at hSw); go_simp; (try with_reducible rfl))); (try simp only [List.getElem_toArray, List.getElem_cons_zero, List.getElem_cons_succ, Act.put, List.setIfInBounds_toArray, List.set_cons_zero, List.set_cons_succ])); (refine wpAnyH_take (i := 4) (v := ?_) rfl (by kernel_rfl) (by kernel_rfl) (by kernel_rfl) (fun _ _ _ h => h) (Or.inl ⟨by rfl, ?_⟩) (by assumption) ?_; rotate_left; (focus (intro w hSw; (try dsimp only at hSw); go_simp; (try with_reducible rfl))); (try simp only [List.getElem_toArray, List.getElem_cons_zero, List.getElem_cons_succ, Act.put, List.setIfInBounds_toArray, List.set_cons_zero, List.set_cons_succ])); (refine wpAnyH_take (i := 5) (v := ?_) rfl (by kernel_rfl) (by kernel_rfl) (by kernel_rfl) (fun _ _ _ h => h) (Or.inl ⟨by rfl, ?_⟩) (by assumption) ?_; rotate_left; (focus (intro w hSw; (try dsimp only at hSw); go_simp; (try with_reducible rfl))); (try simp only [List.getElem_toArray, List.getElem_cons_zero, List.getElem_cons_succ, Act.put, List.setIfInBounds_toArray, List.set_cons_zero, List.set_cons_succ])); (refine wpAnyH_take (i := 6) (v := ?_) rfl (by kernel_rfl) (by kernel_rfl) (by kernel_rfl) (fun _ _ _ h => h) (Or.inl ⟨by rfl, ?_⟩) (by assumption) ?_; rotate_left; (focus (intro w hSw; (try dsimp only at hSw); go_simp; (try with_reducible rfl))); (try simp only [List.getElem_toArray, List.getElem_cons_zero, List.getElem_cons_succ, Act.put, List.setIfInBounds_toArray, List.set_cons_zero, List.set_cons_succ])); (refine wpAnyH_take (i := 7) (v := ?_) rfl (by kernel_rfl) (by kernel_rfl) (by kernel_rfl) (fun _ _ _ h => h) (Or.inl ⟨by rfl, ?_⟩) (by assumption) ?_; rotate_left; (focus (intro w hSw; (try dsimp only at hSw); go_simp; (try with_reducible rfl))); (try simp only [List.getElem_toArray, List.getElem_cons_zero, List.getElem_cons_succ, Act.put, List.setIfInBounds_toArray, List.set_cons_zero, List.set_cons_succ])); (refine wpAnyH_take (i := 8) (v := ?_) rfl (by kernel_rfl) (by kernel_rfl) (by kernel_rfl) (fun _ _ _ h => h) (Or.inl ⟨by rfl, ?_⟩) (by assumption) ?_; rotate_left; (focus (intro w hSw; (try dsimp only at hSw); go_simp; (try with_reducible rfl))); (try simp only [List.getElem_toArray, List.getElem_cons_zero, List.getElem_cons_succ, Act.put, List.setIfInBounds_toArray, List.set_cons_zero, List.set_cons_succ])); (refine wpAnyH_take (i := 9) (v := ?_) rfl (by kernel_rfl) (by kernel_rfl) (by kernel_rfl) (fun _ _ _ h => h) (Or.inl ⟨by rfl, ?_⟩) (by assumption) ?_; rotate_left; (focus (intro w hSw; (try dsimp only at hSw); go_simp; (try with_reducible rfl))); (try simp only [List.getElem_toArray, List.getElem_cons_zero, List.getElem_cons_succ, Act.put, List.setIfInBounds_toArray, List.set_cons_zero, List.set_cons_succ])); (refine wpAnyH_take (i := 10) (v := ?_) rfl (by kernel_rfl) (by kernel_rfl) (by kernel_rfl) (fun _ _ _ h => h) (Or.inl ⟨by rfl, ?_⟩) (by assumption) ?_; rotate_left; (focus (intro w hSw; (try dsimp only at hSw); go_simp; (try with_reducible rfl))); (try simp only [List.getElem_toArray, List.getElem_cons_zero, List.getElem_cons_succ, Act.put, List.setIfInBounds_toArray, List.set_cons_zero, List.set_cons_succ])); (refine wpAnyH_take (i := 11) (v := ?_) rfl (by kernel_rfl) (by kernel_rfl) (by kernel_rfl) (fun _ _ _ h => h) (Or.inl ⟨by rfl, ?_⟩) (by assumption) ?_; rotate_left; (focus (intro w hSw; (try dsimp only at hSw); go_simp; (try with_reducible rfl))); (try simp only [List.getElem_toArray, List.getElem_cons_zero, List.getElem_cons_succ, Act.put, List.setIfInBounds_toArray, List.set_cons_zero, List.set_cons_succ])); (refine wpAnyH_take (i := 12) (v := ?_) rfl (by kernel_rfl) (by kernel_rfl) (by kernel_rfl) (fun _ _ _ h => h) (Or.inl ⟨by rfl, ?_⟩) (by assumption) ?_; rotate_left; (focus (intro w hSw; (try dsimp only at hSw); go_simp; (try with_reducible rfl))); (try simp only [List.getElem_toArray, List.getElem_cons_zero, List.getElem_cons_succ, Act.put, List.setIfInBounds_toArray, List.set_cons_zero, List.set_cons_succ])); (refine wpAnyH_take (i := 13) (v := ?_) rfl (by kernel_rfl) (by kernel_rfl) (by kernel_rfl) (fun _ _ _ h => h) (Or.inl ⟨by rfl, ?_⟩) (by assumption) ?_; rotate_left; (focus (intro w hSw; (try dsimp only at hSw); go_simp; (try with_reducible rfl))); (try simp only [List.getElem_toArray, List.getElem_cons_zero, List.getElem_cons_succ, Act.put, List.setIfInBounds_toArray, List.set_cons_zero, List.set_cons_succ]))
            refine wpAnyH_ready (rs := [14]) (by kernel_rfl) (by simp) ?_; refine AllReadyH.cons rfl (fun K hK => ?_) AllReadyH.nil; go_simp
            go_at_call 93
            have hbd : Below lo w wr.drew := HM.out.2.2.2.drew
            refine (rank1_any N jb a1 c1 S k x _ (HSH.out.mono (hbd.mono hNl) (Nat.le_refl _) (Nat.le_trans hNl (Nat.le_trans HLW.out (Nat.le_refl _)))) HRJ.out (HX.out.go hbd hjl) HXK.out.2 HXK.out.1).mono ?_
            rw [HSV.out]
            rintro e w4 ⟨rfl, hb4⟩
            have HB4 : Hid (Below wr.heap.size wr w4) := (Below.refl _ _).drew.trans hb4
            have hS1 := HSW.out w4 HB4.out
            clear hb4 hS0 hbd
            refine hK.out _ _ hS1 (fun hHeld => ?_); clear hK K; (try simp only [List.getElem_toArray, List.getElem_cons_zero, List.getElem_cons_succ, Act.put, List.setIfInBounds_toArray, List.set_cons_zero, List.set_cons_succ])
            (refine wpAnyH_take (i := 15) (v := ?_) rfl (by kernel_rfl) (by kernel_rfl) (by kernel_rfl) (fun _ _ _ h => h) (Or.inl ⟨by rfl, ?_⟩) (by assumption) ?_; rotate_left; (focus (intro w hSw; (try dsimp only at hSw); go_simp; (try with_reducible rfl))); (try simp only [List.getElem_toArray, List.getElem_cons_zero, List.getElem_cons_succ, Act.put, List.setIfInBounds_toArray, List.set_cons_zero, List.set_cons_succ])); (refine wpAnyH_take (i := 16) (v := ?_) rfl (by kernel_rfl) (by kernel_rfl) (by kernel_rfl) (fun _ _ _ h => h) (Or.inl ⟨by rfl, ?_⟩) (by assumption) ?_; rotate_left; (focus (intro w hSw; (try dsimp only at hSw); go_simp; (try with_reducible rfl))); (try simp only [List.getElem_toArray, List.getElem_cons_zero, List.getElem_cons_succ, Act.put, List.setIfInBounds_toArray, List.set_cons_zero, List.set_cons_succ]))
            refine wpAnyH_done (by kernel_rfl) ?_ _; clear hHeld
            clear hS1
            go_upto_region 6 with fail
            obtain ⟨hgw4, _, hcl4, hfr4, cur4, hcur4⟩ := (HM.out.2.2.1.wr HB4.out).at (by have := HLE.out; omega)
            have cq := hcl4 q (by have := HLE.out; omega)
            have cm := hcl4 m (by have := HLE.out; omega)
            rw [HXY.out.1] at cq
            rw [HXY.out.2] at cm
            have fq := hfr4 q
            have fm := hfr4 m
            have HR4 := Lib.hid (HM.out.2.2.1.wr HB4.out)
            have HBw4 : Hid (Below lo w w4) := HM.out.2.2.2.trans (HB4.out.mono HLW.out)
            clear hcl4 hfr4 hcur4
            refine wp_region_held_drew (S := fun _ => True) (by kernel_rfl) trivial (fun hHeld => ?_)
            have hS0 := trivial
            (refine wpAnyH_take (i := 0) (v := ?_) rfl (by kernel_rfl) (by kernel_rfl) (by kernel_rfl) (fun _ _ _ h => h) (Or.inl ⟨by rfl, ?_⟩) (by assumption) ?_; rotate_left; (focus (intro w hSw; (try dsimp only at hSw); go_simp; (try with_reducible rfl))); (try simp only [List.getElem_toArray, List.getElem_cons_zero, List.getElem_cons_succ, Act.put, List.setIfInBounds_toArray, List.set_cons_zero, List.set_cons_succ])); (refine wpAnyH_take (i := 1) (v := ?_) rfl (by kernel_rfl) (by kernel_rfl) (by kernel_rfl) (fun _ _ _ h => h) (Or.inl ⟨by rfl, ?_⟩) (by assumption) ?_; rotate_left; (focus (intro w hSw; (try dsimp only at hSw); go_simp; (try with_reducible rfl))); (try simp only [List.getElem_toArray, List.getElem_cons_zero, List.getElem_cons_succ, Act.put, List.setIfInBounds_toArray, List.set_cons_zero, List.set_cons_succ])); (refine wpAnyH_take (i := 2) (v := ?_) rfl (by kernel_rfl) (by kernel_rfl) (by kernel_rfl) (fun _ _ _ h => h) (Or.inl ⟨by rfl, ?_⟩) (by assumption) ?_; rotate_left; (focus (intro w hSw; (try dsimp only at hSw); go_simp; (try with_reducible rfl))); (try simp only [List.getElem_toArray, List.getElem_cons_zero, List.getElem_cons_succ, Act.put, List.setIfInBounds_toArray, List.set_cons_zero, List.set_cons_succ])); (refine wpAnyH_take (i := 3) (v := ?_) rfl (by kernel_rfl) (by kernel_rfl) (by kernel_rfl) (fun _ _ _ h => h) (Or.inl ⟨by rfl, ?_⟩) (by assumption) ?_; rotate_left; (focus (intro w hSw; (try dsimp only at hSw); go_simp; (try with_reducible rfl))); (try simp only [List.getElem_toArray, List.getElem_cons_zero, List.getElem_cons_succ, Act.put, List.setIfInBounds_toArray, List.set_cons_zero, List.set_cons_succ])); (refine wpAnyH_take (i := 4) (v := ?_) rfl (by kernel_rfl) (by kernel_rfl) (by kernel_rfl) (fun _ _ _ h => h) (Or.inl ⟨by rfl, ?_⟩) (by assumption) ?_; rotate_left; (focus (intro w hSw; (try dsimp only at hSw); go_simp; (try with_reducible rfl))); (try simp only [List.getElem_toArray, List.getElem_cons_zero, List.getElem_cons_succ, Act.put, List.setIfInBounds_toArray, List.set_cons_zero, List.set_cons_succ])); (refine wpAnyH_take (i := 5) (v := ?_) rfl (by kernel_rfl) (by kernel_rfl) (by kernel_rfl) (fun _ _ _ h => h) (Or.inl ⟨by rfl, ?_⟩) (by assumption) ?_; rotate_left; (focus (intro w hSw; (try dsimp only at hSw); go_simp; (try with_reducible rfl))); (try simp only [List.getElem_toArray, List.getElem_cons_zero, List.getElem_cons_succ, Act.put, List.setIfInBounds_toArray, List.set_cons_zero, List.set_cons_succ])); (refine wpAnyH_take (i := 6) (v := ?_) rfl (by kernel_rfl) (by kernel_rfl) (by kernel_rfl) (fun _ _ _ h => h) (Or.inl ⟨by rfl, ?_⟩) (by assumption) ?_; rotate_left; (focus (intro w hSw; (try dsimp only at hSw); go_simp; (try with_reducible rfl))); (try simp only [List.getElem_toArray, List.getElem_cons_zero, List.getElem_cons_succ, Act.put, List.setIfInBounds_toArray, List.set_cons_zero, List.set_cons_succ])); (refine wpAnyH_take (i := 7) (v := ?_) rfl (by kernel_rfl) (by kernel_rfl) (by kernel_rfl) (fun _ _ _ h => h) (Or.inl ⟨by rfl, ?_⟩) (by assumption) ?_; rotate_left; (focus (intro w hSw; (try dsimp only at hSw); go_simp; (try with_reducible rfl))); (try simp only [List.getElem_toArray, List.getElem_cons_zero, List.getElem_cons_succ, Act.put, List.setIfInBounds_toArray, List.set_cons_zero, List.set_cons_succ])); (refine wpAnyH_take (i := 8) (v := ?_) rfl (by kernel_rfl) (by kernel_rfl) (by kernel_rfl) (fun _ _ _ h => h) (Or.inl ⟨by rfl, ?_⟩) (by assumption) ?_; rotate_left; (focus (intro w hSw; (try dsimp only at hSw); go_simp; (try with_reducible rfl))); (try simp only [List.getElem_toArray, List.getElem_cons_zero, List.getElem_cons_succ, Act.put, List.setIfInBounds_toArray, List.set_cons_zero, List.set_cons_succ]))
            (refine wpAnyH_take (i := 10) (v := ?_) rfl (by kernel_rfl) (by kernel_rfl) (by kernel_rfl) (fun _ _ _ h => h) (Or.inl ⟨by rfl, ?_⟩) (by assumption) ?_; rotate_left; (focus (intro w hSw; (try dsimp only at hSw); go_simp; (try with_reducible rfl))); (try simp only [List.getElem_toArray, List.getElem_cons_zero, List.getElem_cons_succ, Act.put, List.setIfInBounds_toArray, List.set_cons_zero, List.set_cons_succ])); (refine wpAnyH_take (i := 11) (v := ?_) rfl (by kernel_rfl) (by kernel_rfl) (by kernel_rfl) (fun _ _ _ h => h) (Or.inl ⟨by rfl, ?_⟩) (by assumption) ?_; rotate_left; (focus (intro w hSw; (try dsimp only at hSw); go_simp; (try with_reducible rfl))); (try simp only [List.getElem_toArray, List.getElem_cons_zero, List.getElem_cons_succ, Act.put, List.setIfInBounds_toArray, List.set_cons_zero, List.set_cons_succ])); (refine wpAnyH_take (i := 12) (v := ?_) rfl (by kernel_rfl) (by kernel_rfl) (by kernel_rfl) (fun _ _ _ h => h) (Or.inl ⟨by rfl, ?_⟩) (by assumption) ?_; rotate_left; (focus (intro w hSw; (try dsimp only at hSw); go_simp; (try with_reducible rfl))); (try simp only [List.getElem_toArray, List.getElem_cons_zero, List.getElem_cons_succ, Act.put, List.setIfInBounds_toArray, List.set_cons_zero, List.set_cons_succ]))
            refine wpAnyH_ready (rs := [9, 13]) (by kernel_rfl) (by simp) ?_; refine AllReadyH.cons rfl (fun K hK => ?_) (AllReadyH.cons rfl (fun K hK => ?_) AllReadyH.nil)
            rotate_left
            ·
              go_simp
              refine hK.out _ _ trivial (fun hHeld => ?_)
              clear hK K
              (try simp only [List.getElem_toArray, List.getElem_cons_zero, List.getElem_cons_succ, Act.put, List.setIfInBounds_toArray, List.set_cons_zero, List.set_cons_succ])
              refine wpAnyH_ready (rs := [9]) (by kernel_rfl) (by simp) ?_; refine AllReadyH.cons rfl (fun K hK => ?_) AllReadyH.nil; go_simp
              go_simp
              refine hK.out _ _ trivial (fun hHeld => ?_)
              clear hK K
              (try simp only [List.getElem_toArray, List.getElem_cons_zero, List.getElem_cons_succ, Act.put, List.setIfInBounds_toArray, List.set_cons_zero, List.set_cons_succ])
              (refine wpAnyH_take (i := 14) (v := ?_) rfl (by kernel_rfl) (by kernel_rfl) (by kernel_rfl) (fun _ _ _ h => h) (Or.inl ⟨by rfl, ?_⟩) (by assumption) ?_; rotate_left; (focus (intro w hSw; (try dsimp only at hSw); go_simp; (try with_reducible rfl))); (try simp only [List.getElem_toArray, List.getElem_cons_zero, List.getElem_cons_succ, Act.put, List.setIfInBounds_toArray, List.set_cons_zero, List.set_cons_succ]))
              refine wpAnyH_ready (rs := [15]) (by kernel_rfl) (by simp) ?_; refine AllReadyH.cons rfl (fun K hK => ?_) AllReadyH.nil; go_simp
              go_simp
              obtain ⟨w5, hw5⟩ : ∃ w5, (w4.setCell ⟨g, m, none⟩ (.int .i64 x)).drew = w5 := ⟨_, rfl⟩
              rw [hw5]
              have HR5 : Hid (RI lo w5 (.slice (some ⟨g, 0, none⟩) n cv) (M.set m x)) := by rw [← hw5]; exact (RI.set HR4.out (by have := HLE.out; omega) x).keep fun _ _ _ _ => rfl
              have HB5 : Hid (Below lo w w5) := by rw [← hw5]; exact (HBw4.out.setCell (p := ⟨g, m, none⟩) hlg _).drew
              obtain ⟨hg5, _, hcl5, hfr5, cur5, hcur5⟩ := HR5.out.at (by have := HLE.out; simp; omega)
              have f5 := hfr5 q
              have c5 := hcl5 q (by have := HLE.out; simp; omega)
              clear hcl5 hfr5 hcur5 hw5 fm fq cq cm
              refine hK.out _ _ trivial (fun hHeld => ?_)
              clear hK K
              (try simp only [List.getElem_toArray, List.getElem_cons_zero, List.getElem_cons_succ, Act.put, List.setIfInBounds_toArray, List.set_cons_zero, List.set_cons_succ])
              (refine wpAnyH_take (i := 16) (v := ?_) rfl (by kernel_rfl) (by kernel_rfl) (by kernel_rfl) (fun _ _ _ h => h) (Or.inl ⟨by rfl, ?_⟩) (by assumption) ?_; rotate_left; (focus (intro w hSw; (try dsimp only at hSw); go_simp; (try with_reducible rfl))); (try simp only [List.getElem_toArray, List.getElem_cons_zero, List.getElem_cons_succ, Act.put, List.setIfInBounds_toArray, List.set_cons_zero, List.set_cons_succ]))
              refine wpAnyH_ready (rs := [17]) (by kernel_rfl) (by simp) ?_; refine AllReadyH.cons rfl (fun K hK => ?_) AllReadyH.nil; go_simp
              go_simp
              obtain ⟨w6, hw6⟩ : ∃ w6, w5.setCell ⟨g, q, none⟩ (.int .i64 k) = w6 := ⟨_, rfl⟩
              rw [hw6]
              have HR6 : Hid (RI lo w6 (.slice (some ⟨g, 0, none⟩) n cv) (swp M m q)) := by
                unfold swp
                rw [HXY.out.1, HXY.out.2, ← hw6]
                exact RI.set HR5.out (by have := HLE.out; simp; omega) k
              have HB6 : Hid (Below lo w w6) := by rw [← hw6]; exact HB5.out.setCell (p := ⟨g, q, none⟩) hlg _
              clear hw6 f5 c5
              refine hK.out _ _ trivial (fun hHeld => ?_)
              clear hK K
              (try simp only [List.getElem_toArray, List.getElem_cons_zero, List.getElem_cons_succ, Act.put, List.setIfInBounds_toArray, List.set_cons_zero, List.set_cons_succ])
              refine wpAnyH_done (by kernel_rfl) ?_ _; clear hHeld
              go_wp2
              go_roundw
              case rel => exact ⟨q, by have := HQM.out; omega, by first | rfl | go_num, swp M m q, (swp_perm (by have := HLE.out; omega) (by have := HLE.out; omega)).trans HM.out.1, by
                have e := HQM.out
                have h1 := HM.out.2.1
                have h2 := HLT2.out
                rw [← HXY.out.1, ← HXY.out.2] at h2
                rw [e] at h1 h2 ⊢
                exact rn_swp h1 (by omega) (by omega) h2, HR6.out, HB6.out⟩
              case measure => have := HQM.out; simp [intOf]; omega
            ·
              go_simp
              refine hK.out _ _ trivial (fun hHeld => ?_)
              clear hK K
              (try simp only [List.getElem_toArray, List.getElem_cons_zero, List.getElem_cons_succ, Act.put, List.setIfInBounds_toArray, List.set_cons_zero, List.set_cons_succ])
              refine wpAnyH_ready (rs := [13]) (by kernel_rfl) (by simp) ?_; refine AllReadyH.cons rfl (fun K hK => ?_) AllReadyH.nil; go_simp
              go_simp
              refine hK.out _ _ trivial (fun hHeld => ?_)
              clear hK K
              (try simp only [List.getElem_toArray, List.getElem_cons_zero, List.getElem_cons_succ, Act.put, List.setIfInBounds_toArray, List.set_cons_zero, List.set_cons_succ])
              (refine wpAnyH_take (i := 14) (v := ?_) rfl (by kernel_rfl) (by kernel_rfl) (by kernel_rfl) (fun _ _ _ h => h) (Or.inl ⟨by rfl, ?_⟩) (by assumption) ?_; rotate_left; (focus (intro w hSw; (try dsimp only at hSw); go_simp; (try with_reducible rfl))); (try simp only [List.getElem_toArray, List.getElem_cons_zero, List.getElem_cons_succ, Act.put, List.setIfInBounds_toArray, List.set_cons_zero, List.set_cons_succ]))
              refine wpAnyH_ready (rs := [15]) (by kernel_rfl) (by simp) ?_; refine AllReadyH.cons rfl (fun K hK => ?_) AllReadyH.nil; go_simp
              go_simp
              obtain ⟨w5, hw5⟩ : ∃ w5, (w4.setCell ⟨g, m, none⟩ (.int .i64 x)).drew = w5 := ⟨_, rfl⟩
              rw [hw5]
              have HR5 : Hid (RI lo w5 (.slice (some ⟨g, 0, none⟩) n cv) (M.set m x)) := by rw [← hw5]; exact (RI.set HR4.out (by have := HLE.out; omega) x).keep fun _ _ _ _ => rfl
              have HB5 : Hid (Below lo w w5) := by rw [← hw5]; exact (HBw4.out.setCell (p := ⟨g, m, none⟩) hlg _).drew
              obtain ⟨hg5, _, hcl5, hfr5, cur5, hcur5⟩ := HR5.out.at (by have := HLE.out; simp; omega)
              have f5 := hfr5 q
              have c5 := hcl5 q (by have := HLE.out; simp; omega)
              clear hcl5 hfr5 hcur5 hw5 fm fq cq cm
              refine hK.out _ _ trivial (fun hHeld => ?_)
              clear hK K
              (try simp only [List.getElem_toArray, List.getElem_cons_zero, List.getElem_cons_succ, Act.put, List.setIfInBounds_toArray, List.set_cons_zero, List.set_cons_succ])
              (refine wpAnyH_take (i := 16) (v := ?_) rfl (by kernel_rfl) (by kernel_rfl) (by kernel_rfl) (fun _ _ _ h => h) (Or.inl ⟨by rfl, ?_⟩) (by assumption) ?_; rotate_left; (focus (intro w hSw; (try dsimp only at hSw); go_simp; (try with_reducible rfl))); (try simp only [List.getElem_toArray, List.getElem_cons_zero, List.getElem_cons_succ, Act.put, List.setIfInBounds_toArray, List.set_cons_zero, List.set_cons_succ]))
              refine wpAnyH_ready (rs := [17]) (by kernel_rfl) (by simp) ?_; refine AllReadyH.cons rfl (fun K hK => ?_) AllReadyH.nil; go_simp
              go_simp
              obtain ⟨w6, hw6⟩ : ∃ w6, w5.setCell ⟨g, q, none⟩ (.int .i64 k) = w6 := ⟨_, rfl⟩
              rw [hw6]
              have HR6 : Hid (RI lo w6 (.slice (some ⟨g, 0, none⟩) n cv) (swp M m q)) := by
                unfold swp
                rw [HXY.out.1, HXY.out.2, ← hw6]
                exact RI.set HR5.out (by have := HLE.out; simp; omega) k
              have HB6 : Hid (Below lo w w6) := by rw [← hw6]; exact HB5.out.setCell (p := ⟨g, q, none⟩) hlg _
              clear hw6 f5 c5
              refine hK.out _ _ trivial (fun hHeld => ?_)
              clear hK K
              (try simp only [List.getElem_toArray, List.getElem_cons_zero, List.getElem_cons_succ, Act.put, List.setIfInBounds_toArray, List.set_cons_zero, List.set_cons_succ])
              refine wpAnyH_done (by kernel_rfl) ?_ _; clear hHeld
              go_wp2
              go_roundw
              case rel => exact ⟨q, by have := HQM.out; omega, by first | rfl | go_num, swp M m q, (swp_perm (by have := HLE.out; omega) (by have := HLE.out; omega)).trans HM.out.1, by
                have e := HQM.out
                have h1 := HM.out.2.1
                have h2 := HLT2.out
                rw [← HXY.out.1, ← HXY.out.2] at h2
                rw [e] at h1 h2 ⊢
                exact rn_swp h1 (by omega) (by omega) h2, HR6.out, HB6.out⟩
              case measure => have := HQM.out; simp [intOf]; omega
          | false =>
            have hsn : decide (sv < 0) = false := HLT.out.trans hlt
            have hsi : ¬ sv < 0 := of_decide_eq_false hsn
            have HLT2 := Lib.hid hlt
            clear hlt
            go_upto_region 4 with fail
            have hS0 := HSW.out wr.drew (Below.refl _ _).drew
            refine wp_region_held_drew (S := fun W => W.cell? ⟨g, m, none⟩ = some (.int .i64 k) ∧ W.cell? ⟨g, q, none⟩ = some (.int .i64 x)) (by kernel_rfl) hS0 (fun hHeld => ?_)
            (refine wpAnyH_take (i := 0) (v := ?_) rfl (by kernel_rfl) (by kernel_rfl) (by kernel_rfl) (fun _ _ _ h => h) (Or.inl ⟨by rfl, ?_⟩) (by assumption) ?_; rotate_left; (focus (intro w hSw; (try dsimp only at hSw); go_simp; (try with_reducible rfl))); (try simp only [List.getElem_toArray, List.getElem_cons_zero, List.getElem_cons_succ, Act.put, List.setIfInBounds_toArray, List.set_cons_zero, List.set_cons_succ])); (refine wpAnyH_take (i := 1) (v := ?_) rfl (by kernel_rfl) (by kernel_rfl) (by kernel_rfl) (fun _ _ _ h => h) (Or.inl ⟨by rfl, ?_⟩) (by assumption) ?_; rotate_left; (focus (intro w hSw; (try dsimp only at hSw); go_simp; (try with_reducible rfl))); (try simp only [List.getElem_toArray, List.getElem_cons_zero, List.getElem_cons_succ, Act.put, List.setIfInBounds_toArray, List.set_cons_zero, List.set_cons_succ])); (refine wpAnyH_take (i := 2) (v := ?_) rfl (by kernel_rfl) (by kernel_rfl) (by kernel_rfl) (fun _ _ _ h => h) (Or.inl ⟨by rfl, ?_⟩) (by assumption) ?_; rotate_left; (focus (intro w hSw; (try dsimp only at hSw); go_simp; (try with_reducible rfl))); (try simp only [List.getElem_toArray, List.getElem_cons_zero, List.getElem_cons_succ, Act.put, List.setIfInBounds_toArray, List.set_cons_zero, List.set_cons_succ])); (refine wpAnyH_take (i := 3) (v := ?_) rfl (by kernel_rfl) (by kernel_rfl) (by kernel_rfl) (fun _ _ _ h => h) (Or.inl ⟨by rfl, ?_⟩) (by assumption) ?_; rotate_left; (focus (intro w hSw; (try dsimp only at hSw); go_simp; (try with_reducible rfl))); (try simp only [List.getElem_toArray, List.getElem_cons_zero, List.getElem_cons_succ, Act.put, List.setIfInBounds_toArray, List.set_cons_zero, List.set_cons_succ])); (refine wpAnyH_take (i := 4) (v := ?_) rfl (by kernel_rfl) (by kernel_rfl) (by kernel_rfl) (fun _ _ _ h => h) (Or.inl ⟨by rfl, ?_⟩) (by assumption) ?_; rotate_left; (focus (intro w hSw; (try dsimp only at hSw); go_simp; (try with_reducible rfl))); (try simp only [List.getElem_toArray, List.getElem_cons_zero, List.getElem_cons_succ, Act.put, List.setIfInBounds_toArray, List.set_cons_zero, List.set_cons_succ])); (refine wpAnyH_take (i := 5) (v := ?_) rfl (by kernel_rfl) (by kernel_rfl) (by kernel_rfl) (fun _ _ _ h => h) (Or.inl ⟨by rfl, ?_⟩) (by assumption) ?_; rotate_left; (focus (intro w hSw; (try dsimp only at hSw); go_simp; (try with_reducible rfl))); (try simp only [List.getElem_toArray, List.getElem_cons_zero, List.getElem_cons_succ, Act.put, List.setIfInBounds_toArray, List.set_cons_zero, List.set_cons_succ])); (refine wpAnyH_take (i := 6) (v := ?_) rfl (by kernel_rfl) (by kernel_rfl) (by kernel_rfl) (fun _ _ _ h => h) (Or.inl ⟨by rfl, ?_⟩) (by assumption) ?_; rotate_left; (focus (intro w hSw; (try dsimp only at hSw); go_simp; (try with_reducible rfl))); (try simp only [List.getElem_toArray, List.getElem_cons_zero, List.getElem_cons_succ, Act.put, List.setIfInBounds_toArray, List.set_cons_zero, List.set_cons_succ])); (refine wpAnyH_take (i := 7) (v := ?_) rfl (by kernel_rfl) (by kernel_rfl) (by kernel_rfl) (fun _ _ _ h => h) (Or.inl ⟨by rfl, ?_⟩) (by assumption) ?_; rotate_left; (focus (intro w hSw; (try dsimp only at hSw); go_simp; (try with_reducible rfl))); (try simp only [List.getElem_toArray, List.getElem_cons_zero, List.getElem_cons_succ, Act.put, List.setIfInBounds_toArray, List.set_cons_zero, List.set_cons_succ])); (refine wpAnyH_take (i := 8) (v := ?_) rfl (by kernel_rfl) (by kernel_rfl) (by kernel_rfl) (fun _ _ _ h => h) (Or.inl ⟨by rfl, ?_⟩) (by assumption) ?_; rotate_left; (focus (intro w hSw; (try dsimp only at hSw); go_simp; (try with_reducible rfl))); (try simp only [List.getElem_toArray, List.getElem_cons_zero, List.getElem_cons_succ, Act.put, List.setIfInBounds_toArray, List.set_cons_zero, List.set_cons_succ])); (refine wpAnyH_take (i := 9) (v := ?_) rfl (by kernel_rfl) (by kernel_rfl) (by kernel_rfl) (fun _ _ _ h => h) (Or.inl ⟨by rfl, ?_⟩) (by assumption) ?_; rotate_left; (focus (intro w hSw; (try dsimp only at hSw); go_simp; (try with_reducible rfl))); (try simp only [List.getElem_toArray, List.getElem_cons_zero, List.getElem_cons_succ, Act.put, List.setIfInBounds_toArray, List.set_cons_zero, List.set_cons_succ])); (refine wpAnyH_take (i := 10) (v := ?_) rfl (by kernel_rfl) (by kernel_rfl) (by kernel_rfl) (fun _ _ _ h => h) (Or.inl ⟨by rfl, ?_⟩) (by assumption) ?_; rotate_left; (focus (intro w hSw; (try dsimp only at hSw); go_simp; (try with_reducible rfl))); (try simp only [List.getElem_toArray, List.getElem_cons_zero, List.getElem_cons_succ, Act.put, List.setIfInBounds_toArray, List.set_cons_zero, List.set_cons_succ])); (refine wpAnyH_take (i := 11) (v := ?_) rfl (by kernel_rfl) (by kernel_rfl) (by kernel_rfl) (fun _ _ _ h => h) (Or.inl ⟨by rfl, ?_⟩) (by assumption) ?_; rotate_left; (focus (intro w hSw; (try dsimp only at hSw); go_simp; (try with_reducible rfl))); (try simp only [List.getElem_toArray, List.getElem_cons_zero, List.getElem_cons_succ, Act.put, List.setIfInBounds_toArray, List.set_cons_zero, List.set_cons_succ])); (refine wpAnyH_take (i := 12) (v := ?_) rfl (by kernel_rfl) (by kernel_rfl) (by kernel_rfl) (fun _ _ _ h => h) (Or.inl ⟨by rfl, ?_⟩) (by assumption) ?_; rotate_left; (focus (intro w hSw; (try dsimp only at hSw); go_simp; (try with_reducible rfl))); (try simp only [List.getElem_toArray, List.getElem_cons_zero, List.getElem_cons_succ, Act.put, List.setIfInBounds_toArray, List.set_cons_zero, List.set_cons_succ])); (refine wpAnyH_take (i := 13) (v := ?_) rfl (by kernel_rfl) (by kernel_rfl) (by kernel_rfl) (fun _ _ _ h => h) (Or.inl ⟨by rfl, ?_⟩) (by assumption) ?_; rotate_left; (focus (intro w hSw; (try dsimp only at hSw); go_simp; (try with_reducible rfl))); (try simp only [List.getElem_toArray, List.getElem_cons_zero, List.getElem_cons_succ, Act.put, List.setIfInBounds_toArray, List.set_cons_zero, List.set_cons_succ]))
            refine wpAnyH_ready (rs := [14]) (by kernel_rfl) (by simp) ?_; refine AllReadyH.cons rfl (fun K hK => ?_) AllReadyH.nil; go_simp
            go_at_call 93
            have hbd : Below lo w wr.drew := HM.out.2.2.2.drew
            refine (rank1_any N jb a1 c1 S k x _ (HSH.out.mono (hbd.mono hNl) (Nat.le_refl _) (Nat.le_trans hNl (Nat.le_trans HLW.out (Nat.le_refl _)))) HRJ.out (HX.out.go hbd hjl) HXK.out.2 HXK.out.1).mono ?_
            rw [HSV.out]
            rintro e w4 ⟨rfl, hb4⟩
            have HB4 : Hid (Below wr.heap.size wr w4) := (Below.refl _ _).drew.trans hb4
            have hS1 := HSW.out w4 HB4.out
            clear hb4 hS0 hbd
            refine hK.out _ _ hS1 (fun hHeld => ?_); clear hK K; (try simp only [List.getElem_toArray, List.getElem_cons_zero, List.getElem_cons_succ, Act.put, List.setIfInBounds_toArray, List.set_cons_zero, List.set_cons_succ])
            (refine wpAnyH_take (i := 15) (v := ?_) rfl (by kernel_rfl) (by kernel_rfl) (by kernel_rfl) (fun _ _ _ h => h) (Or.inl ⟨by rfl, ?_⟩) (by assumption) ?_; rotate_left; (focus (intro w hSw; (try dsimp only at hSw); go_simp; (try with_reducible rfl))); (try simp only [List.getElem_toArray, List.getElem_cons_zero, List.getElem_cons_succ, Act.put, List.setIfInBounds_toArray, List.set_cons_zero, List.set_cons_succ])); (refine wpAnyH_take (i := 16) (v := ?_) rfl (by kernel_rfl) (by kernel_rfl) (by kernel_rfl) (fun _ _ _ h => h) (Or.inl ⟨by rfl, ?_⟩) (by assumption) ?_; rotate_left; (focus (intro w hSw; (try dsimp only at hSw); go_simp; (try with_reducible rfl))); (try simp only [List.getElem_toArray, List.getElem_cons_zero, List.getElem_cons_succ, Act.put, List.setIfInBounds_toArray, List.set_cons_zero, List.set_cons_succ]))
            refine wpAnyH_done (by kernel_rfl) ?_ _; clear hHeld
            clear hS1
            have HR4 := Lib.hid (HM.out.2.2.1.wr HB4.out)
            have HBw4 : Hid (Below lo w w4) := HM.out.2.2.2.trans (HB4.out.mono HLW.out)
            go_wp2_with fail
            go_roundw
            case rel => exact ⟨k + 1, by omega, by omega, by go_num, M, HM.out.1, by
              rw [Nat.min_eq_left (by omega)]
              have e := HQM.out
              have h1 := HM.out.2.1
              have h2 := HLT2.out
              rw [← HXY.out.1, ← HXY.out.2] at h2
              rw [e] at h1 h2
              exact rn_stop (ltS_wo S) h1 (by omega) (by omega) h2, HR4.out, HBw4.out⟩
            case measure => simp [intOf]; omega
    · have hki : ¬ (k : Int) < (n : Int) := by omega
      have HRS : Hid (RO (ltS S) n n L) := by have := HL.out.2.1; rw [Nat.min_eq_right (by omega)] at this; exact this
      go_wp2_with fail
      exact bodyPost_end (v := .tuple #[]) (by simp [results, Try.results113, go_sem]) rfl ⟨⟨_, rfl⟩, ⟨L, HL.out.1, HRS.out, HL.out.2.2.1⟩, HL.out.2.2.2⟩

end Go.Proofs.Ytffnlimgjnhmpaa

namespace Go.Proofs.Ytffnlimgjnhmpaa
open Go.RowKit

set_option maxHeartbeats 3200000 in
set_option maxRecDepth 100000 in
theorem stable_any (N jb lo : Nat) (a1 : Option Addr) (c1 : Nat) (S : JB) (v : Value) (n : Nat) (w : World) (hsh : ShowAt N w (.agg #[.int .i64 S.J, .int .i64 S.D, .int .i64 S.Z, .slice a1 S.np c1]) S) (hRJ : RdJ S) (hX : JBX w jb a1 c1 S) (hNl : N ≤ lo) (hjl : jb < lo) (hlo : lo ≤ w.heap.size) (h : RI lo w v (upTo n)) (hn : S.np = n) (hl : n ≤ 6) :
    Calls Try.prog 105 #[v, .int .i64 n, .func (.func 93) #[] #[.pointer (some ⟨jb, 0, none⟩)]] w fun e w' => (∃ r, e = .returned r) ∧ (∃ L, L.Perm (upTo n) ∧ RO (ltS S) n n L ∧ RI lo w' v L) ∧ Below lo w w' := by
  have HI := Lib.hid (insCmp_any N jb lo a1 c1 S v n w hsh hRJ hX hNl hjl hlo h hn hl)
  have h20 : ¬ (20 : Int) ≤ (n : Int) := by omega
  have h21 : ¬ (20 : Int) < (n : Int) := by omega
  clear hsh hRJ hX h hn
  go_enter Try.func105, Try.ntmps105
  go_wp2_with fail
  refine wp_loop_rounds 1 ?_
  rw [rounds_succ]
  go_wp2_with (go_at_call 113; refine HI.out.mono ?_; rintro e w1 ⟨⟨r, rfl⟩, hr1, hb1⟩; have HR1 := Lib.hid hr1; have HB1 := Lib.hid hb1; clear hr1 hb1)
  refine wp_loop_rounds 1 ?_
  rw [rounds_succ]
  go_wp2_with fail
  exact bodyPost_end (v := .tuple #[]) (by simp [results, Try.results105, go_sem]) rfl ⟨⟨_, rfl⟩, HR1.out, HB1.out⟩

set_option maxHeartbeats 3200000 in
set_option maxRecDepth 100000 in
theorem sortStable_any (N jb lo : Nat) (a1 : Option Addr) (c1 : Nat) (S : JB) (v : Value) (n : Nat) (w : World) (hsh : ShowAt N w (.agg #[.int .i64 S.J, .int .i64 S.D, .int .i64 S.Z, .slice a1 S.np c1]) S) (hRJ : RdJ S) (hX : JBX w jb a1 c1 S) (hNl : N ≤ lo) (hjl : jb < lo) (hlo : lo ≤ w.heap.size) (h : RI lo w v (upTo n)) (hn : S.np = n) (hl : n ≤ 6) :
    Calls Try.prog 92 #[v, .func (.func 93) #[] #[.pointer (some ⟨jb, 0, none⟩)]] w fun e w' => (∃ r, e = .returned r) ∧ (∃ L, L.Perm (upTo n) ∧ RO (ltS S) n n L ∧ RI lo w' v L) ∧ Below lo w w' := by
  have HI := Lib.hid (stable_any N jb lo a1 c1 S v n w hsh hRJ hX hNl hjl hlo h hn hl)
  obtain ⟨av, cv, rfl⟩ := h.form
  rw [upTo_len] at HI ⊢
  clear hsh hRJ hX h hn
  go_enter Try.func92, Try.ntmps92
  go_wp2_with (go_at_call 105; refine HI.out.mono ?_; rintro e w1 ⟨⟨r, rfl⟩, hr1, hb1⟩; have HR1 := Lib.hid hr1; have HB1 := Lib.hid hb1; clear hr1 hb1)
  exact bodyPost_end (v := .tuple #[]) (by simp [results, Try.results92, go_sem]) rfl ⟨⟨_, rfl⟩, HR1.out, HB1.out⟩

set_option maxHeartbeats 3200000 in
set_option maxRecDepth 100000 in
theorem krank_any (N : Nat) (v : Value) (S : JB) (w : World) (h : ShowAt N w v S) (hR : RdJ S) (hn6 : S.np ≤ 6) (hin : allIn S = true) :
    Calls Try.prog 72 #[v] w fun e w' => ∃ u, e = .returned u ∧ LI w'.heap.size w' u (rnk S S.np) ∧ Below w.heap.size w w' := by
  obtain ⟨a1, c1, rfl⟩ := h.form
  obtain ⟨ws, hws, HB, hsz, hblk⟩ := box1 w (.cells #[.int .i64 S.J, .int .i64 S.D, .int .i64 S.Z, .slice a1 S.np c1] 74)
  have q0 := cell_blk hblk 0 rfl
  have q1 := cell_blk hblk 1 rfl
  have q2 := cell_blk hblk 2 rfl
  have q3 := cell_blk hblk 3 rfl
  have HNZ : Hid (N ≤ w.heap.size) := h.1
  have HBK := Lib.hid (h.go HB.out)
  have HB0 : Hid (Below ws.heap.size ws ws) := Below.refl _ _
  have HNS : Hid (N ≤ ws.heap.size) := HBK.out.1
  have hlen := h.len
  clear hblk h
  have HR := Lib.hid hR
  have HIN := Lib.hid hin
  have HX : Hid (JBX ws w.heap.size a1 c1 S) := by unfold Hid JBX; rw [← hws]; exact World.alloc_heap_new w _
  have HSQ : Hid (∀ W, Below ws.heap.size ws W → (W.cell? ⟨w.heap.size, 0, none⟩ = some (.int .i64 S.J) ∧ W.cell? ⟨w.heap.size, 1, none⟩ = some (.int .i64 S.D) ∧ W.cell? ⟨w.heap.size, 2, none⟩ = some (.int .i64 S.Z) ∧ W.cell? ⟨w.heap.size, 3, none⟩ = some (.slice a1 S.np c1))) := fun W hW => ⟨(hW.cell (p := ⟨w.heap.size, 0, none⟩) hsz).trans q0, (hW.cell (p := ⟨w.heap.size, 1, none⟩) hsz).trans q1, (hW.cell (p := ⟨w.heap.size, 2, none⟩) hsz).trans q2, (hW.cell (p := ⟨w.heap.size, 3, none⟩) hsz).trans q3⟩
  clear hR hin
  go_enter Try.func72, Try.ntmps72
  go_wp2_with fail
  clear hws q0 q1 q2 q3
  go_loopw [3, 9] (fun u i wr => ∃ m : Nat, m ≤ S.np ∧ i = .int .i64 m ∧ Hid (OwnI ws.heap.size wr u (upTo m)) ∧ Hid (Below ws.heap.size ws wr)) (fun _ i _ => S.np - (intOf i).toNat)
  case atStart => exact ⟨0, Nat.zero_le _, rfl, OwnI.nil _ _, HB0⟩
  case round =>
    obtain ⟨m, hm, rfl, HO, HBr⟩ := hrel
    by_cases hmn : m < S.np
    · have hmi : (m : Int) < (S.np : Int) := by omega
      have HE : Hid (upTo (m + 1) = upTo m ++ [(m : Int)]) := sel_hit rfl
      have HUL := Lib.hid (upTo_len m)
      go_wp2_with (at_builtin; go_must (refine wpList_appI wr rfl _ _ rfl rfl ws.heap.size _ _ m HO.out HBr.out.size (by have := HUL.out; omega) rfl rfl ?_); intro v6 w6 ho6 hb6)
      go_roundw
      case rel => exact ⟨m + 1, by omega, by go_num, by rw [HE.out]; exact ho6, HBr.out.trans hb6⟩
      case measure => simp [intOf]; omega
    · have hmi : ¬ (m : Int) < (S.np : Int) := by omega
      have hme : S.np = m := by omega
      have HME := Lib.hid hme
      have HRI := Lib.hid (show RI ws.heap.size wr _ (upTo m) from RI.of_own (by have := HO.out; unfold OwnI at this; exact this))
      have HXr : Hid (JBX wr w.heap.size a1 c1 S) := HX.out.go HBr.out hsz
      clear hme
      go_wp2_with (go_at_call 92; refine (sortStable_any N w.heap.size ws.heap.size a1 c1 S _ m wr (HBK.out.go HBr.out) HR.out HXr.out HNS.out hsz HBr.out.size HRI.out HME.out (by have := HME.out; omega)).mono ?_; rintro e w7 ⟨⟨r, rfl⟩, ⟨L, hp, hro, hri⟩, hb7⟩; have HL := Lib.hid (And.intro hp (And.intro hro hri)); have HB7 := Lib.hid hb7; clear hp hro hri hb7)
      go_ret
      have hLe : L = rnk S S.np := ro_rnk HIN.out (by rw [HME.out]; exact HL.out.2.1) (by rw [HME.out]; exact HL.out.1)
      refine ⟨_, rfl, ?_, fin HB.out (HBr.out.trans HB7.out)⟩
      rw [← hLe]
      exact HL.out.2.2.li (by rw [HL.out.1.length_eq, upTo_len]; omega)

end Go.Proofs.Ytffnlimgjnhmpaa
