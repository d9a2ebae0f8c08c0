/-
  LBest: KeysBest for every book.
-/
import Derived.Test.YtghimbggbgcgkaaLRight
import Derived.Test.YtghimbggbgcgkaaMade0
namespace Go.Proofs.Ytghimbggbgcgkaa
open Go.RowKit

theorem near_ns7 {B : KB} (h : farB B = false) (hk : okKB B = true) : B.ns ≤ 7 := by
  unfold farB at h
  rw [hk] at h
  simp at h
  omega
theorem eLeast_err (B : KB) (mean : Bool) : (eLeast B mean).2 = eDiff B := by
  unfold eLeast eDiff
  split
  · split <;> rfl
  · rfl
theorem far_made {B : KB} {s : Nat} {l : List NR} {ss : List Nat} (hG : GoodB B) (K : KeyR B s l ss) : farN (ndOf l) = false := by
  have h := K.few
  have e1 : (ndOf l).n = l.length := rfl
  unfold farN
  rw [Bool.or_eq_false_iff, decide_eq_false_iff_not]
  refine ⟨by omega, anyB_false.2 fun i hi => decide_eq_false_iff_not.2 ?_⟩
  obtain ⟨t, _, h2, h3⟩ := node_at K (p := i) hi
  have eq : (ndOf l).q i = (getR l (l.length - 1 - i)).nx.length := rfl
  rw [eq]
  rcases h3 with ⟨_, _, h6, _⟩ | ⟨_, m, h5, _, _, h8, _⟩
  · rw [h6]; simp
  · have := hG.V m h5; omega
/-- what is known of the key that Make makes, in the law's words -/
structure MadeK (B : KB) (D : Nd) : Prop where
  far : farN D = false
  okN : okN B.nv B.V B.ns D 40 = true
  is : isK B D B.ns = true
  worst : (worstN B D B.ns : Int) ≤ (eLeast B false).1
theorem eDiff_ok {B : KB} (h : eDiff B = 0) : okKB B = true ∧ diffB B = true := by
  unfold eDiff at h
  cases h1 : okKB B <;> cases h2 : diffB B <;> simp [h1, h2] at h ⊢
theorem madeK {B : KB} {l : List NR} {ss : List Nat} (h : eDiff B = 0) (K : KeyR B (setF (fun _ => true) B.ns) l ss) : MadeK B (ndOf l) := by
  obtain ⟨h1, h2⟩ := eDiff_ok h
  have hG := goodB h1
  obtain ⟨h3, h4⟩ := made_names hG K
  refine ⟨far_made hG K, key_okN hG K, h3, ?_⟩
  have hp := (allOk hG h2).pos false
  rw [costK_all hG] at hp
  have e : (eLeast B false).1 = leastL B false 8 (List.range B.ns) := by unfold eLeast; rw [h1, h2]; rfl
  rw [e]; omega
theorem farN_nil : farN (ndOf []) = false := rfl

set_option maxHeartbeats 4000000 in
set_option maxRecDepth 100000 in
theorem cbest_any (N : Nat) (v : Value) (B : KB) (w : World) (h : BookAt N w v B) :
    Calls Try.prog 12 #[v] w fun e w' => e = .returned (.bool true) ∧ Below w.heap.size w w' := by
  have h' := h
  obtain ⟨_, a1, z1, a2, z2, a3, z3, rfl, _⟩ := h'
  obtain ⟨ws, hws, HB, hsz, hblk⟩ := box1 w (.cells #[.slice a1 B.nv z1, .slice a2 B.ns z2, .slice a3 B.D.n z3] 26)
  have q0 := cell_blk hblk 0 rfl
  have q1 := cell_blk hblk 1 rfl
  have q2 := cell_blk hblk 2 rfl
  have HBK := Lib.hid (h.go HB.out)
  have HB0 : Hid (Below ws.heap.size ws ws) := Below.refl _ _
  have HNS : Hid (N ≤ ws.heap.size) := HBK.out.1
  have hlens := h.lens
  obtain ⟨hlv, hls, hln⟩ := hlens
  clear hblk h
  cases hfar : farB B with
  | true =>
    have HFA := Lib.hid hfar
    clear hfar
    go_enter Try.func12, Try.ntmps12
    go_wp2_with (first
      | (go_at_call 45; refine (Far_any N _ B _ (HBK.out.go HB0.out)).mono ?_; rintro e w1 ⟨rfl, hb1⟩; rw [HFA.out]; (try clear c0); have HB1 := Lib.hid (bel HB0.out hb1); have c1 := (old_of HB1.out).1; clear hb1)
      | (go_at_call 17; refine (works_any _).mono ?_; rintro e w2 ⟨rfl, hb2⟩; (try clear c1); have HB2 := Lib.hid (bel HB1.out hb2); have c2 := (old_of HB2.out).1; clear hb2))
    go_ret
    exact ⟨rfl, fin HB.out HB2.out⟩
  | false =>
    have HFA := Lib.hid hfar
    have HNS7 : Hid (okKB B = true → B.ns ≤ 7) := fun hk => near_ns7 hfar hk
    have HNE := Lib.hid (near_of hfar)
    obtain ⟨m1, hm1⟩ : ∃ x, (eLeast B false).1 = x := ⟨_, rfl⟩
    obtain ⟨a1', ha1⟩ : ∃ x, (eLeast B true).1 = x := ⟨_, rfl⟩
    have hm2 := eLeast_err B false
    have ha2 := eLeast_err B true
    have HM1 := Lib.hid hm1
    have HA1 := Lib.hid ha1
    by_cases hd : eDiff B = 0
    · rw [hd] at hm2 ha2
      have HM2 := Lib.hid hm2
      have HA2 := Lib.hid ha2
      have HD := Lib.hid hd
      have HG := Lib.hid (goodB (eDiff_ok hd).1)
      clear hfar hm1 ha1 hm2 ha2 hd
      go_enter Try.func12, Try.ntmps12
      go_wp2_with (first
        | (go_at_call 45; refine (Far_any N _ B _ (HBK.out.go HB0.out)).mono ?_; rintro e w1 ⟨rfl, hb1⟩; rw [HFA.out]; (try clear c0); have HB1 := Lib.hid (bel HB0.out hb1); have c1 := (old_of HB1.out).1; clear hb1)
        | (go_at_call 28; refine (copy_near N _ B _ (HBK.out.go HB1.out) HNE.out).mono ?_; rintro e w2 ⟨b1, d1, b2, d2, b3, d3, rfl, how2, hbk2, hb2⟩; clear how2; have HBK2 := Lib.hid hbk2; clear hbk2; (try clear c1); have HB2 := Lib.hid (bel HB1.out hb2); have c2 := (old_of HB2.out).1; clear hb2; obtain ⟨w3, hw3, HB3, hsz3, hblk3⟩ := box1 w2 (.cells #[.slice b1 B.nv d1, .slice b2 B.ns d2, .slice b3 B.D.n d3] 26); have HBG := Lib.hid ((HBK2.out.go HB3.out).raise HB3.out.size (Nat.le_refl _)); have x0 := cell_blk hblk3 0 rfl; have x1 := cell_blk hblk3 1 rfl; have x2 := cell_blk hblk3 2 rfl; have HBF := Lib.hid (HBK.out.go (bel HB2.out HB3.out)); have HBF2 : Hid (BookAt w3.heap.size w3 _ B) := Lib.hid (HBF.out.raise HBF.out.1 (Nat.le_refl _)); have HBz : Hid (Below w3.heap.size w3 w3) := Below.refl _ _; have q0 := (HB3.out.cell (p := ⟨w.heap.size, 0, none⟩) (Nat.lt_of_lt_of_le hsz HB2.out.size)).trans ((c2 _ 0 hsz).trans q0); have q1 := (HB3.out.cell (p := ⟨w.heap.size, 1, none⟩) (Nat.lt_of_lt_of_le hsz HB2.out.size)).trans ((c2 _ 1 hsz).trans q1); have q2 := (HB3.out.cell (p := ⟨w.heap.size, 2, none⟩) (Nat.lt_of_lt_of_le hsz HB2.out.size)).trans ((c2 _ 2 hsz).trans q2); have hs3 : w.heap.size < w3.heap.size := Nat.lt_of_lt_of_le hsz (Nat.le_trans HB2.out.size HB3.out.size); clear c2 hws hblk3)
        | (go_at_call 32; refine (kBest_any w3.heap.size _ B _ (HBG.out.go HBz.out)).mono ?_; rw [HM1.out, HM2.out]; rintro e w4 ⟨rfl, hb4⟩; (try clear cz); have HB4 := Lib.hid (bel HBz.out hb4); have c4 := (old_of HB4.out).1; clear hb4)
        | (go_at_call 60; refine (rBest_any w3.heap.size _ B _ (HBF2.out.go HB4.out)).mono ?_; rw [HM1.out, HM2.out]; rintro e w5 ⟨rfl, hb5⟩; (try clear c4); have HB5 := Lib.hid (bel HB4.out hb5); have c5 := (old_of HB5.out).1; clear hb5)
        | (go_at_call 33; refine (kMean_any w3.heap.size _ B _ (HBG.out.go HB5.out)).mono ?_; rw [HA1.out, HA2.out]; rintro e w6 ⟨rfl, hb6⟩; (try clear c5); have HB6 := Lib.hid (bel HB5.out hb6); have c6 := (old_of HB6.out).1; clear hb6)
        | (go_at_call 61; refine (rMean_any w3.heap.size _ B _ (HBF2.out.go HB6.out)).mono ?_; rw [HA1.out, HA2.out]; rintro e w7 ⟨rfl, hb7⟩; (try clear c6); have HB7 := Lib.hid (bel HB6.out hb7); have c7 := (old_of HB7.out).1; clear hb7)
        | (go_at_call 35; refine (kMake_any w3.heap.size _ B _ (HBG.out.go HB7.out) HNS7.out).mono ?_; rintro e w8 ⟨⟨nd, l, rfl, hnd, _, hk⟩, hb8⟩; rw [HD.out]; obtain ⟨ss, hk⟩ := hk HD.out; obtain ⟨aN, cN, hnv, _, _⟩ := id hnd; subst hnv; have HMK := Lib.hid (madeK HD.out hk); have HND := Lib.hid hnd; clear hnd hk; obtain ⟨D, hDe⟩ : ∃ D, ndOf l = D := ⟨_, rfl⟩; rw [hDe] at HMK HND ⊢; clear hDe; (try clear c7); have HB8 := Lib.hid (bel HB7.out hb8); have c8 := (old_of HB8.out).1; clear hb8)
        | (go_at_call 31; refine (far_any _ _ D _ HND.out).mono ?_; rw [HMK.out.far]; rintro e wq ⟨rfl, hwq⟩; rw [hwq]; clear hwq wq)
        | (go_at_call 51; refine (same_any _ _ _ _ B _ (HBG.out.go HB8.out) (HBF2.out.go HB8.out)).mono ?_; rintro e w9 ⟨rfl, hb9⟩; have HND9 := Lib.hid (HND.out.go (Nat.le_refl _) hb9); have HBM9 := Lib.hid ((HBF2.out.go (bel HB8.out hb9)).raise (Nat.le_trans HB8.out.size (Nat.le_refl _)) hb9.size); have HS89 := Lib.hid hb9.size; (try clear c8); have HB9 := Lib.hid (bel HB8.out hb9); have c9 := (old_of HB9.out).1; clear hb9)
        | (go_at_call 37; refine (areNodes_any _ _ _ B D 40 (by decide) _ HBM9.out HND9.out).mono ?_; rw [HMK.out.okN]; rintro e wA ⟨rfl, hbA⟩; have HNDA := Lib.hid (HND9.out.go HS89.out hbA); have HBMA := Lib.hid (HBM9.out.go hbA); (try clear c9); have HBA := Lib.hid (bel HB9.out hbA); have cA := (old_of HBA.out).1; clear hbA)
        | (go_at_call 38; refine (names_any _ _ _ B D _ HBMA.out HNDA.out HG.out (goodN HMK.out.okN).1 (Nat.le_trans (goodN HMK.out.okN).2 (by decide))).mono ?_; rw [HMK.out.is]; rintro e wB ⟨rfl, hbB⟩; have hworst : (worstN B D B.ns : Int) ≤ m1 := Int.le_trans HMK.out.worst (Int.le_of_eq HM1.out); (try clear cA); have HBB := Lib.hid (bel HBA.out hbB); have cB := (old_of HBB.out).1; clear hbB)
        | (go_at_call 17; refine (works_any _).mono ?_; rintro e wH ⟨rfl, hbH⟩; (try clear cB); have HBH := Lib.hid (bel HBB.out hbH); have cH := (old_of HBH.out).1; clear hbH))
      go_ret
      exact ⟨rfl, fin HB.out (fin HB2.out (fin HB3.out HBH.out))⟩
    · obtain ⟨d, hdd⟩ : ∃ d, eDiff B = d := ⟨_, rfl⟩
      have HD := Lib.hid hd
      rw [hdd] at hd hm2 ha2
      have HDD := Lib.hid hdd
      have HM2 := Lib.hid hm2
      have HA2 := Lib.hid ha2
      clear hfar hm1 ha1 hm2 ha2 hdd
      go_enter Try.func12, Try.ntmps12
      go_wp2_with (first
        | (go_at_call 45; refine (Far_any N _ B _ (HBK.out.go HB0.out)).mono ?_; rintro e w1 ⟨rfl, hb1⟩; rw [HFA.out]; (try clear c0); have HB1 := Lib.hid (bel HB0.out hb1); have c1 := (old_of HB1.out).1; clear hb1)
        | (go_at_call 28; refine (copy_near N _ B _ (HBK.out.go HB1.out) HNE.out).mono ?_; rintro e w2 ⟨b1, d1, b2, d2, b3, d3, rfl, how2, hbk2, hb2⟩; clear how2; have HBK2 := Lib.hid hbk2; clear hbk2; (try clear c1); have HB2 := Lib.hid (bel HB1.out hb2); have c2 := (old_of HB2.out).1; clear hb2; obtain ⟨w3, hw3, HB3, hsz3, hblk3⟩ := box1 w2 (.cells #[.slice b1 B.nv d1, .slice b2 B.ns d2, .slice b3 B.D.n d3] 26); have HBG := Lib.hid ((HBK2.out.go HB3.out).raise HB3.out.size (Nat.le_refl _)); have x0 := cell_blk hblk3 0 rfl; have x1 := cell_blk hblk3 1 rfl; have x2 := cell_blk hblk3 2 rfl; have HBF := Lib.hid (HBK.out.go (bel HB2.out HB3.out)); have HBF2 : Hid (BookAt w3.heap.size w3 _ B) := Lib.hid (HBF.out.raise HBF.out.1 (Nat.le_refl _)); have HBz : Hid (Below w3.heap.size w3 w3) := Below.refl _ _; have q0 := (HB3.out.cell (p := ⟨w.heap.size, 0, none⟩) (Nat.lt_of_lt_of_le hsz HB2.out.size)).trans ((c2 _ 0 hsz).trans q0); have q1 := (HB3.out.cell (p := ⟨w.heap.size, 1, none⟩) (Nat.lt_of_lt_of_le hsz HB2.out.size)).trans ((c2 _ 1 hsz).trans q1); have q2 := (HB3.out.cell (p := ⟨w.heap.size, 2, none⟩) (Nat.lt_of_lt_of_le hsz HB2.out.size)).trans ((c2 _ 2 hsz).trans q2); have hs3 : w.heap.size < w3.heap.size := Nat.lt_of_lt_of_le hsz (Nat.le_trans HB2.out.size HB3.out.size); clear c2 hws hblk3)
        | (go_at_call 32; refine (kBest_any w3.heap.size _ B _ (HBG.out.go HBz.out)).mono ?_; rw [HM1.out, HM2.out]; rintro e w4 ⟨rfl, hb4⟩; (try clear cz); have HB4 := Lib.hid (bel HBz.out hb4); have c4 := (old_of HB4.out).1; clear hb4)
        | (go_at_call 60; refine (rBest_any w3.heap.size _ B _ (HBF2.out.go HB4.out)).mono ?_; rw [HM1.out, HM2.out]; rintro e w5 ⟨rfl, hb5⟩; (try clear c4); have HB5 := Lib.hid (bel HB4.out hb5); have c5 := (old_of HB5.out).1; clear hb5)
        | (go_at_call 33; refine (kMean_any w3.heap.size _ B _ (HBG.out.go HB5.out)).mono ?_; rw [HA1.out, HA2.out]; rintro e w6 ⟨rfl, hb6⟩; (try clear c5); have HB6 := Lib.hid (bel HB5.out hb6); have c6 := (old_of HB6.out).1; clear hb6)
        | (go_at_call 61; refine (rMean_any w3.heap.size _ B _ (HBF2.out.go HB6.out)).mono ?_; rw [HA1.out, HA2.out]; rintro e w7 ⟨rfl, hb7⟩; (try clear c6); have HB7 := Lib.hid (bel HB6.out hb7); have c7 := (old_of HB7.out).1; clear hb7)
        | (go_at_call 35; refine (kMake_any w3.heap.size _ B _ (HBG.out.go HB7.out) HNS7.out).mono ?_; rintro e w8 ⟨⟨nd, l, rfl, hnd, hz, _⟩, hb8⟩; obtain rfl := hz HD.out; rw [HDD.out]; obtain ⟨aN, cN, hnv, _, _⟩ := id hnd; rw [show (ndOf []).n = 0 from rfl] at hnv; subst hnv; have HND := Lib.hid hnd; clear hnd hz; (try clear c7); have HB8 := Lib.hid (bel HB7.out hb8); have c8 := (old_of HB8.out).1; clear hb8)
        | (go_at_call 31; refine (far_any _ _ (ndOf []) _ HND.out).mono ?_; rw [farN_nil]; rintro e wq ⟨rfl, hwq⟩; rw [hwq]; clear hwq wq)
        | (go_at_call 51; refine (same_any _ _ _ _ B _ (HBG.out.go HB8.out) (HBF2.out.go HB8.out)).mono ?_; rintro e w9 ⟨rfl, hb9⟩; (try clear c8); have HB9 := Lib.hid (bel HB8.out hb9); have c9 := (old_of HB9.out).1; clear hb9)
        | (go_at_call 17; refine (works_any _).mono ?_; rintro e wH ⟨rfl, hbH⟩; (try clear c9); have HBH := Lib.hid (bel HB9.out hbH); have cH := (old_of HBH.out).1; clear hbH))
      go_ret
      exact ⟨rfl, fin HB.out (fin HB2.out (fin HB3.out HBH.out))⟩

end Go.Proofs.Ytghimbggbgcgkaa
