/-
  RMost: how many scions can be given, and how often a sort, as the reference finds it.
-/
import Derived.Test.YtnnngbnimmcjiaaRSafe
namespace Go.Proofs.Ytnnngbnimmcjiaa
open Go.RowKit

theorem sum_len {B : SB} {p : Nat} (hG : GoodL B p) : ∀ (n : Nat) (g : List Nat), g.length = n → (∀ k, k ∈ g → k < B.nw) → sumG B g = n := by
  intro n
  induction n with
  | zero => intro g hg _; rw [List.length_eq_zero_iff.1 hg]; simp [sumG, sumC, cS]
  | succ n ih =>
    intro g hg hk
    obtain ⟨m, k, rfl⟩ : ∃ m k, g = m ++ [k] := ⟨g.dropLast, g.getLast (by intro e; rw [e] at hg; cases hg), (List.dropLast_concat_getLast _).symm⟩
    have hm : m.length = n := by simpa using hg
    have h1 := ih m hm fun j hj => hk j (List.mem_append.2 (.inl hj))
    have h2 := (hG.sN (hk k (by simp))).1
    have h3 := hG.ns
    unfold sumG at h1 ⊢
    simp only [sumC, cS_snoc'] at h1 ⊢
    have h4 : B.sN k = 0 ∨ B.sN k = 1 ∨ B.sN k = 2 ∨ B.sN k = 3 := by omega
    rcases h4 with e | e | e | e <;> simp [e] <;> omega
theorem sum_nil (B : SB) : sumG B [] = 0 := by simp [sumG, sumC, cS]

set_option maxHeartbeats 3200000 in
set_option maxRecDepth 100000 in
theorem rmost_any (N : Nat) (v : Value) (B : SB) (p : Nat) (w : World) (h : BookAt N w v B) (hG : GoodL B p) :
    Calls Try.prog 68 #[v] w fun e w' => e = .returned (.int .i64 (sumN B : Nat)) ∧ Below w.heap.size w w' := by
  have h' := h
  obtain ⟨_, a1, z1, a2, z2, a3, z3, rfl, _⟩ := h'
  obtain ⟨ws, hws, HB, hsz, hblk⟩ := box1 w (.cells #[.slice a1 B.ns z1, .slice a2 B.ng z2, .slice a3 B.nw z3] 26)
  have q0 := cell_blk hblk 0 rfl
  have q1 := cell_blk hblk 1 rfl
  have q2 := cell_blk hblk 2 rfl
  have HBK := Lib.hid (h.go HB.out)
  have HB0 : Hid (Below ws.heap.size ws ws) := Below.refl _ _
  have HNS : Hid (N ≤ ws.heap.size) := HBK.out.1
  have hlens := h.lens
  obtain ⟨hlv, hls, hln⟩ := hlens
  clear hblk h
  have HG := Lib.hid hG
  have HALL : Hid (∀ g, g ∈ giftsL B → GOK B g) := fun g hg => giftsL_ok hg
  obtain ⟨m, hm⟩ : ∃ m, (giftsL B).length = m := ⟨_, rfl⟩
  have HM := Lib.hid hm
  have hmp : 0 < m := by rw [← hm]; simp [giftsL]
  have hml : m ≤ 4096 := by rw [← hm]; have := tailG_len12 B hG.nw []; simpa [giftsL] using this
  have HNW := Lib.hid hG.nw
  clear hm hG
  go_enter Try.func68, Try.ntmps68
  go_wp2_with (go_at_call 69; refine (gifts_ref N _ B p HG.out B.nw [] (.slice none 0 0) 0 _ (HBK.out.go HB0.out) (by simp) (Nat.le_refl _) (.inl ⟨rfl, rfl⟩) (GOK.nil B) (by simp [nxG])).mono ?_; rw [show ([] :: tailG B B.nw []) = giftsL B from rfl]; rintro e w3 ⟨v2, rfl, hrl2, hb2⟩; obtain ⟨g2, c2', rows2, hv2, o2, l2, n2, m2, s2⟩ := hrl2.open (by rw [HM.out]; exact hmp); rw [HM.out] at hv2 l2; subst hv2; have HL2 := Lib.hid (And.intro l2 (And.intro n2 (And.intro m2 s2))); have HO2 := Lib.hid o2; clear hrl2 o2 l2 n2 m2 s2; have HB3 : Hid (Below ws.heap.size ws w3) := hb2; clear hb2)
  have HL3 : Hid (∀ (i : Nat) (b : List Nat), (giftsL B)[i]? = some b → ∃ r, w3.cell? ⟨g2, i, none⟩ = some r ∧ GU 0 w3 r b) := fun i b hi => by
    obtain ⟨r, h1, h2⟩ := HL2.out.2.2.1 i b hi
    have h3 := HL2.out.2.2.2 i r h1
    rw [show ((⟨g2, 0, none⟩ : Addr).add i) = ⟨g2, i, none⟩ by unfold Addr.add; split <;> simp_all] at h3
    exact ⟨r, h3, h2⟩
  clear HL2 HO2 hws
  go_loop [4, 5] (fun nv i => ∃ (k : Nat), k ≤ m ∧ i = .int .i64 k ∧ nv = .int .i64 (sumG B (bestL (sumG B) ((giftsL B).take k)) : Nat)) (fun _ i => m - (intOf i).toNat)
  case atStart => exact ⟨0, Nat.zero_le _, rfl, by rw [List.take_zero]; show _ = Value.int .i64 ((sumG B [] : Nat) : Int); rw [sum_nil]; rfl⟩
  case round =>
    obtain ⟨k, hk, rfl, rfl⟩ := hrel
    by_cases hkn : k < m
    · have hki : (k : Int) < (m : Int) := by omega
      obtain ⟨b, hbk⟩ : ∃ b, (giftsL B)[k]? = some b := ⟨_, List.getElem?_eq_getElem (by rw [HM.out]; exact hkn)⟩
      have HBG := Lib.hid (HALL.out b (List.mem_of_getElem? hbk))
      have HTK : Hid ((giftsL B).take (k + 1) = (giftsL B).take k ++ [b]) := by
        unfold Hid
        rw [List.take_add_one, hbk]; rfl
      obtain ⟨r, hr, hgu⟩ := HL3.out k b hbk
      obtain ⟨ar, cr', rfl⟩ := hgu.form
      obtain ⟨y, hn⟩ : ∃ n, b.length = n := ⟨_, rfl⟩
      have hn12 : y ≤ 1000 := by have := HBG.out.len; have := HBG.out.top; have := HNW.out; omega
      have HSL : Hid (sumG B b = y) := sum_len HG.out y b hn fun j hj => by have := HBG.out.lt j hj; have := HBG.out.top; omega
      rw [hn] at hr
      have HVA : Hid (sumG B (bestL (sumG B) ((giftsL B).take (k + 1))) = Nat.max (sumG B (bestL (sumG B) ((giftsL B).take k))) y) := by unfold Hid; rw [HTK.out, ← HSL.out]; exact best_val _ _
      obtain ⟨z, hz⟩ : ∃ z, sumG B (bestL (sumG B) ((giftsL B).take k)) = z := ⟨_, rfl⟩
      rw [hz] at HVA
      rw [hz]
      clear hbk hgu hn hz
      by_cases hlt : z < y
      · have HMX : Hid (Nat.max z y = y) := Nat.max_eq_right (Nat.le_of_lt hlt)
        have HLT := Lib.hid hlt
        have hli : (z : Int) < (y : Int) := by omega
        have HLI := Lib.hid hli
        clear hlt hli
        go_wp2
        go_round
        case rel => exact ⟨k + 1, by omega, by go_num, by rw [HVA.out, HMX.out]; first | rw [if_pos HLT.out] | rw [if_pos HLI.out]⟩
        case measure => simp [intOf]; omega
      · have HMX : Hid (Nat.max z y = z) := Nat.max_eq_left (by omega)
        have HLT := Lib.hid hlt
        have hli : ¬ (z : Int) < (y : Int) := by omega
        have HLI := Lib.hid hli
        clear hlt hli
        go_wp2
        go_round
        case rel => exact ⟨k + 1, by omega, by go_num, by rw [HVA.out, HMX.out]; first | rw [if_neg HLT.out] | rw [if_neg HLI.out]⟩
        case measure => simp [intOf]; omega
    · have hkm : k = m := by omega
      have HTA : Hid ((giftsL B).take k = giftsL B) := List.take_of_length_le (by rw [HM.out]; omega)
      rw [HTA.out]
      have HSN : Hid (sumG B (bestL (sumG B) (giftsL B)) = sumN B) := rfl
      rw [HSN.out]
      obtain ⟨sn, hsn⟩ : ∃ sn, sumN B = sn := ⟨_, rfl⟩
      have HSNN := Lib.hid hsn
      rw [hsn]
      clear hsn
      go_wp2
      go_ret
      exact ⟨by rw [HSNN.out]; rfl, fin HB.out HB3.out⟩

set_option maxHeartbeats 1600000 in
set_option maxRecDepth 100000 in
theorem rMostE_any (N : Nat) (v : Value) (B : SB) (w : World) (h : BookAt N w v B) :
    Calls Try.prog 39 #[v] w fun e w' => e = .returned (.tuple #[.int .i64 (eNum B (sumN B)).1, .int .i64 (eNum B (sumN B)).2]) ∧ Below w.heap.size w w' := by
  have h' := h
  obtain ⟨_, a1, z1, a2, z2, a3, z3, rfl, _⟩ := h'
  obtain ⟨ws, hws, HB, hsz, hblk⟩ := box1 w (.cells #[.slice a1 B.ns z1, .slice a2 B.ng z2, .slice a3 B.nw z3] 26)
  have q0 := cell_blk hblk 0 rfl
  have q1 := cell_blk hblk 1 rfl
  have q2 := cell_blk hblk 2 rfl
  have HBK := Lib.hid (h.go HB.out)
  have HB0 : Hid (Below ws.heap.size ws ws) := Below.refl _ _
  have HNS : Hid (N ≤ ws.heap.size) := HBK.out.1
  have hlens := h.lens
  obtain ⟨hlv, hls, hln⟩ := hlens
  clear hblk h
  cases hv : okL B with
  | false =>
    have HV := Lib.hid hv
    have HE : Hid (eNum B (sumN B) = (0, 60)) := by unfold Hid eNum; rw [hv]; rfl
    clear hv
    go_enter Try.func39, Try.ntmps39
    go_wp2_with (go_at_call 35; refine (rCheck_any N _ B _ (HBK.out.go HB0.out)).mono ?_; rw [HV.out]; rintro e w1 ⟨rfl, hb1⟩; (try clear c0); have HB1 := Lib.hid (bel HB0.out hb1); have c1 := (old_of HB1.out).1; clear hb1)
    go_ret2
    exact ⟨by rw [HE.out]; rfl, fin HB.out HB1.out⟩
  | true =>
    have HV := Lib.hid hv
    have HG := Lib.hid (goodL hv)
    have HE : Hid (eNum B (sumN B) = (((sumN B : Nat) : Int), 0)) := by unfold Hid eNum; rw [hv]; rfl
    obtain ⟨sn, hsn⟩ : ∃ sn, sumN B = sn := ⟨_, rfl⟩
    have HSN := Lib.hid hsn
    clear hv hsn
    go_enter Try.func39, Try.ntmps39
    go_wp2_with (first
      | (go_at_call 35; refine (rCheck_any N _ B _ (HBK.out.go HB0.out)).mono ?_; rw [HV.out]; rintro e w1 ⟨rfl, hb1⟩; (try clear c0); have HB1 := Lib.hid (bel HB0.out hb1); have c1 := (old_of HB1.out).1; clear hb1)
      | (go_at_call 68; refine (rmost_any N _ B 4 _ (HBK.out.go HB1.out) HG.out).mono ?_; rw [HSN.out]; rintro e w2 ⟨rfl, hb2⟩; (try clear c1); have HB2 := Lib.hid (bel HB1.out hb2); have c2 := (old_of HB2.out).1; clear hb2))
    go_ret2
    exact ⟨by rw [HE.out, HSN.out]; rfl, fin HB.out HB2.out⟩

/-- Alone -/
def eAlone (B : SB) (s : Int) : Int × Int := if okL B && (decide (0 ≤ s) && decide (s < B.ns)) then (((cS B (bestL (fun g => cS B g s.toNat) (giftsL B)) s.toNat : Nat) : Int), 0) else (0, errA (okL B) (decide (0 ≤ s) && decide (s < B.ns)))

end Go.Proofs.Ytnnngbnimmcjiaa
