/-
  Few: Few, Need, Apart of package keys; Apart, Many of the reference.
-/
import Derived.Test.YtghimbggbgcgkaaNeed
namespace Go.Proofs.Ytghimbggbgcgkaa
open Go.RowKit

def eFew (B : KB) : Int × Int := if okKB B then (if diffB B then (((fewF (pairsL B B.ns) B.nv (2 ^ B.nv) : Nat) : Int), 0) else (0, 3)) else (0, 20)
def eNeed (B : KB) : List Int × Int := if okKB B then (elems (needF (pairsL B B.ns)), 0) else ([], 20)
def apP (B : KB) (s t m : Nat) : Bool := decide (B.X s m ≠ B.X t m)
def eApart (B : KB) (s t : Int) : List Int × Int := if okKB B then (if (decide (0 ≤ s) && decide (s < B.ns)) && (decide (0 ≤ t) && decide (t < B.ns)) then (sel (apP B s.toNat t.toNat) B.nv, 0) else ([], 1)) else ([], 20)

set_option maxRecDepth 100000 in
set_option maxHeartbeats 1600000 in
theorem kFew_any (N : Nat) (v : Value) (B : KB) (w : World) (h : BookAt N w v B) :
    Calls Try.prog 34 #[v] w fun e w' => e = .returned (.tuple #[.int .i64 (eFew B).1, .int .i64 (eFew B).2]) ∧ Below w.heap.size w w' := by
  have h' := h
  obtain ⟨_, a1, z1, a2, z2, a3, z3, rfl, _⟩ := h'
  obtain ⟨ws, hws, HB, hsz, hblk⟩ := box1 w (.cells #[.slice a1 B.nv z1, .slice a2 B.ns z2, .slice a3 B.D.n z3] 26)
  have q0 := cell_blk hblk 0 rfl
  have q1 := cell_blk hblk 1 rfl
  have q2 := cell_blk hblk 2 rfl
  have HBK := Lib.hid (h.go HB.out)
  have HB0 : Hid (Below ws.heap.size ws ws) := Below.refl _ _
  have HNS : Hid (N ≤ ws.heap.size) := HBK.out.1
  have hlens := h.lens
  obtain ⟨hlv, hls, hln⟩ := hlens
  clear hblk h
  cases hv : okKB B with
  | false =>
    have HA : Hid (eDiff B = 20) := by unfold Hid eDiff; rw [hv]; rfl
    have HE : Hid (eFew B = (0, 20)) := by unfold Hid eFew; rw [hv]; rfl
    clear hv
    go_enter Try.func34, Try.ntmps34
    go_wp2_with (go_at_call 80; go_must (refine (cad_any N _ B _ (HBK.out.go HB0.out)).mono ?_; rintro e w1 ⟨rfl, hb1⟩; rw [HA.out]; (try clear c0); have HB1 := Lib.hid (bel HB0.out hb1); have c1 := (old_of HB1.out).1; clear hb1))
    go_ret2
    exact ⟨by rw [HE.out]; rfl, fin HB.out HB1.out⟩
  | true =>
    cases hd : diffB B with
    | false =>
      have HA : Hid (eDiff B = 3) := by unfold Hid eDiff; rw [hv, hd]; rfl
      have HE : Hid (eFew B = (0, 3)) := by unfold Hid eFew; rw [hv, hd]; rfl
      clear hv hd
      go_enter Try.func34, Try.ntmps34
      go_wp2_with (go_at_call 80; go_must (refine (cad_any N _ B _ (HBK.out.go HB0.out)).mono ?_; rintro e w1 ⟨rfl, hb1⟩; rw [HA.out]; (try clear c0); have HB1 := Lib.hid (bel HB0.out hb1); have c1 := (old_of HB1.out).1; clear hb1))
      go_ret2
      exact ⟨by rw [HE.out]; rfl, fin HB.out HB1.out⟩
    | true =>
      have HA : Hid (eDiff B = 0) := by unfold Hid eDiff; rw [hv, hd]; rfl
      have HE : Hid (eFew B = (((fewF (pairsL B B.ns) B.nv (2 ^ B.nv) : Nat) : Int), 0)) := by unfold Hid eFew; rw [hv, hd]; rfl
      have HG := Lib.hid (goodB hv)
      clear hv hd
      go_enter Try.func34, Try.ntmps34
      go_wp2_with (first
        | (go_at_call 80; go_must (refine (cad_any N _ B _ (HBK.out.go HB0.out)).mono ?_; rintro e w1 ⟨rfl, hb1⟩; rw [HA.out]; (try clear c0); have HB1 := Lib.hid (bel HB0.out hb1); have c1 := (old_of HB1.out).1; clear hb1))
        | (go_at_call 86; go_must (refine (few_any N _ B _ (HBK.out.go HB1.out) HG.out).mono ?_; rintro e w2 ⟨rfl, hb2⟩; (try clear c1); have HB2 := Lib.hid (bel HB1.out hb2); have c2 := (old_of HB2.out).1; clear hb2)))
      go_ret2
      exact ⟨by rw [HE.out]; rfl, fin HB.out HB2.out⟩

set_option maxRecDepth 100000 in
set_option maxHeartbeats 1600000 in
theorem kNeed_any (N : Nat) (v : Value) (B : KB) (w : World) (h : BookAt N w v B) :
    Calls Try.prog 40 #[v] w (GivesIE w.heap.size w (eNeed B).1 (eNeed B).2) := by
  have h' := h
  obtain ⟨_, a1, z1, a2, z2, a3, z3, rfl, _⟩ := h'
  obtain ⟨ws, hws, HB, hsz, hblk⟩ := box1 w (.cells #[.slice a1 B.nv z1, .slice a2 B.ns z2, .slice a3 B.D.n z3] 26)
  have q0 := cell_blk hblk 0 rfl
  have q1 := cell_blk hblk 1 rfl
  have q2 := cell_blk hblk 2 rfl
  have HBK := Lib.hid (h.go HB.out)
  have HB0 : Hid (Below ws.heap.size ws ws) := Below.refl _ _
  have HNS : Hid (N ≤ ws.heap.size) := HBK.out.1
  have hlens := h.lens
  obtain ⟨hlv, hls, hln⟩ := hlens
  clear hblk h
  cases hv : okKB B with
  | false =>
    have HA : Hid (chk B = 20) := chk_no hv
    have HE : Hid (eNeed B = ([], 20)) := by unfold Hid eNeed; rw [hv]; rfl
    clear hv
    go_enter Try.func40, Try.ntmps40
    go_wp2_with (go_at_call 46; go_must (refine (kCheck_any N _ B _ (HBK.out.go HB0.out)).mono ?_; rintro e w1 ⟨rfl, hb1⟩; rw [HA.out]; (try clear c0); have HB1 := Lib.hid (bel HB0.out hb1); have c1 := (old_of HB1.out).1; clear hb1))
    go_ret2
    exact ⟨.slice none 0 0, by rw [HE.out]; rfl, by rw [HE.out]; exact own_nil _ _, fin HB.out HB1.out⟩
  | true =>
    have HG := Lib.hid (goodB hv)
    have HA : Hid (chk B = 0) := chk_yes hv
    have HE : Hid (eNeed B = (elems (needF (pairsL B B.ns)), 0)) := by unfold Hid eNeed; rw [hv]; rfl
    have HL : Hid (needF (pairsL B B.ns) < 256) := needF_lt fun d hd => pairsL_lt HG.out.nv hd
    clear hv
    go_enter Try.func40, Try.ntmps40
    go_wp2_with (first
      | (go_at_call 46; go_must (refine (kCheck_any N _ B _ (HBK.out.go HB0.out)).mono ?_; rintro e w1 ⟨rfl, hb1⟩; rw [HA.out]; (try clear c0); have HB1 := Lib.hid (bel HB0.out hb1); have c1 := (old_of HB1.out).1; clear hb1))
      | (go_at_call 90; go_must (refine (need_any N _ B _ (HBK.out.go HB1.out) HG.out).mono ?_; rintro e w2 ⟨rfl, hb2⟩; (try clear c1); have HB2 := Lib.hid (bel HB1.out hb2); have c2 := (old_of HB2.out).1; clear hb2))
      | (go_at_call 91; go_must (refine (setList_any _ HL.out _).mono ?_; rintro e w3 ⟨v3, rfl, ho3, hb3⟩; have HO3 := Lib.hid ho3; clear ho3; (try clear c2); have HB3 := Lib.hid (bel HB2.out hb3); have c3 := (old_of HB3.out).1; clear hb3)))
    go_ret2
    exact ⟨v3, by rw [HE.out]; rfl, by rw [HE.out]; exact own_mono HO3.out (Nat.le_trans HB.out.size HB2.out.size), fin HB.out HB3.out⟩

theorem elems_apart {B : KB} (hG : GoodB B) (s t : Nat) : elems (apartS B s t) = sel (apP B s t) B.nv := by
  obtain ⟨_, h2⟩ := setF_spec (fun m => decide (B.X s m ≠ B.X t m)) B.nv (by have := hG.nv; omega)
  have key : ∀ k, sel (fun i => (apartS B s t).testBit i) (B.nv + k) = sel (apP B s t) B.nv := by
    intro k
    induction k with
    | zero =>
      have : ∀ n, n ≤ B.nv → sel (fun i => (apartS B s t).testBit i) n = sel (apP B s t) n := by
        intro n
        induction n with
        | zero => intro _; rfl
        | succ n ih =>
          intro hn
          have e : (apartS B s t).testBit n = apP B s t n := by unfold apartS; rw [h2]; simp [apP]; omega
          cases hp : apP B s t n with
          | true => rw [sel_hit hp, sel_hit (show (fun i => (apartS B s t).testBit i) n = true from e.trans hp), ih (by omega)]
          | false => rw [sel_miss hp, sel_miss (show (fun i => (apartS B s t).testBit i) n = false from e.trans hp), ih (by omega)]
      exact this _ (Nat.le_refl _)
    | succ k ih =>
      rw [← Nat.add_assoc, sel_miss, ih]
      show (apartS B s t).testBit (B.nv + k) = false
      unfold apartS; rw [h2]; simp; intro h; omega
  have h8 : (8 : Nat) = B.nv + (8 - B.nv) := by have := hG.nv; omega
  unfold elems
  rw [h8]; exact key _
theorem ints_apart (B : KB) (s t : Nat) : ∀ n, ints (apartL B s t n) = sel (apP B s t) n := by
  intro n
  induction n with
  | zero => rfl
  | succ n ih =>
    by_cases h : B.X s n = B.X t n
    · rw [apartL_miss h, ih, sel_miss (by simp [apP, h])]
    · rw [apartL_hit h, sel_hit (by simp [apP, h]), ← ih]; simp [ints]

set_option maxRecDepth 100000 in
set_option maxHeartbeats 3200000 in
theorem kApart_any (N : Nat) (v : Value) (B : KB) (s t : Int) (w : World) (h : BookAt N w v B) :
    Calls Try.prog 58 #[v, .int .i64 s, .int .i64 t] w (GivesIE w.heap.size w (eApart B s t).1 (eApart B s t).2) := by
  have h' := h
  obtain ⟨_, a1, z1, a2, z2, a3, z3, rfl, _⟩ := h'
  obtain ⟨ws, hws, HB, hsz, hblk⟩ := box1 w (.cells #[.slice a1 B.nv z1, .slice a2 B.ns z2, .slice a3 B.D.n z3] 26)
  have q0 := cell_blk hblk 0 rfl
  have q1 := cell_blk hblk 1 rfl
  have q2 := cell_blk hblk 2 rfl
  have HBK := Lib.hid (h.go HB.out)
  have HB0 : Hid (Below ws.heap.size ws ws) := Below.refl _ _
  have HNS : Hid (N ≤ ws.heap.size) := HBK.out.1
  have hlens := h.lens
  obtain ⟨hlv, hls, hln⟩ := hlens
  clear hblk h
  cases hv : okKB B with
  | false =>
    have HA : Hid (chk B = 20) := chk_no hv
    have HE : Hid (eApart B s t = ([], 20)) := by unfold Hid eApart; rw [hv]; rfl
    clear hv
    go_enter Try.func58, Try.ntmps58
    go_wp2_with (go_at_call 46; go_must (refine (kCheck_any N _ B _ (HBK.out.go HB0.out)).mono ?_; rintro e w1 ⟨rfl, hb1⟩; rw [HA.out]; (try clear c0); have HB1 := Lib.hid (bel HB0.out hb1); have c1 := (old_of HB1.out).1; clear hb1))
    go_ret2
    exact ⟨.slice none 0 0, by rw [HE.out]; rfl, by rw [HE.out]; exact own_nil _ _, fin HB.out HB1.out⟩
  | true =>
    have HG := Lib.hid (goodB hv)
    have HA : Hid (chk B = 0) := chk_yes hv
    cases hs : (decide (0 ≤ s) && decide (s < B.ns)) with
    | false =>
      have HS := Lib.hid hs
      have HE : Hid (eApart B s t = ([], 1)) := by unfold Hid eApart; rw [hv, hs]; rfl
      clear hv hs
      go_enter Try.func58, Try.ntmps58
      go_wp2_with (first
        | (go_at_call 46; go_must (refine (kCheck_any N _ B _ (HBK.out.go HB0.out)).mono ?_; rintro e w1 ⟨rfl, hb1⟩; rw [HA.out]; (try clear c0); have HB1 := Lib.hid (bel HB0.out hb1); have c1 := (old_of HB1.out).1; clear hb1))
        | (go_at_call 73; refine (kwithin_eq _ _ _ _ HS.out).mono ?_; rintro e wq ⟨rfl, hwq⟩; rw [hwq]; clear hwq wq))
      go_ret2
      exact ⟨.slice none 0 0, by rw [HE.out]; rfl, by rw [HE.out]; exact own_nil _ _, fin HB.out HB1.out⟩
    | true =>
      have HS := Lib.hid hs
      cases ht : (decide (0 ≤ t) && decide (t < B.ns)) with
      | false =>
        have HT := Lib.hid ht
        have HE : Hid (eApart B s t = ([], 1)) := by unfold Hid eApart; rw [hv, hs, ht]; rfl
        clear hv hs ht
        go_enter Try.func58, Try.ntmps58
        go_wp2_with (first
          | (go_at_call 46; go_must (refine (kCheck_any N _ B _ (HBK.out.go HB0.out)).mono ?_; rintro e w1 ⟨rfl, hb1⟩; rw [HA.out]; (try clear c0); have HB1 := Lib.hid (bel HB0.out hb1); have c1 := (old_of HB1.out).1; clear hb1))
          | (go_at_call 73; refine (kwithin_eq s _ _ _ HS.out).mono ?_; clear HS; rintro e wq ⟨rfl, hwq⟩; rw [hwq]; clear hwq wq)
          | (go_at_call 73; refine (kwithin_eq t _ _ _ HT.out).mono ?_; rintro e wq ⟨rfl, hwq⟩; rw [hwq]; clear hwq wq))
        go_ret2
        exact ⟨.slice none 0 0, by rw [HE.out]; rfl, by rw [HE.out]; exact own_nil _ _, fin HB.out HB1.out⟩
      | true =>
        have HT := Lib.hid ht
        obtain ⟨s', rfl⟩ : ∃ s' : Nat, s = s' := ⟨s.toNat, by simp at hs; omega⟩
        obtain ⟨t', rfl⟩ : ∃ t' : Nat, t = t' := ⟨t.toNat, by simp at ht; omega⟩
        have hsn : s' < B.ns := by simp at hs; exact hs
        have htn : t' < B.ns := by simp at ht; exact ht
        have HE : Hid (eApart B s' t' = (sel (apP B s' t') B.nv, 0)) := by unfold Hid eApart; rw [hv, hs, ht]; rfl
        have HL := Lib.hid (apartS_lt B s' t' HG.out.nv)
        have HEA := Lib.hid (elems_apart HG.out s' t')
        clear hv hs ht
        go_enter Try.func58, Try.ntmps58
        go_wp2_with (first
          | (go_at_call 46; go_must (refine (kCheck_any N _ B _ (HBK.out.go HB0.out)).mono ?_; rintro e w1 ⟨rfl, hb1⟩; rw [HA.out]; (try clear c0); have HB1 := Lib.hid (bel HB0.out hb1); have c1 := (old_of HB1.out).1; clear hb1))
          | (go_at_call 73; refine (kwithin_eq s' _ _ _ HS.out).mono ?_; clear HS; rintro e wq ⟨rfl, hwq⟩; rw [hwq]; clear hwq wq)
          | (go_at_call 73; refine (kwithin_eq t' _ _ _ HT.out).mono ?_; rintro e wq ⟨rfl, hwq⟩; rw [hwq]; clear hwq wq)
          | (go_at_call 97; go_must (refine (apart_any N _ B s' t' _ (HBK.out.go HB1.out) HG.out hsn htn).mono ?_; rintro e w2 ⟨rfl, hb2⟩; (try clear c1); have HB2 := Lib.hid (bel HB1.out hb2); have c2 := (old_of HB2.out).1; clear hb2))
          | (go_at_call 91; go_must (refine (setList_any _ HL.out _).mono ?_; rintro e w3 ⟨v3, rfl, ho3, hb3⟩; rw [HEA.out] at ho3; have HO3 := Lib.hid ho3; clear ho3; (try clear c2); have HB3 := Lib.hid (bel HB2.out hb3); have c3 := (old_of HB3.out).1; clear hb3)))
        go_ret2
        exact ⟨v3, by rw [HE.out]; rfl, by rw [HE.out]; exact own_mono HO3.out (Nat.le_trans HB.out.size HB2.out.size), fin HB.out HB3.out⟩

/-- halves -/
theorem many_half : ∀ s : Fin 256, many s.val = s.val % 2 + many (s.val / 2) := by decide +kernel
set_option maxRecDepth 100000 in
set_option maxHeartbeats 1600000 in
theorem rMany_any (s : Nat) (hs : s < 256) (w : World) :
    Calls Try.prog 42 #[.int .i64 s] w fun e w' => e = .returned (.int .i64 (many s)) ∧ w' = w := by
  go_enter Try.func42, Try.ntmps42
  go_wp2
  go_loop [0, 3] (fun t n => ∃ (r m : Nat), r < 256 ∧ t = .int .i64 r ∧ n = .int .i64 m ∧ m ≤ 256 ∧ Hid (many s = m + many r)) (fun t _ => (intOf t).toNat)
  case atStart => exact ⟨s, 0, hs, rfl, rfl, by omega, by unfold Hid; omega⟩
  case round =>
    obtain ⟨r, m, hr, rfl, rfl, hm, H⟩ := hrel
    by_cases h0 : 0 < r
    · have h0i : (0 : Int) < (r : Int) := by omega
      have HH := Lib.hid (many_half ⟨r, hr⟩)
      have HR := Lib.hid hr
      have HM := Lib.hid hm
      go_wp2
      have h1 := H.out
      have h2 := HH.out
      simp only at h2
      have h8 : many s ≤ 8 := cnt_le _ _
      refine ⟨⟨r / 2, m + r % 2, by have := HR.out; omega, by congr 1, by congr 1, by omega, by unfold Hid; omega⟩, ?_⟩
      simp [intOf]; omega
    · have h0i : ¬ (0 : Int) < (r : Int) := by omega
      have H0 : Hid (many s = m) := by have := H.out; rw [show r = 0 by omega] at this; unfold Hid; rw [this]; rfl
      go_wp2
      go_ret
      exact ⟨ret_int (by rw [H0.out]), rfl⟩

end Go.Proofs.Ytghimbggbgcgkaa
