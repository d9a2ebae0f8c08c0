/-
  Few: Few, Need, Apart of package keys; Apart, Many of the reference.
-/
import Derived.Test.YtbieglmpkljjjaaNeed
import Derived.Test.YtbieglmpkljjjaaLEach
import Derived.Test.YtbieglmpkljjjaaLRight
namespace Go.Proofs.Ytbieglmpkljjjaa
open Go.RowKit

def eFew (B : KB) : Int × Int := if okKB B then (if diffB B then (((fewF (pairsL B B.ns) B.nv (2 ^ B.nv) : Nat) : Int), 0) else (0, 3)) else (0, 20)
def eNeed (B : KB) : List Int × Int := if okKB B then (elems (needF (pairsL B B.ns)), 0) else ([], 20)
def apP (B : KB) (s t m : Nat) : Bool := decide (B.X s m ≠ B.X t m)
def eApart (B : KB) (s t : Int) : List Int × Int := if okKB B then (if (decide (0 ≤ s) && decide (s < B.ns)) && (decide (0 ≤ t) && decide (t < B.ns)) then (sel (apP B s.toNat t.toNat) B.nv, 0) else ([], 1)) else ([], 20)

set_option maxRecDepth 100000 in
set_option maxHeartbeats 1600000 in
theorem kFew_any (N : Nat) (v : Value) (B : KB) (w : World) (h : BookAt N w v B) :
    Calls Try.prog 34 #[v] w fun e w' => e = .returned (.tuple #[.int .i64 (eFew B).1, .int .i64 (eFew B).2]) ∧ Below w.heap.size w w' := by
  have h' := h
  obtain ⟨_, a1, z1, a2, z2, a3, z3, rfl, _⟩ := h'
  obtain ⟨ws, hws, HB, hsz, hblk⟩ := box1 w (.cells #[.slice a1 B.nv z1, .slice a2 B.ns z2, .slice a3 B.D.n z3] 26)
  have q0 := cell_blk hblk 0 rfl
  have q1 := cell_blk hblk 1 rfl
  have q2 := cell_blk hblk 2 rfl
  have HBK := Lib.hid (h.go HB.out)
  have HB0 : Hid (Below ws.heap.size ws ws) := Below.refl _ _
  have HNS : Hid (N ≤ ws.heap.size) := HBK.out.1
  have hlens := h.lens
  obtain ⟨hlv, hls, hln⟩ := hlens
  clear hblk h
  cases hv : okKB B with
  | false =>
    have HA : Hid (eDiff B = 20) := by unfold Hid eDiff; rw [hv]; rfl
    have HE : Hid (eFew B = (0, 20)) := by unfold Hid eFew; rw [hv]; rfl
    clear hv
    go_enter Try.func34, Try.ntmps34
    go_wp2_with (go_at_call 80; go_must (refine (cad_any N _ B _ (HBK.out.go HB0.out)).mono ?_; rintro e w1 ⟨rfl, hb1⟩; rw [HA.out]; (try clear c0); have HB1 := Lib.hid (bel HB0.out hb1); have c1 := (old_of HB1.out).1; clear hb1))
    go_ret2
    exact ⟨by rw [HE.out]; rfl, fin HB.out HB1.out⟩
  | true =>
    cases hd : diffB B with
    | false =>
      have HA : Hid (eDiff B = 3) := by unfold Hid eDiff; rw [hv, hd]; rfl
      have HE : Hid (eFew B = (0, 3)) := by unfold Hid eFew; rw [hv, hd]; rfl
      clear hv hd
      go_enter Try.func34, Try.ntmps34
      go_wp2_with (go_at_call 80; go_must (refine (cad_any N _ B _ (HBK.out.go HB0.out)).mono ?_; rintro e w1 ⟨rfl, hb1⟩; rw [HA.out]; (try clear c0); have HB1 := Lib.hid (bel HB0.out hb1); have c1 := (old_of HB1.out).1; clear hb1))
      go_ret2
      exact ⟨by rw [HE.out]; rfl, fin HB.out HB1.out⟩
    | true =>
      have HA : Hid (eDiff B = 0) := by unfold Hid eDiff; rw [hv, hd]; rfl
      have HE : Hid (eFew B = (((fewF (pairsL B B.ns) B.nv (2 ^ B.nv) : Nat) : Int), 0)) := by unfold Hid eFew; rw [hv, hd]; rfl
      have HG := Lib.hid (goodB hv)
      clear hv hd
      go_enter Try.func34, Try.ntmps34
      go_wp2_with (first
        | (go_at_call 80; go_must (refine (cad_any N _ B _ (HBK.out.go HB0.out)).mono ?_; rintro e w1 ⟨rfl, hb1⟩; rw [HA.out]; (try clear c0); have HB1 := Lib.hid (bel HB0.out hb1); have c1 := (old_of HB1.out).1; clear hb1))
        | (go_at_call 86; go_must (refine (few_any N _ B _ (HBK.out.go HB1.out) HG.out).mono ?_; rintro e w2 ⟨rfl, hb2⟩; (try clear c1); have HB2 := Lib.hid (bel HB1.out hb2); have c2 := (old_of HB2.out).1; clear hb2)))
      go_ret2
      exact ⟨by rw [HE.out]; rfl, fin HB.out HB2.out⟩

set_option maxRecDepth 100000 in
set_option maxHeartbeats 1600000 in
theorem kNeed_any (N : Nat) (v : Value) (B : KB) (w : World) (h : BookAt N w v B) :
    Calls Try.prog 40 #[v] w (GivesIE w.heap.size w (eNeed B).1 (eNeed B).2) := by
  have h' := h
  obtain ⟨_, a1, z1, a2, z2, a3, z3, rfl, _⟩ := h'
  obtain ⟨ws, hws, HB, hsz, hblk⟩ := box1 w (.cells #[.slice a1 B.nv z1, .slice a2 B.ns z2, .slice a3 B.D.n z3] 26)
  have q0 := cell_blk hblk 0 rfl
  have q1 := cell_blk hblk 1 rfl
  have q2 := cell_blk hblk 2 rfl
  have HBK := Lib.hid (h.go HB.out)
  have HB0 : Hid (Below ws.heap.size ws ws) := Below.refl _ _
  have HNS : Hid (N ≤ ws.heap.size) := HBK.out.1
  have hlens := h.lens
  obtain ⟨hlv, hls, hln⟩ := hlens
  clear hblk h
  cases hv : okKB B with
  | false =>
    have HA : Hid (chk B = 20) := chk_no hv
    have HE : Hid (eNeed B = ([], 20)) := by unfold Hid eNeed; rw [hv]; rfl
    clear hv
    go_enter Try.func40, Try.ntmps40
    go_wp2_with (go_at_call 46; go_must (refine (kCheck_any N _ B _ (HBK.out.go HB0.out)).mono ?_; rintro e w1 ⟨rfl, hb1⟩; rw [HA.out]; (try clear c0); have HB1 := Lib.hid (bel HB0.out hb1); have c1 := (old_of HB1.out).1; clear hb1))
    go_ret2
    exact ⟨.slice none 0 0, by rw [HE.out]; rfl, by rw [HE.out]; exact own_nil _ _, fin HB.out HB1.out⟩
  | true =>
    have HG := Lib.hid (goodB hv)
    have HA : Hid (chk B = 0) := chk_yes hv
    have HE : Hid (eNeed B = (elems (needF (pairsL B B.ns)), 0)) := by unfold Hid eNeed; rw [hv]; rfl
    have HL : Hid (needF (pairsL B B.ns) < 256) := needF_lt fun d hd => pairsL_lt HG.out.nv hd
    clear hv
    go_enter Try.func40, Try.ntmps40
    go_wp2_with (first
      | (go_at_call 46; go_must (refine (kCheck_any N _ B _ (HBK.out.go HB0.out)).mono ?_; rintro e w1 ⟨rfl, hb1⟩; rw [HA.out]; (try clear c0); have HB1 := Lib.hid (bel HB0.out hb1); have c1 := (old_of HB1.out).1; clear hb1))
      | (go_at_call 90; go_must (refine (need_any N _ B _ (HBK.out.go HB1.out) HG.out).mono ?_; rintro e w2 ⟨rfl, hb2⟩; (try clear c1); have HB2 := Lib.hid (bel HB1.out hb2); have c2 := (old_of HB2.out).1; clear hb2))
      | (go_at_call 91; go_must (refine (setList_any _ HL.out _).mono ?_; rintro e w3 ⟨v3, rfl, ho3, hb3⟩; have HO3 := Lib.hid ho3; clear ho3; (try clear c2); have HB3 := Lib.hid (bel HB2.out hb3); have c3 := (old_of HB3.out).1; clear hb3)))
    go_ret2
    exact ⟨v3, by rw [HE.out]; rfl, by rw [HE.out]; exact own_mono HO3.out (Nat.le_trans HB.out.size HB2.out.size), fin HB.out HB3.out⟩

theorem elems_apart {B : KB} (hG : GoodB B) (s t : Nat) : elems (apartS B s t) = sel (apP B s t) B.nv := by
  obtain ⟨_, h2⟩ := setF_spec (fun m => decide (B.X s m ≠ B.X t m)) B.nv (by have := hG.nv; omega)
  have key : ∀ k, sel (fun i => (apartS B s t).testBit i) (B.nv + k) = sel (apP B s t) B.nv := by
    intro k
    induction k with
    | zero =>
      have : ∀ n, n ≤ B.nv → sel (fun i => (apartS B s t).testBit i) n = sel (apP B s t) n := by
        intro n
        induction n with
        | zero => intro _; rfl
        | succ n ih =>
          intro hn
          have e : (apartS B s t).testBit n = apP B s t n := by unfold apartS; rw [h2]; simp [apP]; omega
          cases hp : apP B s t n with
          | true => rw [sel_hit hp, sel_hit (show (fun i => (apartS B s t).testBit i) n = true from e.trans hp), ih (by omega)]
          | false => rw [sel_miss hp, sel_miss (show (fun i => (apartS B s t).testBit i) n = false from e.trans hp), ih (by omega)]
      exact this _ (Nat.le_refl _)
    | succ k ih =>
      rw [← Nat.add_assoc, sel_miss, ih]
      show (apartS B s t).testBit (B.nv + k) = false
      unfold apartS; rw [h2]; simp; intro h; omega
  have h8 : (8 : Nat) = B.nv + (8 - B.nv) := by have := hG.nv; omega
  unfold elems
  rw [h8]; exact key _
theorem ints_apart (B : KB) (s t : Nat) : ∀ n, ints (apartL B s t n) = sel (apP B s t) n := by
  intro n
  induction n with
  | zero => rfl
  | succ n ih =>
    by_cases h : B.X s n = B.X t n
    · rw [apartL_miss h, ih, sel_miss (by simp [apP, h])]
    · rw [apartL_hit h, sel_hit (by simp [apP, h]), ← ih]; simp [ints]

set_option maxRecDepth 100000 in
set_option maxHeartbeats 3200000 in
theorem kApart_any (N : Nat) (v : Value) (B : KB) (s t : Int) (w : World) (h : BookAt N w v B) :
    Calls Try.prog 58 #[v, .int .i64 s, .int .i64 t] w (GivesIE w.heap.size w (eApart B s t).1 (eApart B s t).2) := by
  have h' := h
  obtain ⟨_, a1, z1, a2, z2, a3, z3, rfl, _⟩ := h'
  obtain ⟨ws, hws, HB, hsz, hblk⟩ := box1 w (.cells #[.slice a1 B.nv z1, .slice a2 B.ns z2, .slice a3 B.D.n z3] 26)
  have q0 := cell_blk hblk 0 rfl
  have q1 := cell_blk hblk 1 rfl
  have q2 := cell_blk hblk 2 rfl
  have HBK := Lib.hid (h.go HB.out)
  have HB0 : Hid (Below ws.heap.size ws ws) := Below.refl _ _
  have HNS : Hid (N ≤ ws.heap.size) := HBK.out.1
  have hlens := h.lens
  obtain ⟨hlv, hls, hln⟩ := hlens
  clear hblk h
  cases hv : okKB B with
  | false =>
    have HA : Hid (chk B = 20) := chk_no hv
    have HE : Hid (eApart B s t = ([], 20)) := by unfold Hid eApart; rw [hv]; rfl
    clear hv
    go_enter Try.func58, Try.ntmps58
    go_wp2_with (go_at_call 46; go_must (refine (kCheck_any N _ B _ (HBK.out.go HB0.out)).mono ?_; rintro e w1 ⟨rfl, hb1⟩; rw [HA.out]; (try clear c0); have HB1 := Lib.hid (bel HB0.out hb1); have c1 := (old_of HB1.out).1; clear hb1))
    go_ret2
    exact ⟨.slice none 0 0, by rw [HE.out]; rfl, by rw [HE.out]; exact own_nil _ _, fin HB.out HB1.out⟩
  | true =>
    have HG := Lib.hid (goodB hv)
    have HA : Hid (chk B = 0) := chk_yes hv
    cases hs : (decide (0 ≤ s) && decide (s < B.ns)) with
    | false =>
      have HS := Lib.hid hs
      have HE : Hid (eApart B s t = ([], 1)) := by unfold Hid eApart; rw [hv, hs]; rfl
      clear hv hs
      go_enter Try.func58, Try.ntmps58
      go_wp2_with (first
        | (go_at_call 46; go_must (refine (kCheck_any N _ B _ (HBK.out.go HB0.out)).mono ?_; rintro e w1 ⟨rfl, hb1⟩; rw [HA.out]; (try clear c0); have HB1 := Lib.hid (bel HB0.out hb1); have c1 := (old_of HB1.out).1; clear hb1))
        | (go_at_call 73; refine (kwithin_eq _ _ _ _ HS.out).mono ?_; rintro e wq ⟨rfl, hwq⟩; rw [hwq]; clear hwq wq))
      go_ret2
      exact ⟨.slice none 0 0, by rw [HE.out]; rfl, by rw [HE.out]; exact own_nil _ _, fin HB.out HB1.out⟩
    | true =>
      have HS := Lib.hid hs
      cases ht : (decide (0 ≤ t) && decide (t < B.ns)) with
      | false =>
        have HT := Lib.hid ht
        have HE : Hid (eApart B s t = ([], 1)) := by unfold Hid eApart; rw [hv, hs, ht]; rfl
        clear hv hs ht
        go_enter Try.func58, Try.ntmps58
        go_wp2_with (first
          | (go_at_call 46; go_must (refine (kCheck_any N _ B _ (HBK.out.go HB0.out)).mono ?_; rintro e w1 ⟨rfl, hb1⟩; rw [HA.out]; (try clear c0); have HB1 := Lib.hid (bel HB0.out hb1); have c1 := (old_of HB1.out).1; clear hb1))
          | (go_at_call 73; refine (kwithin_eq s _ _ _ HS.out).mono ?_; clear HS; rintro e wq ⟨rfl, hwq⟩; rw [hwq]; clear hwq wq)
          | (go_at_call 73; refine (kwithin_eq t _ _ _ HT.out).mono ?_; rintro e wq ⟨rfl, hwq⟩; rw [hwq]; clear hwq wq))
        go_ret2
        exact ⟨.slice none 0 0, by rw [HE.out]; rfl, by rw [HE.out]; exact own_nil _ _, fin HB.out HB1.out⟩
      | true =>
        have HT := Lib.hid ht
        obtain ⟨s', rfl⟩ : ∃ s' : Nat, s = s' := ⟨s.toNat, by simp at hs; omega⟩
        obtain ⟨t', rfl⟩ : ∃ t' : Nat, t = t' := ⟨t.toNat, by simp at ht; omega⟩
        have hsn : s' < B.ns := by simp at hs; exact hs
        have htn : t' < B.ns := by simp at ht; exact ht
        have HE : Hid (eApart B s' t' = (sel (apP B s' t') B.nv, 0)) := by unfold Hid eApart; rw [hv, hs, ht]; rfl
        have HL := Lib.hid (apartS_lt B s' t' HG.out.nv)
        have HEA := Lib.hid (elems_apart HG.out s' t')
        clear hv hs ht
        go_enter Try.func58, Try.ntmps58
        go_wp2_with (first
          | (go_at_call 46; go_must (refine (kCheck_any N _ B _ (HBK.out.go HB0.out)).mono ?_; rintro e w1 ⟨rfl, hb1⟩; rw [HA.out]; (try clear c0); have HB1 := Lib.hid (bel HB0.out hb1); have c1 := (old_of HB1.out).1; clear hb1))
          | (go_at_call 73; refine (kwithin_eq s' _ _ _ HS.out).mono ?_; clear HS; rintro e wq ⟨rfl, hwq⟩; rw [hwq]; clear hwq wq)
          | (go_at_call 73; refine (kwithin_eq t' _ _ _ HT.out).mono ?_; rintro e wq ⟨rfl, hwq⟩; rw [hwq]; clear hwq wq)
          | (go_at_call 97; go_must (refine (apart_any N _ B s' t' _ (HBK.out.go HB1.out) HG.out hsn htn).mono ?_; rintro e w2 ⟨rfl, hb2⟩; (try clear c1); have HB2 := Lib.hid (bel HB1.out hb2); have c2 := (old_of HB2.out).1; clear hb2))
          | (go_at_call 91; go_must (refine (setList_any _ HL.out _).mono ?_; rintro e w3 ⟨v3, rfl, ho3, hb3⟩; rw [HEA.out] at ho3; have HO3 := Lib.hid ho3; clear ho3; (try clear c2); have HB3 := Lib.hid (bel HB2.out hb3); have c3 := (old_of HB3.out).1; clear hb3)))
        go_ret2
        exact ⟨v3, by rw [HE.out]; rfl, by rw [HE.out]; exact own_mono HO3.out (Nat.le_trans HB.out.size HB2.out.size), fin HB.out HB3.out⟩

/-- halves -/
theorem many_half : ∀ s : Fin 256, many s.val = s.val % 2 + many (s.val / 2) := by decide +kernel
set_option maxRecDepth 100000 in
set_option maxHeartbeats 1600000 in
theorem rMany_any (s : Nat) (hs : s < 256) (w : World) :
    Calls Try.prog 42 #[.int .i64 s] w fun e w' => e = .returned (.int .i64 (many s)) ∧ w' = w := by
  go_enter Try.func42, Try.ntmps42
  go_wp2
  go_loop [0, 3] (fun t n => ∃ (r m : Nat), r < 256 ∧ t = .int .i64 r ∧ n = .int .i64 m ∧ m ≤ 256 ∧ Hid (many s = m + many r)) (fun t _ => (intOf t).toNat)
  case atStart => exact ⟨s, 0, hs, rfl, rfl, by omega, by unfold Hid; omega⟩
  case round =>
    obtain ⟨r, m, hr, rfl, rfl, hm, H⟩ := hrel
    by_cases h0 : 0 < r
    · have h0i : (0 : Int) < (r : Int) := by omega
      have HH := Lib.hid (many_half ⟨r, hr⟩)
      have HR := Lib.hid hr
      have HM := Lib.hid hm
      go_wp2
      have h1 := H.out
      have h2 := HH.out
      simp only at h2
      have h8 : many s ≤ 8 := cnt_le _ _
      refine ⟨⟨r / 2, m + r % 2, by have := HR.out; omega, by congr 1, by congr 1, by omega, by unfold Hid; omega⟩, ?_⟩
      simp [intOf]; omega
    · have h0i : ¬ (0 : Int) < (r : Int) := by omega
      have H0 : Hid (many s = m) := by have := H.out; rw [show r = 0 by omega] at this; unfold Hid; rw [this]; rfl
      go_wp2
      go_ret
      exact ⟨ret_int (by rw [H0.out]), rfl⟩

end Go.Proofs.Ytbieglmpkljjjaa

namespace Go.Proofs.Ytbieglmpkljjjaa
open Go.RowKit

theorem has_bitsI : ∀ s : Fin 256, ∀ i : Fin 8, (bits BinOp.and IntKind.i64 ((s.val : Int) / 2 ^ i.val) 1 == 1) = s.val.testBit i.val := by decide +kernel
theorem apartL_mem {B : KB} {s t n m : Nat} : m ∈ apartL B s t n ↔ m < n ∧ B.X s m ≠ B.X t m := by unfold apartL; simp [List.mem_filter]
theorem apartS_bit {B : KB} (hG : GoodB B) (s t i : Nat) : (apartS B s t).testBit i = (decide (i < B.nv) && decide (B.X s i ≠ B.X t i)) := by
  unfold apartS
  exact (setF_spec _ B.nv (by have := hG.nv; omega)).2 i
/-- a mark of some tells two sorts apart -/
theorem any_and {B : KB} (hG : GoodB B) (s t m : Nat) (_ : m < 256) : ((apartL B s t B.nv).any fun i => m.testBit i) = decide (apartS B s t &&& m ≠ 0) := by
  rw [Bool.eq_iff_iff, List.any_eq_true, decide_eq_true_eq]
  constructor
  · rintro ⟨i, hi, hb⟩ e
    have h1 := apartS_bit hG s t i
    obtain ⟨a, b⟩ := apartL_mem.1 hi
    have h2 : (apartS B s t &&& m).testBit i = true := by rw [Nat.testBit_and, h1, hb]; simp [a, b]
    rw [e] at h2; simp at h2
  · intro h
    obtain ⟨i, hi⟩ := Nat.exists_testBit_of_ne_zero h
    rw [Nat.testBit_and, apartS_bit hG, Bool.and_eq_true, Bool.and_eq_true, decide_eq_true_eq, decide_eq_true_eq] at hi
    exact ⟨i, apartL_mem.2 hi.1, hi.2⟩
theorem pairsL_in {B : KB} {n i j : Nat} (h : j < i) (hi : i < n) : apartS B i j ∈ pairsL B n := by
  unfold pairsL
  exact List.mem_flatMap.2 ⟨i, List.mem_range.2 hi, List.mem_map.2 ⟨j, List.mem_range.2 h, rfl⟩⟩
theorem tellL_iff {B : KB} {n m : Nat} : tellL (pairsL B n) m = true ↔ ∀ i j, j < i → i < n → apartS B i j &&& m ≠ 0 := by
  unfold tellL
  rw [List.all_eq_true]
  constructor
  · intro h i j h1 h2; exact of_decide_eq_true (h _ (pairsL_in h1 h2))
  · intro h d hd
    obtain ⟨i, j, h1, h2, rfl⟩ := pairsL_mem hd
    exact decide_eq_true (h i j h1 h2)

set_option maxRecDepth 100000 in
set_option maxHeartbeats 4000000 in
theorem areApart_any (N : Nat) (v : Value) (B : KB) (m : Nat) (w : World) (h : BookAt N w v B) (hG : GoodB B) (hm : m < 256) :
    Calls Try.prog 41 #[v, .int .i64 m] w fun e w' => e = .returned (.bool (tellL (pairsL B B.ns) m)) ∧ Below w.heap.size w w' := by
  have h' := h
  obtain ⟨_, a1, z1, a2, z2, a3, z3, rfl, _⟩ := h'
  obtain ⟨ws, hws, HB, hsz, hblk⟩ := box1 w (.cells #[.slice a1 B.nv z1, .slice a2 B.ns z2, .slice a3 B.D.n z3] 26)
  have q0 := cell_blk hblk 0 rfl
  have q1 := cell_blk hblk 1 rfl
  have q2 := cell_blk hblk 2 rfl
  have HBK := Lib.hid (h.go HB.out)
  have HB0 : Hid (Below ws.heap.size ws ws) := Below.refl _ _
  have HNS : Hid (N ≤ ws.heap.size) := HBK.out.1
  have hlens := h.lens
  obtain ⟨hlv, hls, hln⟩ := hlens
  clear hblk h
  have HG := Lib.hid hG
  have hns8 := hG.ns
  have hnv5 := hG.nv
  clear hG
  go_enter Try.func41, Try.ntmps41
  go_wp2
  clear hws
  go_loopw [5] (fun i wr => ∃ k : Nat, k ≤ B.ns ∧ i = .int .i64 k ∧ Hid (Below ws.heap.size ws wr) ∧ Hid (∀ i j, j < i → i < k → apartS B i j &&& m ≠ 0)) (fun i _ => B.ns - (intOf i).toNat)
  case atStart => exact ⟨0, Nat.zero_le _, rfl, HB0, fun i j _ h => absurd h (Nat.not_lt_zero i)⟩
  case round =>
  obtain ⟨i, hi, rfl, HBi, HI⟩ := hrel
  have ci := (old_of HBi.out).1
  by_cases hin : i < B.ns
  · have hii : (i : Int) < (B.ns : Int) := by omega
    have HIN := Lib.hid hin
    have hJ0 : Hid (∀ j, j < 0 → apartS B i j &&& m ≠ 0) := fun j h => absurd h (Nat.not_lt_zero j)
    clear hin hi
    go_wp2
    go_loopw [6] (fun t wr => ∃ j : Nat, j ≤ i ∧ t = .int .i64 j ∧ Hid (Below ws.heap.size ws wr) ∧ Hid (∀ k, k < j → apartS B i k &&& m ≠ 0)) (fun t _ => i - (intOf t).toNat)
    case atStart => exact ⟨0, Nat.zero_le _, rfl, HBi, hJ0⟩
    case round =>
    clear ci hJ0 HBi
    obtain ⟨j, hj, rfl, HBj, HJ⟩ := hrel
    have cj := (old_of HBj.out).1
    have hszj := Nat.lt_of_lt_of_le hsz HBj.out.size
    by_cases hji : j < i
    · have hjii : (j : Int) < (i : Int) := by omega
      have HJI := Lib.hid hji
      have hjn : j < B.ns := by have := HIN.out; omega
      have HLN := apartL_len B i j B.nv
      have HAA := Lib.hid (any_and HG.out i j m hm)
      clear hj hji
      go_wp2_with (go_at_call 92; go_must (refine (apartOf_any N _ B i j _ (HBK.out.go HBj.out) HG.out HIN.out hjn).mono ?_; rintro e w3 ⟨v3, rfl, ho3, hb3⟩; obtain ⟨a3', c3', hv3⟩ := own_form ho3; rw [ints_len] at hv3; subst hv3; have HO3 := Lib.hid ho3; clear ho3; (try clear cj); have HB3 := Lib.hid (bel HBj.out hb3); have c3 := (old_of HB3.out).1; clear hb3))
      obtain ⟨L, hL⟩ : ∃ L, apartL B i j B.nv = L := ⟨_, rfl⟩
      have HLM : Hid (∀ q, q < L.length → L.getD q 0 < 8) := fun q hq => by
        have h9 : L.getD q 0 ∈ apartL B i j B.nv := by rw [hL]; exact getD_mem'.2 ⟨q, hq, rfl⟩
        have := (apartL_mem.1 h9).1; omega
      rw [hL] at HO3 HLN HAA ⊢
      have HCL : Hid (∀ q, q < L.length → ∃ g, a3' = some ⟨g, 0, none⟩ ∧ g < w3.heap.size ∧ w3.cell? ⟨g, q, none⟩ = some (.int .i64 (L.getD q 0 : Nat))) := fun q hq => by
        obtain ⟨g, c, e, h1, h2⟩ := own_nats HO3.out (by omega) (by omega)
        cases e
        exact ⟨g, rfl, h1, h2 q hq⟩
      clear HO3 hL
      go_loop [8, 9] (fun b t => ∃ q : Nat, q ≤ L.length ∧ t = .int .i64 q ∧ b = .bool ((L.take q).any fun i => m.testBit i)) (fun _ t => L.length - (intOf t).toNat)
      case atStart => exact ⟨0, Nat.zero_le _, rfl, rfl⟩
      case round =>
        obtain ⟨q, hq, rfl, rfl⟩ := hrel
        by_cases hqn : q < L.length
        · have hqi : (q : Int) < (L.length : Int) := by omega
          obtain ⟨g, rfl, hg, hcg⟩ := HCL.out q hqn
          have hl8 := HLM.out q hqn
          have hbit := has_bitsI ⟨m, hm⟩ ⟨L.getD q 0, hl8⟩
          simp only at hbit
          have HT : Hid (((L.take (q + 1)).any fun i => m.testBit i) = (((L.take q).any fun i => m.testBit i) || m.testBit (L.getD q 0))) := by
            unfold Hid
            rw [List.take_add_one, List.any_append]
            simp [List.getD, hqn]
          have HQ := Lib.hid hqn
          obtain ⟨p, hp⟩ : ∃ p, L.getD q 0 = p := ⟨_, rfl⟩
          rw [hp] at hcg hl8 hbit HT
          have hp0 : ¬ ((p : Nat) : Int) < 0 := by omega
          clear hqn hq hp
          cases hb1 : ((L.take q).any fun i => m.testBit i) with
          | true =>
            rw [hb1] at HT
            have HT1 : Hid (((L.take (q + 1)).any fun i => m.testBit i) = true) := by unfold Hid; rw [HT.out]; rfl
            clear HT hb1
            go_wp2
            go_round
            case rel => exact ⟨q + 1, HQ.out, by go_num, by rw [HT1.out]⟩
            case measure => simp [intOf]; have := HQ.out; omega
          | false =>
            rw [hb1] at HT
            obtain ⟨tb, htb⟩ : ∃ tb, m.testBit p = tb := ⟨_, rfl⟩
            rw [htb] at HT hbit
            have HT1 : Hid (((L.take (q + 1)).any fun i => m.testBit i) = tb) := by unfold Hid; rw [HT.out]; rfl
            clear HT hb1 htb
            go_wp2
            go_round
            case rel => exact ⟨q + 1, HQ.out, by go_num, by rw [HT1.out]⟩
            case measure => simp [intOf]; have := HQ.out; omega
        · have hqi : ¬ (q : Int) < (L.length : Int) := by omega
          have hall : ((L.take q).any fun i => m.testBit i) = decide (apartS B i j &&& m ≠ 0) := by rw [List.take_of_length_le (by omega)]; exact HAA.out
          rw [hall]
          by_cases hz : apartS B i j &&& m = 0
          · have hzd : decide (apartS B i j &&& m ≠ 0) = false := by simp [hz]
            rw [hzd]
            have HF : Hid (tellL (pairsL B B.ns) m = false) := by
              unfold Hid
              rw [Bool.eq_false_iff]
              intro e
              exact tellL_iff.1 e i j HJI.out HIN.out hz
            clear hz hzd hall hq hqn
            go_wp2
            go_ret
            exact ⟨ret_bool HF.out.symm, fin HB.out HB3.out⟩
          · have hzd : decide (apartS B i j &&& m ≠ 0) = true := by simp [hz]
            rw [hzd]
            have HZ := Lib.hid hz
            clear hz hzd hall hq hqn
            go_wp2
            go_roundw
            case rel => exact ⟨j + 1, HJI.out, by have := HIN.out; go_num, HB3, lt_succ HJ.out HZ.out⟩
            case measure => simp [intOf]; have := HJI.out; omega
    · have hjii : ¬ (j : Int) < (i : Int) := by omega
      have hje : j = i := by omega
      subst hje
      go_wp2
      go_roundw
      case rel => exact ⟨j + 1, HIN.out, by have := HIN.out; go_num, HBj, fun a b h1 h2 => by
        by_cases e : a = j
        · subst e; exact HJ.out b h1
        · exact HI.out a b h1 (by omega)⟩
      case measure => simp [intOf]; have := HIN.out; omega
  · have hii : ¬ (i : Int) < (B.ns : Int) := by omega
    have HT : Hid (tellL (pairsL B B.ns) m = true) := tellL_iff.2 fun a b h1 h2 => HI.out a b h1 (by omega)
    go_wp2
    go_ret
    exact ⟨ret_bool HT.out.symm, fin HB.out HBi.out⟩

end Go.Proofs.Ytbieglmpkljjjaa

namespace Go.Proofs.Ytbieglmpkljjjaa
open Go.RowKit

theorem shl_oneI {n : Nat} (hn : n ≤ 5) : IntKind.i64.wrap (2 ^ n) = ((2 ^ n : Nat) : Int) := by
  have key : ∀ n : Fin 6, IntKind.i64.wrap (2 ^ n.val) = ((2 ^ n.val : Nat) : Int) := by decide +kernel
  exact key ⟨n, by omega⟩

set_option maxRecDepth 100000 in
set_option maxHeartbeats 3200000 in
theorem rFew_any (N : Nat) (v : Value) (B : KB) (w : World) (h : BookAt N w v B) :
    Calls Try.prog 56 #[v] w fun e w' => e = .returned (.tuple #[.int .i64 (eFew B).1, .int .i64 (eFew B).2]) ∧ Below w.heap.size w w' := by
  have h' := h
  obtain ⟨_, a1, z1, a2, z2, a3, z3, rfl, _⟩ := h'
  obtain ⟨ws, hws, HB, hsz, hblk⟩ := box1 w (.cells #[.slice a1 B.nv z1, .slice a2 B.ns z2, .slice a3 B.D.n z3] 26)
  have q0 := cell_blk hblk 0 rfl
  have q1 := cell_blk hblk 1 rfl
  have q2 := cell_blk hblk 2 rfl
  have HBK := Lib.hid (h.go HB.out)
  have HB0 : Hid (Below ws.heap.size ws ws) := Below.refl _ _
  have HNS : Hid (N ≤ ws.heap.size) := HBK.out.1
  have hlens := h.lens
  obtain ⟨hlv, hls, hln⟩ := hlens
  clear hblk h
  cases hv : okKB B with
  | false =>
    have HA : Hid (eDiff B = 20) := by unfold Hid eDiff; rw [hv]; rfl
    have HE : Hid (eFew B = (0, 20)) := by unfold Hid eFew; rw [hv]; rfl
    clear hv
    go_enter Try.func56, Try.ntmps56
    go_wp2_with (go_at_call 96; go_must (refine (differ_any N _ B _ (HBK.out.go HB0.out)).mono ?_; rintro e w1 ⟨rfl, hb1⟩; rw [HA.out]; (try clear c0); have HB1 := Lib.hid (bel HB0.out hb1); have c1 := (old_of HB1.out).1; clear hb1))
    go_ret2
    exact ⟨by rw [HE.out]; rfl, fin HB.out HB1.out⟩
  | true =>
    cases hd : diffB B with
    | false =>
      have HA : Hid (eDiff B = 3) := by unfold Hid eDiff; rw [hv, hd]; rfl
      have HE : Hid (eFew B = (0, 3)) := by unfold Hid eFew; rw [hv, hd]; rfl
      clear hv hd
      go_enter Try.func56, Try.ntmps56
      go_wp2_with (go_at_call 96; go_must (refine (differ_any N _ B _ (HBK.out.go HB0.out)).mono ?_; rintro e w1 ⟨rfl, hb1⟩; rw [HA.out]; (try clear c0); have HB1 := Lib.hid (bel HB0.out hb1); have c1 := (old_of HB1.out).1; clear hb1))
      go_ret2
      exact ⟨by rw [HE.out]; rfl, fin HB.out HB1.out⟩
    | true =>
      have HA : Hid (eDiff B = 0) := by unfold Hid eDiff; rw [hv, hd]; rfl
      have hEE : eFew B = (((fewF (pairsL B B.ns) B.nv (2 ^ B.nv) : Nat) : Int), 0) := by unfold eFew; rw [hv, hd]; rfl
      have hnv5 := (goodB hv).nv
      have HG := Lib.hid (goodB hv)
      have hsl := shl_oneI hnv5
      have h32 : (2 : Nat) ^ B.nv ≤ 2 ^ 5 := Nat.pow_le_pow_right (by omega) hnv5
      obtain ⟨p2, hp2⟩ : ∃ p, (2 : Nat) ^ B.nv = p := ⟨_, rfl⟩
      rw [hp2] at hsl h32 hEE
      have HFW := Lib.hid (fewF_succ (pairsL B B.ns) B.nv)
      have HF0 : Hid (fewF (pairsL B B.ns) B.nv 0 = B.nv) := rfl
      obtain ⟨ff, hff⟩ : ∃ ff : Nat → Nat, fewF (pairsL B B.ns) B.nv = ff := ⟨_, rfl⟩
      rw [hff] at HFW HF0 hEE
      have HE := Lib.hid hEE
      clear hv hd hp2 hff hEE
      go_enter Try.func56, Try.ntmps56
      go_wp2_with (go_at_call 96; go_must (refine (differ_any N _ B _ (HBK.out.go HB0.out)).mono ?_; rintro e w1 ⟨rfl, hb1⟩; rw [HA.out]; (try clear c0); have HB1 := Lib.hid (bel HB0.out hb1); have c1 := (old_of HB1.out).1; clear hb1))
      clear hws
      go_loopw [5, 6] (fun a i wr => ∃ k : Nat, k ≤ p2 ∧ i = .int .i64 k ∧ a = .int .i64 (ff k : Nat) ∧ Hid (Below ws.heap.size ws wr)) (fun _ i _ => p2 - (intOf i).toNat)
      case atStart => exact ⟨0, Nat.zero_le _, rfl, by rw [HF0.out], HB1⟩
      case round =>
        clear c1
        obtain ⟨k, hk, rfl, rfl, HBr⟩ := hrel
        have cr := (old_of HBr.out).1
        have hszr := Nat.lt_of_lt_of_le hsz HBr.out.size
        by_cases hkp : k < p2
        · have hki : (k : Int) < (p2 : Int) := by omega
          have hk256 : k < 256 := by omega
          have HMK := Lib.hid (fun w' => rMany_any k hk256 w')
          have HF := Lib.hid (HFW.out k)
          have HKP := Lib.hid hkp
          cases ht : tellL (pairsL B B.ns) k with
          | true =>
            have HT := Lib.hid ht
            by_cases hm : many k < ff k
            · have hmi : ((many k : Nat) : Int) < ((ff k : Nat) : Int) := by omega
              have HE2 : Hid (ff (k + 1) = many k) := by unfold Hid; rw [HF.out, ht]; simp [hm]
              have HX : Hid (min ((ff k : Nat) : Int) ((many k : Nat) : Int) = ((ff (k + 1) : Nat) : Int)) := by unfold Hid; rw [HE2.out]; omega
              clear ht hkp hk hm
              go_wp2_with (first
                | (go_at_call 41; refine (areApart_any N _ B k _ (HBK.out.go HBr.out) HG.out hk256).mono ?_; rw [HT.out]; rintro e w3 ⟨rfl, hb3⟩; (try clear cr); have HB3 := Lib.hid (bel HBr.out hb3); have c3 := (old_of HB3.out).1; clear hb3)
                | (go_at_call 42; refine (HMK.out _).mono ?_; rintro e wq ⟨rfl, hwq⟩; rw [hwq]; clear hwq wq))
              go_roundw
              case rel => exact ⟨k + 1, HKP.out, by go_num, by first | (rw [HE2.out]; done) | (rw [HE2.out]; congr 1; omega), HB3⟩
              case measure => simp [intOf]; have := HKP.out; omega
            · have hmi : ¬ ((many k : Nat) : Int) < ((ff k : Nat) : Int) := by omega
              have HE2 : Hid (ff (k + 1) = ff k) := by unfold Hid; rw [HF.out]; simp [hm]
              clear ht hkp hk
              go_wp2_with (first
                | (go_at_call 41; refine (areApart_any N _ B k _ (HBK.out.go HBr.out) HG.out hk256).mono ?_; rw [HT.out]; rintro e w3 ⟨rfl, hb3⟩; (try clear cr); have HB3 := Lib.hid (bel HBr.out hb3); have c3 := (old_of HB3.out).1; clear hb3)
                | (go_at_call 42; refine (HMK.out _).mono ?_; rintro e wq ⟨rfl, hwq⟩; rw [hwq]; clear hwq wq))
              all_goals
                go_roundw
                case rel => exact ⟨k + 1, HKP.out, by go_num, by first | (rw [HE2.out]; done) | (rw [HE2.out]; congr 1; omega), HB3⟩
                case measure => simp [intOf]; have := HKP.out; omega
          | false =>
            have HT := Lib.hid ht
            have HE2 : Hid (ff (k + 1) = ff k) := by unfold Hid; rw [HF.out, ht]; simp
            clear ht hkp hk
            go_wp2_with (first
              | (go_at_call 41; refine (areApart_any N _ B k _ (HBK.out.go HBr.out) HG.out hk256).mono ?_; rw [HT.out]; rintro e w3 ⟨rfl, hb3⟩; (try clear cr); have HB3 := Lib.hid (bel HBr.out hb3); have c3 := (old_of HB3.out).1; clear hb3))
            go_roundw
            case rel => exact ⟨k + 1, HKP.out, by go_num, by rw [HE2.out], HB3⟩
            case measure => simp [intOf]; have := HKP.out; omega
        · have hki : ¬ (k : Int) < (p2 : Int) := by omega
          have HKE : Hid (k = p2) := by unfold Hid; omega
          go_wp2
          go_ret2
          exact ⟨by rw [HE.out, ← HKE.out]; rfl, fin HB.out HBr.out⟩

/-- Apart of the reference -/
theorem apart_same (B : KB) (s t : Nat) : ints (apartL B s t B.nv) = sel (apP B s t) B.nv := ints_apart B s t B.nv

set_option maxRecDepth 100000 in
set_option maxHeartbeats 3200000 in
theorem rApart_any (N : Nat) (v : Value) (B : KB) (s t : Int) (w : World) (h : BookAt N w v B) :
    Calls Try.prog 59 #[v, .int .i64 s, .int .i64 t] w (GivesIE w.heap.size w (eApart B s t).1 (eApart B s t).2) := by
  have h' := h
  obtain ⟨_, a1, z1, a2, z2, a3, z3, rfl, _⟩ := h'
  obtain ⟨ws, hws, HB, hsz, hblk⟩ := box1 w (.cells #[.slice a1 B.nv z1, .slice a2 B.ns z2, .slice a3 B.D.n z3] 26)
  have q0 := cell_blk hblk 0 rfl
  have q1 := cell_blk hblk 1 rfl
  have q2 := cell_blk hblk 2 rfl
  have HBK := Lib.hid (h.go HB.out)
  have HB0 : Hid (Below ws.heap.size ws ws) := Below.refl _ _
  have HNS : Hid (N ≤ ws.heap.size) := HBK.out.1
  have hlens := h.lens
  obtain ⟨hlv, hls, hln⟩ := hlens
  clear hblk h
  have S0d := old_of HB0.out.drew; have HB0d := S0d.2
  cases hs : (decide (0 ≤ s) && decide (s < B.ns)) with
  | false =>
    have HS := Lib.hid hs
    have HE : Hid (eApart B s t = ([], eAsk B false)) := by
      unfold Hid eApart eAsk; rw [hs]
      cases okKB B <;> rfl
    have HN0 : Hid (eAsk B false ≠ 0) := by unfold Hid eAsk; cases okKB B <;> simp
    obtain ⟨ea, hea⟩ : ∃ z, eAsk B false = z := ⟨_, rfl⟩
    rw [hea] at HE HN0
    have hne : (ea != 0) = true := by simpa using HN0.out
    have HEA := Lib.hid hea
    clear hs hea
    go_enter Try.func59, Try.ntmps59
    go_upto_region 1 with fail
    clear hws
    refine wp_region_held_drew (S := (fun w' => (∀ b o, b < ws.heap.size → w'.cell? ⟨b, o, none⟩ = ws.cell? ⟨b, o, none⟩) ∧ Hid (Below ws.heap.size ws w'))) (by kernel_rfl) S0d (fun hHeld => ?_)
    (refine wpAnyH_take (i := 0) (v := ?_) rfl (by kernel_rfl) (by kernel_rfl) (by kernel_rfl) (fun _ _ _ h => h) (Or.inl ⟨by rfl, ?_⟩) (by assumption) ?_; rotate_left; (focus (intro w hSw; (try dsimp only at hSw); go_simp; (try with_reducible rfl))); (try simp only [List.getElem_toArray, List.getElem_cons_zero, List.getElem_cons_succ, Act.put, List.setIfInBounds_toArray, List.set_cons_zero, List.set_cons_succ])); (refine wpAnyH_take (i := 1) (v := ?_) rfl (by kernel_rfl) (by kernel_rfl) (by kernel_rfl) (fun _ _ _ h => h) (Or.inl ⟨by rfl, ?_⟩) (by assumption) ?_; rotate_left; (focus (intro w hSw; (try dsimp only at hSw); go_simp; (try with_reducible rfl))); (try simp only [List.getElem_toArray, List.getElem_cons_zero, List.getElem_cons_succ, Act.put, List.setIfInBounds_toArray, List.set_cons_zero, List.set_cons_succ])); (refine wpAnyH_take (i := 2) (v := ?_) rfl (by kernel_rfl) (by kernel_rfl) (by kernel_rfl) (fun _ _ _ h => h) (Or.inl ⟨by rfl, ?_⟩) (by assumption) ?_; rotate_left; (focus (intro w hSw; (try dsimp only at hSw); go_simp; (try with_reducible rfl))); (try simp only [List.getElem_toArray, List.getElem_cons_zero, List.getElem_cons_succ, Act.put, List.setIfInBounds_toArray, List.set_cons_zero, List.set_cons_succ]))
    refine wpAnyH_ready (rs := [3]) (by kernel_rfl) (by simp) ?_; refine AllReadyH.cons rfl (fun K hK => ?_) AllReadyH.nil; go_simp
    go_at_call 39
    refine (isSort_eq N _ B s _ _ (HBK.out.go HB0d.out) HS.out).mono ?_
    rintro e w1 ⟨rfl, hb1⟩
    have S1 := old_of (bel HB0d.out hb1)
    have HB1 := S1.2
    clear hb1
    refine hK.out _ _ S1 (fun hHeld => ?_); clear hK K; (try simp only [List.getElem_toArray, List.getElem_cons_zero, List.getElem_cons_succ, Act.put, List.setIfInBounds_toArray, List.set_cons_zero, List.set_cons_succ])
    (refine wpAnyH_take (i := 4) (v := ?_) rfl (by kernel_rfl) (by kernel_rfl) (by kernel_rfl) (fun _ _ _ h => h) (Or.inl ⟨by rfl, ?_⟩) (by assumption) ?_; rotate_left; (focus (intro w hSw; (try dsimp only at hSw); go_simp; (try with_reducible rfl))); (try simp only [List.getElem_toArray, List.getElem_cons_zero, List.getElem_cons_succ, Act.put, List.setIfInBounds_toArray, List.set_cons_zero, List.set_cons_succ]))
    (refine wpAnyH_take (i := 5) (v := undef) rfl (by kernel_rfl) (by kernel_rfl) (by kernel_rfl) (fun _ _ _ h => h) (Or.inr ⟨by rfl, rfl⟩) (by assumption) ?_; (try simp only [List.getElem_toArray, List.getElem_cons_zero, List.getElem_cons_succ, Act.put, List.setIfInBounds_toArray, List.set_cons_zero, List.set_cons_succ])); (refine wpAnyH_take (i := 6) (v := undef) rfl (by kernel_rfl) (by kernel_rfl) (by kernel_rfl) (fun _ _ _ h => h) (Or.inr ⟨by rfl, rfl⟩) (by assumption) ?_; (try simp only [List.getElem_toArray, List.getElem_cons_zero, List.getElem_cons_succ, Act.put, List.setIfInBounds_toArray, List.set_cons_zero, List.set_cons_succ])); (refine wpAnyH_take (i := 7) (v := undef) rfl (by kernel_rfl) (by kernel_rfl) (by kernel_rfl) (fun _ _ _ h => h) (Or.inr ⟨by rfl, rfl⟩) (by assumption) ?_; (try simp only [List.getElem_toArray, List.getElem_cons_zero, List.getElem_cons_succ, Act.put, List.setIfInBounds_toArray, List.set_cons_zero, List.set_cons_succ]))
    (refine wpAnyH_take (i := 8) (v := ?_) rfl (by kernel_rfl) (by kernel_rfl) (by kernel_rfl) (fun _ _ _ h => h) (Or.inl ⟨by rfl, ?_⟩) (by assumption) ?_; rotate_left; (focus (intro w hSw; (try dsimp only at hSw); go_simp; (try with_reducible rfl))); (try simp only [List.getElem_toArray, List.getElem_cons_zero, List.getElem_cons_succ, Act.put, List.setIfInBounds_toArray, List.set_cons_zero, List.set_cons_succ]))
    refine wpAnyH_ready (rs := [9]) (by kernel_rfl) (by simp) ?_; refine AllReadyH.cons rfl (fun K hK => ?_) AllReadyH.nil; go_simp
    go_at_call 94
    refine (ask_any N _ B false _ (HBK.out.go HB1.out)).mono ?_
    rintro e w2 ⟨rfl, hb2⟩
    rw [HEA.out]
    have S2 := old_of (bel HB1.out hb2)
    have HB2 := S2.2
    clear hb2 S1
    refine hK.out _ _ S2 (fun hHeld => ?_); clear hK K; (try simp only [List.getElem_toArray, List.getElem_cons_zero, List.getElem_cons_succ, Act.put, List.setIfInBounds_toArray, List.set_cons_zero, List.set_cons_succ])
    (refine wpAnyH_take (i := 10) (v := ?_) rfl (by kernel_rfl) (by kernel_rfl) (by kernel_rfl) (fun _ _ _ h => h) (Or.inl ⟨by rfl, ?_⟩) (by assumption) ?_; rotate_left; (focus (intro w hSw; (try dsimp only at hSw); go_simp; (try with_reducible rfl))); (try simp only [List.getElem_toArray, List.getElem_cons_zero, List.getElem_cons_succ, Act.put, List.setIfInBounds_toArray, List.set_cons_zero, List.set_cons_succ]))
    refine wpAnyH_done (by kernel_rfl) ?_ _; clear hHeld
    go_wp2
    go_ret2
    exact ⟨.slice none 0 0, by rw [HE.out]; rfl, by rw [HE.out]; exact own_nil _ _, fin HB.out HB2.out⟩
  | true =>
    have HS := Lib.hid hs
    obtain ⟨bt, hbt⟩ : ∃ bt : Bool, (decide (0 ≤ t) && decide (t < B.ns)) = bt := ⟨_, rfl⟩
    have HT := Lib.hid hbt
    by_cases hg : okKB B = true ∧ bt = true
    · obtain ⟨hv, ht⟩ := hg
      subst ht
      obtain ⟨s', rfl⟩ : ∃ s' : Nat, s = s' := ⟨s.toNat, by simp at hs; omega⟩
      obtain ⟨t', rfl⟩ : ∃ t' : Nat, t = t' := ⟨t.toNat, by simp at hbt; omega⟩
      have hsn : s' < B.ns := by simp at hs; exact hs
      have htn : t' < B.ns := by simp at hbt; exact hbt
      have HG := Lib.hid (goodB hv)
      have HEA : Hid (eAsk B true = 0) := by unfold Hid eAsk; rw [hv]; rfl
      have HE : Hid (eApart B s' t' = (sel (apP B s' t') B.nv, 0)) := by unfold Hid eApart; rw [hv, hs, hbt]; rfl
      clear hs hbt hv
      go_enter Try.func59, Try.ntmps59
      go_wp2
      clear hws
      go_region_held3 (fun w' => (∀ b o, b < ws.heap.size → w'.cell? ⟨b, o, none⟩ = ws.cell? ⟨b, o, none⟩) ∧ Hid (Below ws.heap.size ws w')) (assumption) (first
        | (go_at_call 39; refine (isSort_eq N _ B s' _ _ (HBK.out.go HB0d.out) HS.out).mono ?_; rintro e w1 ⟨rfl, hb1⟩; clear HS; have S1 := old_of (bel HB0d.out hb1); have HB1 := S1.2; clear hb1)
        | (go_at_call 39; refine (isSort_eq N _ B t' _ _ (HBK.out.go HB1.out) HT.out).mono ?_; rintro e w2 ⟨rfl, hb2⟩; have S2 := old_of (bel HB1.out hb2); have HB2 := S2.2; clear hb2)
        | (go_at_call 94; refine (ask_any N _ B true _ (HBK.out.go HB2.out)).mono ?_; rintro e w3 ⟨rfl, hb3⟩; rw [HEA.out]; have S3 := old_of (bel HB2.out hb3); have HB3 := S3.2; clear hb3))
      have HB3 := S3.2; have c3 := S3.1; clear S3 S0d
      go_wp2_with (go_at_call 92; go_must (refine (apartOf_any N _ B s' t' _ (HBK.out.go HB3.out) HG.out hsn htn).mono ?_; rintro e w4 ⟨v4, rfl, ho4, hb4⟩; rw [apart_same] at ho4; have HO4 := Lib.hid ho4; clear ho4; (try clear c3); have HB4 := Lib.hid (bel HB3.out hb4); have c4 := (old_of HB4.out).1; clear hb4))
      go_ret2
      exact ⟨v4, by rw [HE.out]; rfl, by rw [HE.out]; exact own_mono HO4.out (Nat.le_trans HB.out.size HB3.out.size), fin HB.out HB4.out⟩
    · have HE : Hid (eApart B s t = ([], eAsk B bt)) := by
        unfold Hid eApart eAsk; rw [hs, hbt]
        cases ho : okKB B with
        | false => rfl
        | true => cases hb : bt with
          | false => rfl
          | true => exact absurd ⟨ho, hb⟩ hg
      have HN0 : Hid (eAsk B bt ≠ 0) := by
        unfold Hid eAsk
        cases ho : okKB B with
        | false => simp
        | true => cases hb : bt with
          | false => simp
          | true => exact absurd ⟨ho, hb⟩ hg
      obtain ⟨ea, hea⟩ : ∃ z, eAsk B bt = z := ⟨_, rfl⟩
      rw [hea] at HE HN0
      have hne : (ea != 0) = true := by simpa using HN0.out
      have HEA := Lib.hid hea
      clear hs hbt hg hea
      go_enter Try.func59, Try.ntmps59
      go_wp2
      clear hws
      go_region_held3 (fun w' => (∀ b o, b < ws.heap.size → w'.cell? ⟨b, o, none⟩ = ws.cell? ⟨b, o, none⟩) ∧ Hid (Below ws.heap.size ws w')) (assumption) (first
        | (go_at_call 39; refine (isSort_eq N _ B s _ _ (HBK.out.go HB0d.out) HS.out).mono ?_; rintro e w1 ⟨rfl, hb1⟩; clear HS; have S1 := old_of (bel HB0d.out hb1); have HB1 := S1.2; clear hb1)
        | (go_at_call 39; refine (isSort_eq N _ B t _ _ (HBK.out.go HB1.out) HT.out).mono ?_; rintro e w2 ⟨rfl, hb2⟩; have S2 := old_of (bel HB1.out hb2); have HB2 := S2.2; clear hb2)
        | (go_at_call 94; refine (ask_any N _ B bt _ (HBK.out.go HB2.out)).mono ?_; rintro e w3 ⟨rfl, hb3⟩; rw [HEA.out]; have S3 := old_of (bel HB2.out hb3); have HB3 := S3.2; clear hb3))
      have HB3 := S3.2; have c3 := S3.1; clear S3 S0d
      go_wp2
      go_ret2
      exact ⟨.slice none 0 0, by rw [HE.out]; rfl, by rw [HE.out]; exact own_nil _ _, fin HB.out HB3.out⟩

end Go.Proofs.Ytbieglmpkljjjaa

namespace Go.Proofs.Ytbieglmpkljjjaa
open Go.RowKit

def oneP (B : KB) (m a b : Nat) : Bool := decide (apartL B a b B.nv = [m])
def needI (B : KB) (m i : Nat) : Bool := (List.range i).any fun a => (List.range a).any fun b => oneP B m a b
def needJ (B : KB) (m i j : Nat) : Bool := needI B m i || (List.range j).any fun b => oneP B m i b
theorem needJ_zero (B : KB) (m i : Nat) : needJ B m i 0 = needI B m i := by simp [needJ]
theorem needJ_succ (B : KB) (m i j : Nat) : needJ B m i (j + 1) = (needJ B m i j || oneP B m i j) := by
  unfold needJ; rw [List.range_succ, List.any_append, ← Bool.or_assoc]; simp
theorem needJ_full (B : KB) (m i : Nat) : needJ B m i i = needI B m (i + 1) := by
  unfold needJ needI; rw [List.range_succ, List.any_append]; simp
theorem needI_iff {B : KB} {m n : Nat} : needI B m n = true ↔ ∃ i j, j < i ∧ i < n ∧ apartL B i j B.nv = [m] := by
  unfold needI oneP
  simp only [List.any_eq_true, List.mem_range, decide_eq_true_eq]
  constructor
  · rintro ⟨i, h1, j, h2, h3⟩; exact ⟨i, j, h2, h1, h3⟩
  · rintro ⟨i, j, h2, h1, h3⟩; exact ⟨i, h1, j, h2, h3⟩

theorem needF_bit' (m : Nat) : ∀ (l : List Nat) (a : Nat), (l.foldl (fun a d => if many d = 1 then a ||| d else a) a).testBit m = (a.testBit m || l.any fun d => decide (many d = 1) && d.testBit m) := by
  intro l
  induction l with
  | nil => intro a; simp
  | cons d l ih =>
    intro a
    rw [List.foldl_cons, ih, List.any_cons]
    by_cases h : many d = 1
    · rw [if_pos h, Nat.testBit_or]; simp [h, Bool.or_assoc]
    · rw [if_neg h]; simp [h]
theorem needF_bit (l : List Nat) (m : Nat) : (needF l).testBit m = l.any fun d => decide (many d = 1) && d.testBit m := by
  unfold needF; rw [needF_bit']; simp
theorem one_iff {B : KB} (hG : GoodB B) (i j m : Nat) : (many (apartS B i j) = 1 ∧ (apartS B i j).testBit m = true) ↔ apartL B i j B.nv = [m] := by
  rw [apartS_many B i j hG.nv, apartS_bit hG, Bool.and_eq_true, decide_eq_true_eq, decide_eq_true_eq, ← apartL_mem (n := B.nv)]
  constructor
  · rintro ⟨h1, h2⟩
    obtain ⟨a, ha⟩ := List.length_eq_one_iff.1 h1
    rw [ha] at h2 ⊢
    rw [List.mem_singleton.1 h2]
  · intro h; rw [h]; simp
theorem need_bit {B : KB} (hG : GoodB B) (m : Nat) : (needF (pairsL B B.ns)).testBit m = needI B m B.ns := by
  rw [needF_bit, Bool.eq_iff_iff, List.any_eq_true, needI_iff]
  constructor
  · rintro ⟨d, hd, h⟩
    obtain ⟨i, j, h1, h2, rfl⟩ := pairsL_mem hd
    rw [Bool.and_eq_true, decide_eq_true_eq] at h
    exact ⟨i, j, h1, h2, (one_iff hG i j m).1 h⟩
  · rintro ⟨i, j, h1, h2, h3⟩
    refine ⟨_, pairsL_in h1 h2, ?_⟩
    rw [Bool.and_eq_true, decide_eq_true_eq]
    exact (one_iff hG i j m).2 h3
theorem needI_lt {B : KB} {m n : Nat} (h : needI B m n = true) : m < B.nv := by
  obtain ⟨i, j, _, _, e⟩ := needI_iff.1 h
  have : m ∈ apartL B i j B.nv := by rw [e]; simp
  exact (apartL_mem.1 this).1
theorem sel_ext {p q : Nat → Bool} : ∀ n, (∀ i, i < n → p i = q i) → sel p n = sel q n := by
  intro n
  induction n with
  | zero => intro _; rfl
  | succ n ih =>
    intro h
    have e := h n (by omega)
    cases hp : q n with
    | true => rw [sel_hit hp, sel_hit (e.trans hp), ih fun i hi => h i (by omega)]
    | false => rw [sel_miss hp, sel_miss (e.trans hp), ih fun i hi => h i (by omega)]
theorem sel_more {p : Nat → Bool} {n : Nat} : ∀ k, (∀ i, n ≤ i → p i = false) → sel p (n + k) = sel p n := by
  intro k
  induction k with
  | zero => intro _; rfl
  | succ k ih => intro h; rw [← Nat.add_assoc, sel_miss (h _ (by omega)), ih h]
theorem eNeed_sel {B : KB} (hG : GoodB B) : elems (needF (pairsL B B.ns)) = sel (fun m => needI B m B.ns) B.nv := by
  have h8 : (8 : Nat) = B.nv + (8 - B.nv) := by have := hG.nv; omega
  unfold elems
  rw [sel_ext (q := fun m => needI B m B.ns) 8 (fun i _ => need_bit hG i), h8]
  refine sel_more _ fun i hi => ?_
  cases h : needI B i B.ns with
  | false => rfl
  | true => have := needI_lt h; omega

theorem sameI_one (L : List Nat) (m : Nat) : sameI (ints L).length (fun i => (ints L).getD i 0) 1 (fun _ => (m : Int)) = decide (L = [m]) := by
  rw [Bool.eq_iff_iff, decide_eq_true_eq]
  unfold sameI
  rw [Bool.and_eq_true, decide_eq_true_eq, allB_true, ints_len]
  constructor
  · rintro ⟨h1, h2⟩
    obtain ⟨a, rfl⟩ := List.length_eq_one_iff.1 h1
    have := of_decide_eq_true (h2 0 (by simp))
    simp [ints] at this
    have e : a = m := by omega
    rw [e]
  · rintro rfl
    exact ⟨rfl, fun i hi => by
      obtain rfl : i = 0 := by simpa using hi
      simp [ints]⟩

set_option maxRecDepth 100000 in
set_option maxHeartbeats 6400000 in
theorem rNeed_any (N : Nat) (v : Value) (B : KB) (w : World) (h : BookAt N w v B) :
    Calls Try.prog 57 #[v] w (GivesIE w.heap.size w (eNeed B).1 (eNeed B).2) := by
  obtain ⟨i0, hi, hz0, hz1, hz2⟩ := info_parts Try.infoInt
  have h' := h
  obtain ⟨_, a1, z1, a2, z2, a3, z3, rfl, _⟩ := h'
  obtain ⟨ws, hws, HB, hsz, hblk⟩ := box1 w (.cells #[.slice a1 B.nv z1, .slice a2 B.ns z2, .slice a3 B.D.n z3] 26)
  have q0 := cell_blk hblk 0 rfl
  have q1 := cell_blk hblk 1 rfl
  have q2 := cell_blk hblk 2 rfl
  have HBK := Lib.hid (h.go HB.out)
  have HB0 : Hid (Below ws.heap.size ws ws) := Below.refl _ _
  have HNS : Hid (N ≤ ws.heap.size) := HBK.out.1
  have hlens := h.lens
  obtain ⟨hlv, hls, hln⟩ := hlens
  clear hblk h
  cases hv : okKB B with
  | false =>
    have HA : Hid (chk B = 20) := chk_no hv
    have HE : Hid (eNeed B = ([], 20)) := by unfold Hid eNeed; rw [hv]; rfl
    clear hv
    go_enter Try.func57, Try.ntmps57
    go_wp2_with (go_at_call 47; go_must (refine (rCheck_any N _ B _ (HBK.out.go HB0.out)).mono ?_; rintro e w1 ⟨rfl, hb1⟩; rw [HA.out]; (try clear c0); have HB1 := Lib.hid (bel HB0.out hb1); have c1 := (old_of HB1.out).1; clear hb1))
    go_ret2
    exact ⟨.slice none 0 0, by rw [HE.out]; rfl, by rw [HE.out]; exact own_nil _ _, fin HB.out HB1.out⟩
  | true =>
    have HG := Lib.hid (goodB hv)
    have HA : Hid (chk B = 0) := chk_yes hv
    have HE : Hid (eNeed B = (sel (fun m => needI B m B.ns) B.nv, 0)) := by unfold Hid eNeed; rw [hv, ← eNeed_sel HG.out]; rfl
    have hnv5 := HG.out.nv
    have hns8 := HG.out.ns
    clear hv
    go_enter Try.func57, Try.ntmps57
    go_wp2_with (go_at_call 47; go_must (refine (rCheck_any N _ B _ (HBK.out.go HB0.out)).mono ?_; rintro e w1 ⟨rfl, hb1⟩; rw [HA.out]; (try clear c0); have HB1 := Lib.hid (bel HB0.out hb1); have c1 := (old_of HB1.out).1; clear hb1))
    clear hws
    go_loopw [5, 6] (fun t i wr => ∃ m : Nat, m ≤ B.nv ∧ i = .int .i64 m ∧ Hid (OwnI ws.heap.size wr t (sel (fun m => needI B m B.ns) m)) ∧ Hid (Below ws.heap.size ws wr)) (fun _ i _ => B.nv - (intOf i).toNat)
    case atStart => exact ⟨0, Nat.zero_le _, rfl, own_nil _ _, HB1⟩
    case round =>
    clear c1
    obtain ⟨wm, hwm⟩ : ∃ wm, wm = wr := ⟨_, rfl⟩
    subst hwm
    obtain ⟨m, hm, rfl, HOm, HBm⟩ := hrel
    have cm := (old_of HBm.out).1
    obtain ⟨am, cam, hum⟩ := own_form HOm.out
    subst hum
    obtain ⟨lm, hlm⟩ : ∃ z, sel (fun m => needI B m B.ns) m = z := ⟨_, rfl⟩
    have HLM := Lib.hid hlm
    have hlml : lm.length ≤ m := by rw [← hlm]; exact sel_len _ _
    rw [hlm] at HOm ⊢
    by_cases hmn : m < B.nv
    · have hmi : (m : Int) < (B.nv : Int) := by omega
      have HMN := Lib.hid hmn
      have HI0 : Hid (needI B m 0 = false) := rfl
      clear hmn hm hlm
      go_wp2
      go_loopw [7, 8] (fun b i wr => ∃ (k : Nat) (z : Bool), k ≤ B.ns ∧ i = .int .i64 k ∧ b = .bool z ∧ Hid (z = needI B m k) ∧ Hid (Below wm.heap.size wm wr)) (fun _ i _ => B.ns - (intOf i).toNat)
      case atStart => exact ⟨0, false, Nat.zero_le _, rfl, rfl, HI0.out.symm, Below.refl _ _⟩
      case round =>
      obtain ⟨i, z, hi', rfl, rfl, HZ, HBi⟩ := hrel
      have hwi := (old_of HBi.out).1
      have HBsi : Hid (Below ws.heap.size ws wr) := Lib.hid (bel HBm.out HBi.out)
      have csi := (old_of HBsi.out).1
      by_cases hin : i < B.ns
      · have hii : (i : Int) < (B.ns : Int) := by omega
        have HIN := Lib.hid hin
        have HZ0 : Hid (z = needJ B m i 0) := by unfold Hid; rw [needJ_zero]; exact HZ.out
        clear hin hi' hwi cm
        go_wp2
        go_loopw [7, 9] (fun b t wr => ∃ (j : Nat) (z : Bool), j ≤ i ∧ t = .int .i64 j ∧ b = .bool z ∧ Hid (z = needJ B m i j) ∧ Hid (Below wm.heap.size wm wr)) (fun _ t _ => i - (intOf t).toNat)
        case atStart => exact ⟨0, z, Nat.zero_le _, rfl, rfl, HZ0.out, HBi⟩
        case round =>
        clear HZ0 HZ HBi HBsi
        obtain ⟨j, z, hj, rfl, rfl, HZ, HBj⟩ := hrel
        have HBsj : Hid (Below ws.heap.size ws wr) := Lib.hid (bel HBm.out HBj.out)
        have csj := (old_of HBsj.out).1
        have hszj := Nat.lt_of_lt_of_le hsz HBsj.out.size
        by_cases hji : j < i
        · have hjii : (j : Int) < (i : Int) := by omega
          have HJI := Lib.hid hji
          have hjn : j < B.ns := by have := HIN.out; omega
          have HS := Lib.hid (needJ_succ B m i j)
          clear hji hj
          cases z with
          | true =>
            have HZ1 : Hid (true = needJ B m i (j + 1)) := by unfold Hid; rw [HS.out, ← HZ.out]; rfl
            go_wp2
            go_roundw
            case rel => exact ⟨j + 1, true, HJI.out, by have := HIN.out; go_num, rfl, HZ1.out, HBj⟩
            case measure => simp [intOf]; have := HJI.out; omega
          | false =>
            have HZ1 : Hid (decide (apartL B i j B.nv = [m]) = needJ B m i (j + 1)) := by unfold Hid; rw [HS.out, ← HZ.out]; rfl
            have HSO := Lib.hid (sameI_one (apartL B i j B.nv) m)
            have HLN := apartL_len B i j B.nv
            have HBr0 : Hid (Below wr.heap.size wr wr) := Below.refl _ _
            go_wp2_with (first
              | (go_at_call 92; go_must (refine (apartOf_any N _ B i j _ (HBK.out.go HBsj.out) HG.out HIN.out hjn).mono ?_; rintro e w3 ⟨v3, rfl, ho3, hb3⟩; have HO3 := Lib.hid ho3; clear ho3; have HB3 := Lib.hid (bel HBr0.out hb3); clear hb3))
              | (go_at_call 44; go_must (refine (sameInts_any (w3.heap.size + 1) _ _ _ 1 _ (fun _ => (m : Int)) _ (by have hh := (OwnI.below HO3.out (below_alloc (Nat.le_refl _) (.cells #[.int .i64 m] 3))).ints (by rw [ints_len]; omega); rw [World.size_alloc] at hh; exact hh) (lit_ints (Nat.lt_succ_self _) (World.alloc_heap_new _ _))).mono ?_; rintro e w4 ⟨rfl, hb4⟩; rw [HSO.out]; replace hb4 := drawn_below hb4; have HB4 : Hid (Below wm.heap.size wm w4) := Lib.hid (((HBj.out.trans (HB3.out.mono HBj.out.size)).trans ((below_alloc (Nat.le_refl _) _).mono (Nat.le_trans HBj.out.size HB3.out.size))).trans (hb4.mono (by have := HBj.out.size; have := HB3.out.size; simp; omega))); clear hb4)))
            go_roundw
            case rel => exact ⟨j + 1, _, HJI.out, by have := HIN.out; go_num, rfl, HZ1.out, HB4⟩
            case measure => simp [intOf]; have := HJI.out; omega
        · have hjii : ¬ (j : Int) < (i : Int) := by omega
          have hje : j = i := by omega
          subst hje
          have HZ1 : Hid (z = needI B m (j + 1)) := by unfold Hid; rw [← needJ_full]; exact HZ.out
          go_wp2
          go_roundw
          case rel => exact ⟨j + 1, z, HIN.out, by have := HIN.out; go_num, rfl, HZ1.out, HBj⟩
          case measure => simp [intOf]; have := HIN.out; omega
      · have hii : ¬ (i : Int) < (B.ns : Int) := by omega
        have hie : i = B.ns := by omega
        subst hie
        have hown := OwnI.below HOm.out HBi.out
        have hws2 := HBsi.out.size
        cases z with
        | true =>
          have HP : Hid (sel (fun m => needI B m B.ns) (m + 1) = lm ++ [(m : Int)]) := by unfold Hid; rw [sel_hit (p := fun m => needI B m B.ns) (k := m) HZ.out.symm, HLM.out]
          go_wp2_with (at_builtin; refine wpList_append_own _ rfl _ _ 22 rfl ws.heap.size 3 i0 (.int .i64 0) 1 8 Try.underlying22 hi hz0 hz1 hz2 rfl (by decide) _ _ _ rfl (World.ownsRow.alloc hown _) ⟨wr.heap.size, 0, none⟩ 1 1 [.int .i64 m] rfl rfl (cell_one_new _ _ _) (by simp [Value.oneCell']) (by unfold maxLen; omega) (by omega) (by simp; omega) ?_; intro v' w5 hown5 hgrow _)
          go_roundw
          case rel => exact ⟨m + 1, HMN.out, by go_num, by rw [HP.out]; unfold Hid OwnI; rw [List.length_append, List.map_append]; exact hown5, (HBsi.out.alloc hws2 _).grown hgrow (by simp; omega) (fun j e => (hown.lt j e).1)⟩
          case measure => simp [intOf]; have := HMN.out; omega
        | false =>
          have HP : Hid (sel (fun m => needI B m B.ns) (m + 1) = lm) := by unfold Hid; rw [sel_miss (p := fun m => needI B m B.ns) (k := m) HZ.out.symm, HLM.out]
          have HOW := Lib.hid hown
          go_wp2
          go_roundw
          case rel => exact ⟨m + 1, HMN.out, by go_num, by rw [HP.out]; exact HOW, HBsi⟩
          case measure => simp [intOf]; have := HMN.out; omega
    · have hmi : ¬ (m : Int) < (B.nv : Int) := by omega
      have hme : m = B.nv := by omega
      subst hme
      go_wp2
      go_ret2
      exact ⟨_, by rw [HE.out]; rfl, by rw [HE.out, HLM.out]; exact own_mono HOm.out HB.out.size, fin HB.out HBm.out⟩

end Go.Proofs.Ytbieglmpkljjjaa
