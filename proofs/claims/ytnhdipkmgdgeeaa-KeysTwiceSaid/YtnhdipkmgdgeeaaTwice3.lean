/-
  Twice3: KeysTwice says true, of any book and fruit.
-/
import Derived.Test.YtnhdipkmgdgeeaaTwice2
import Derived.Deep.DeepCutAuto
namespace Go.Proofs.Ytnhdipkmgdgeeaa
open Go.RowKit

/-- some of the first fruits come to a node -/
def cameF (B : KB) (a f : Nat) : Bool := ((allF B).take f).any fun z => (walk B.D (atL z)).contains a
theorem cameF_hit {B : KB} {a f : Nat} {z : List Int} (hz : (allF B)[f]? = some z) (h : (walk B.D (atL z)).contains a = true) : cameF B a (f + 1) = true := by
  unfold cameF; rw [List.take_add_one, hz, List.any_append]; simp only [Option.toList_some, List.any_cons, h]; simp
theorem cameF_miss {B : KB} {a f : Nat} {z : List Int} (hz : (allF B)[f]? = some z) (h : (walk B.D (atL z)).contains a = false) : cameF B a (f + 1) = cameF B a f := by
  unfold cameF; rw [List.take_add_one, hz, List.any_append]; simp only [Option.toList_some, List.any_cons, h]; simp
theorem cameF_all {B : KB} {a : Nat} (h : ∃ z ∈ allF B, a ∈ walk B.D (atL z)) : cameF B a (allF B).length = true := by
  unfold cameF; rw [List.take_length, List.any_eq_true]
  obtain ⟨z, h1, h2⟩ := h
  exact ⟨z, h1, List.contains_iff_mem.2 h2⟩

theorem own_book' {w : World} {lo hi : Nat} {v : Value} {B : KB} {T : Nat → Nat → Int} (h : OwnBook w lo hi v (withT B T)) (hn : Near B) (hh : hi ≤ w.heap.size) : BookAt w.heap.size w v (withT B T) :=
  OwnBook.book (h.wider hh) ⟨hn.nv, hn.ns, hn.n, hn.q, hn.L⟩

set_option maxHeartbeats 8000000 in
set_option maxRecDepth 100000 in
theorem ctwice_any (N : Nat) (v u : Value) (B : KB) (nx : Nat) (x : Nat → Int) (w : World) (h : BookAt N w v B) (hx : IntsAt N w u nx x) :
    Calls Try.prog 4 #[v, u] w fun e w' => e = .returned (.bool true) ∧ Below w.heap.size w w' := by
  obtain ⟨au, cu, rfl, _, _⟩ := id hx
  have hN := h.1
  have h' := h
  obtain ⟨_, a1, z1, a2, z2, a3, z3, rfl, _⟩ := h'
  obtain ⟨ws, hws, HB, hsz, hblk⟩ := box1 w (.cells #[.slice a1 B.nv z1, .slice a2 B.ns z2, .slice a3 B.D.n z3] 26)
  have q0 := cell_blk hblk 0 rfl
  have q1 := cell_blk hblk 1 rfl
  have q2 := cell_blk hblk 2 rfl
  have HBK := Lib.hid (h.go HB.out)
  have HB0 : Hid (Below ws.heap.size ws ws) := Below.refl _ _
  have HNS : Hid (N ≤ ws.heap.size) := HBK.out.1
  have hlens := h.lens
  obtain ⟨hlv, hls, hln⟩ := hlens
  clear hblk h
  have HXW := Lib.hid (hx.mono (HB.out.mono hN) (Nat.le_refl _))
  clear hx
  cases hrd : readyB B with
  | false =>
    have HRD := Lib.hid hrd
    clear hrd
    go_enter Try.func4, Try.ntmps4
    go_wp2_with (first
      | (go_at_call 15; refine (ready_any N _ B _ (HBK.out.go HB0.out)).mono ?_; rintro e w1 ⟨rfl, hb1⟩; rw [HRD.out]; (try clear c0); have HB1 := Lib.hid (bel HB0.out hb1); have c1 := (old_of HB1.out).1; clear hb1)
      | (go_at_call 17; refine (works_any _).mono ?_; rintro e w2 ⟨rfl, hb2⟩; (try clear c1); have HB2 := Lib.hid (bel HB1.out hb2); have c2 := (old_of HB2.out).1; clear hb2))
    go_ret
    exact ⟨rfl, fin HB.out HB2.out⟩
  | true =>
    have HRD := Lib.hid hrd
    have hfar : farB B = false := by unfold readyB at hrd; cases hf : farB B with | false => rfl | true => rw [hf] at hrd; cases hrd
    have hok : okKB B = true := by unfold readyB at hrd; cases hf : okKB B with | true => rfl | false => rw [hf] at hrd; simp at hrd
    have HNE := Lib.hid (near_of hfar)
    have HG := Lib.hid (goodB hok)
    have HOK := Lib.hid hok
    clear hrd hfar hok
    by_cases h40 : 40 < nx
    · have h40i : (40 : Int) < (nx : Int) := by omega
      clear h40
      go_enter Try.func4, Try.ntmps4
      go_wp2_with (first
        | (go_at_call 15; refine (ready_any N _ B _ (HBK.out.go HB0.out)).mono ?_; rintro e w1 ⟨rfl, hb1⟩; rw [HRD.out]; (try clear c0); have HB1 := Lib.hid (bel HB0.out hb1); have c1 := (old_of HB1.out).1; clear hb1)
        | (go_at_call 17; refine (works_any _).mono ?_; rintro e w2 ⟨rfl, hb2⟩; (try clear c1); have HB2 := Lib.hid (bel HB1.out hb2); have c2 := (old_of HB2.out).1; clear hb2))
      go_ret
      exact ⟨rfl, fin HB.out HB2.out⟩
    · have h40i : ¬ (40 : Int) < (nx : Int) := by omega
      have h40n : nx ≤ 1000000 := by omega
      cases hxx : okX B.nv B.V nx x with
      | false =>
        have HXF : Hid (rX B.nv B.V nx x = false) := by unfold Hid; rw [rX_ok HG.out.V, hxx]
        clear hxx h40
        go_enter Try.func4, Try.ntmps4
        go_wp2_with (first
          | (go_at_call 15; refine (ready_any N _ B _ (HBK.out.go HB0.out)).mono ?_; rintro e w1 ⟨rfl, hb1⟩; rw [HRD.out]; (try clear c0); have HB1 := Lib.hid (bel HB0.out hb1); have c1 := (old_of HB1.out).1; clear hb1)
          | (go_at_call 16; refine (isFruit_any N _ _ B nx x _ (HBK.out.go HB1.out) (HXW.out.go HNS.out HB1.out)).mono ?_; rintro e w2 ⟨rfl, hb2⟩; rw [HXF.out]; (try clear c1); have HB2 := Lib.hid (bel HB1.out hb2); have c2 := (old_of HB2.out).1; clear hb2)
          | (go_at_call 17; refine (works_any _).mono ?_; rintro e w3 ⟨rfl, hb3⟩; (try clear c2); have HB3 := Lib.hid (bel HB2.out hb3); have c3 := (old_of HB3.out).1; clear hb3))
        go_ret
        exact ⟨rfl, fin HB.out HB3.out⟩
      | true =>
        have HXT : Hid (rX B.nv B.V nx x = true) := by unfold Hid; rw [rX_ok HG.out.V, hxx]
        obtain rfl : nx = B.nv := (goodX hxx).n
        have HGX := Lib.hid (goodX hxx)
        have HXX := Lib.hid hxx
        have HEI : Hid (eIdle B = (sel (idleP B) B.D.n, 0)) := by unfold Hid eIdle; rw [HOK.out]; rfl
        have hD20 := HG.out.nn
        have hlI : (sel (idleP B) B.D.n).length ≤ B.D.n := sel_len _ _
        have HLC : Hid ((sel (idleP B) B.D.n).length = cnt B.D.n (idleP B)) := sel_length _ _
        have HSG : Hid (∀ j, j < B.D.n → idleP B j = true → (sel (idleP B) B.D.n)[cnt j (idleP B)]? = some (j : Int)) := fun j h1 h2 => sel_get _ _ j h1 h2
        obtain ⟨lI, hli⟩ : ∃ z, sel (idleP B) B.D.n = z := ⟨_, rfl⟩
        rw [hli] at HEI hlI HLC HSG
        have hlIi : ¬ (B.D.n : Int) < (lI.length : Int) := by omega
        have hlId : ¬ B.D.n < lI.length := by omega
        have HFL : Hid (0 < (allF B).length ∧ (allF B).length ≤ 243) := by
          have hG := HG.out
          refine ⟨frl_pos B.V B.nv (fun i hi => (hG.V i hi).1) B.nv [] (by simp), ?_⟩
          have h1 := frl_le B.V B.nv (fun i hi => (hG.V i hi).2) B.nv [] (by simp)
          exact Nat.le_trans h1 (Nat.pow_le_pow_right (n := 3) (by omega) hG.nv)
        clear hxx h40 hli
        go_enter Try.func4, Try.ntmps4
        go_wp2_with (first
          | (go_at_call 15; go_must (refine (ready_any N _ B _ (HBK.out.go HB0.out)).mono ?_; rintro e w1 ⟨rfl, hb1⟩; rw [HRD.out]; (try clear c0); have HB1 := Lib.hid (bel HB0.out hb1); have c1 := (old_of HB1.out).1; clear hb1))
          | (go_at_call 16; go_must (refine (isFruit_any N _ _ B B.nv x _ (HBK.out.go HB1.out) (HXW.out.go HNS.out HB1.out)).mono ?_; rintro e w2 ⟨rfl, hb2⟩; rw [HXT.out]; (try clear c1); have HB2 := Lib.hid (bel HB1.out hb2); have c2 := (old_of HB2.out).1; clear hb2))
          | (go_at_call 27; go_must (refine (kIdle_any N _ B _ (HBK.out.go HB2.out)).mono ?_; rw [HEI.out]; rintro e w3 ⟨vI, rfl, hoI, hb3⟩; obtain ⟨aI, cI, rfl⟩ := own_form hoI; have PI3 : Hid (OwnI ws.heap.size w3 (.slice aI lI.length cI) lI) := Lib.hid (own_mono hoI HB2.out.size); clear hoI; (try clear c2); have HB3 := Lib.hid (bel HB2.out hb3); have c3 := (old_of HB3.out).1; clear hb3))
          | (go_at_call 28; go_must (refine (copy_near N _ B _ (HBK.out.go HB3.out) HNE.out).mono ?_; rintro e w4 ⟨b1, d1, b2, d2, b3, d3, rfl, how4, _, hb4⟩; have HOW4 := Lib.hid how4; have HB34 := Lib.hid hb4; clear how4; (try clear c3); have HB4 := Lib.hid (bel HB3.out hb4); have c4 := (old_of HB4.out).1; clear hb4; obtain ⟨w5, hw5, HB45, hsz45, hblk5⟩ := box1 w4 (.cells #[.slice b1 B.nv d1, .slice b2 B.ns d2, .slice b3 B.D.n d3] 26); have x0 := cell_blk hblk5 0 rfl; have x1 := cell_blk hblk5 1 rfl; have x2 := cell_blk hblk5 2 rfl; have hb5 := HB45.out; (try clear c4); have HB5 := Lib.hid (bel HB4.out hb5); have c5 := (old_of HB5.out).1; clear hb5; clear hblk5))
          | (go_at_call 29; go_must (refine (rFruits_any N _ B HG.out _ (HBK.out.go HB5.out)).mono ?_; rintro e w6 ⟨vF, rfl, hrows, hb6⟩; have HRO := Lib.hid hrows; clear hrows; have HB56 := Lib.hid hb6; (try clear c5); have HB6 := Lib.hid (bel HB5.out hb6); have c6 := (old_of HB6.out).1; clear hb6; obtain ⟨gF, cF, hvF, hgFs⟩ := frRows_form HRO.out HFL.out.1; subst hvF)))
        clear hws hw5 c6
        obtain ⟨lo, hlo⟩ : ∃ z, w3.heap.size = z := ⟨_, rfl⟩
        obtain ⟨hi, hhi⟩ : ∃ z, w4.heap.size = z := ⟨_, rfl⟩
        have h46 : Below w4.heap.size w4 w6 := HB45.out.trans (HB56.out.mono HB45.out.size)
        have h36 : Below w3.heap.size w3 w6 := HB34.out.trans (h46.mono HB34.out.size)
        have hlh : lo ≤ hi := by rw [← hlo, ← hhi]; exact HB34.out.size
        have hw5 : hi < w5.heap.size := by rw [← hhi]; exact hsz45
        have hw6 : w5.heap.size ≤ w6.heap.size := HB56.out.size
        have hwlo : w.heap.size < lo := by rw [← hlo]; exact Nat.lt_of_lt_of_le hsz HB3.out.size
        have hNlo : N ≤ lo := by rw [← hlo]; exact Nat.le_trans HNS.out HB3.out.size
        have HLW : Hid (w.heap.size ≤ lo ∧ lo ≤ w6.heap.size) := ⟨by omega, by omega⟩
        have HLWS : Hid (ws.heap.size ≤ lo) := by unfold Hid; rw [← hlo]; exact HB3.out.size
        have Q0 : w6.cell? ⟨w.heap.size, 0, none⟩ = some (.slice a1 B.nv z1) := (HB6.out.cell (p := ⟨w.heap.size, 0, none⟩) hsz).trans q0
        have Q1 : w6.cell? ⟨w.heap.size, 1, none⟩ = some (.slice a2 B.ns z2) := (HB6.out.cell (p := ⟨w.heap.size, 1, none⟩) hsz).trans q1
        have Q2 : w6.cell? ⟨w.heap.size, 2, none⟩ = some (.slice a3 B.D.n z3) := (HB6.out.cell (p := ⟨w.heap.size, 2, none⟩) hsz).trans q2
        clear q0 q1 q2
        have HBK6 := Lib.hid (HBK.out.go HB6.out)
        obtain ⟨bn, on, hae, hbn, hNC⟩ : ∃ bn on, a3 = some ⟨bn, on, none⟩ ∧ bn < lo ∧ ∀ i, i < B.D.n → w6.cell? ⟨bn, on + i * 3, none⟩ = some (.int .i64 (B.D.M i)) := by
          obtain ⟨b, o, e, hb, hr⟩ := HBK6.out.nodes.cells (by have := HG.out.D.n1; omega)
          exact ⟨b, o, e, by omega, fun i hi => by obtain ⟨_, _, h1, _⟩ := hr i hi; exact h1⟩
        subst hae
        have HNC := Lib.hid hNC
        have HOW0 : Hid (OwnBook w6 lo hi (.agg #[.slice b1 B.nv d1, .slice b2 B.ns d2, .slice b3 B.D.n d3]) B) := by rw [← hlo, ← hhi]; exact HOW4.out.grow h46
        obtain ⟨g3, hb3⟩ : ∃ g3, b3 = some ⟨g3, 0, none⟩ := by
          obtain ⟨v1, v2, v3, m, e, hp, _⟩ := HOW0.out
          cases e
          obtain ⟨g, c, e⟩ := hp.form2
          cases e; exact ⟨g, rfl⟩
        subst hb3
        have x2 : w6.cell? ⟨hi, 2, none⟩ = some (.slice (some ⟨g3, 0, none⟩) B.D.n d3) := by rw [← hhi]; exact (HB56.out.cell (p := ⟨w4.heap.size, 2, none⟩) hsz45).trans x2
        have x1 : w6.cell? ⟨hi, 1, none⟩ = some (.slice b2 B.ns d2) := by rw [← hhi]; exact (HB56.out.cell (p := ⟨w4.heap.size, 1, none⟩) hsz45).trans x1
        have x0 : w6.cell? ⟨hi, 0, none⟩ = some (.slice b1 B.nv d1) := by rw [← hhi]; exact (HB56.out.cell (p := ⟨w4.heap.size, 0, none⟩) hsz45).trans x0
        have HIC : Hid (∀ a, a < B.D.n → idleP B a = true → ∃ gI, aI = some ⟨gI, 0, none⟩ ∧ gI < lo ∧ w6.cell? ⟨gI, cnt a (idleP B), none⟩ = some (.int .i64 (a : Nat))) := fun a ha hp => by
          have h1 := HSG.out a ha hp
          have hlt : cnt a (idleP B) < lI.length := (List.getElem?_eq_some_iff.1 h1).1
          obtain ⟨_, ⟨e, h2⟩ | ⟨g, cap, cur, e, h3, h4, _⟩⟩ := id PI3.out
          · omega
          · cases e
            have hb : g < w3.heap.size := heap_lt h4
            refine ⟨g, rfl, by omega, (h36.cell (p := ⟨g, cnt a (idleP B), none⟩) hb).trans (own_cell PI3.out _ ?_)⟩
            rw [List.getElem?_map, h1]; rfl
        have HAT : Hid (∀ (f : Nat) (z : List Int), (allF B)[f]? = some z → ∃ gr cr, w6.cell? ⟨gF, f, none⟩ = some (.slice (some ⟨gr, 0, none⟩) B.nv cr) ∧ hi ≤ gr ∧ gr < w6.heap.size ∧ (∀ j, j < B.nv → w6.cell? ⟨gr, j, none⟩ = some (.int .i64 (atL z j))) ∧ GoodX B.nv B.V B.nv (atL z)) := fun f z hz => by
          obtain ⟨gr, cr, hc1, hgr, hc2, _, hlo'⟩ := frRows_at HRO.out hz
          obtain ⟨hzn, hin⟩ := (allF_mem B z).1 (List.mem_of_getElem? hz)
          rw [hzn] at hc1 hc2
          exact ⟨gr, cr, hc1, by omega, hgr, hc2, inC_goodX hin⟩
        have hgF : hi ≤ gF := by obtain ⟨rows, r1, _⟩ := HRO.out; have := (r1.lt gF rfl).1; omega
        obtain ⟨F, hFF⟩ : ∃ F, (allF B).length = F := ⟨_, rfl⟩
        have HFF := Lib.hid hFF
        have hF243 : F ≤ 243 := by have := HFL.out.2; omega
        have HTT : Hid (withT B B.D.T = B) := rfl
        have hwl : IntKind.i64.wrap ((lI.length : Int) - 1) = (lI.length : Int) - 1 := IntWalk.i64_in _ (by omega)
        have HS0 : Hid (Skip B B.D (fromR (idleP B) lI.length)) := Skip.start HG.out fun j hj => by
          unfold fromR
          cases hp : idleP B j with
          | false => rfl
          | true => have := cnt_lt hj hp; simp; have := HLC.out; omega
        simp only [hFF, hhi]
        clear hFF hNC HB4 HB5 HB3 HB2 HB1 HRO HB56 HB45 HB34 h46 h36 PI3 HOW4
        go_loopw [9] (fun i wr => ∃ (c : Nat) (z : Int) (T : Nat → Nat → Int), c ≤ lI.length ∧ i = .int .i64 z ∧ z = (c : Int) - 1 ∧ Hid (Skip B { B.D with T := T } (fromR (idleP B) c)) ∧ Hid (OwnBook wr lo hi (.agg #[.slice b1 B.nv d1, .slice b2 B.ns d2, .slice (some ⟨g3, 0, none⟩) B.D.n d3]) (withT B T)) ∧ Hid (ButOwn lo hi w6 wr)) (fun i _ => (intOf i + 1).toNat)
        case atStart => exact ⟨lI.length, _, B.D.T, Nat.le_refl _, rfl, rfl, HS0.out, HOW0.out, ButOwn.refl _ _ _⟩
        case round =>
        obtain ⟨wo, hwo⟩ : ∃ wo, wo = wr := ⟨_, rfl⟩
        subst hwo
        obtain ⟨c, z, T, hc, rfl, hz, HSK, HOW, HBO⟩ := hrel
        by_cases hc0 : c = 0
        · have hzi : ¬ (0 : Int) ≤ z := by omega
          subst hc0
          obtain ⟨we, hwe⟩ : ∃ we, we = wo := ⟨_, rfl⟩
          subst hwe
          have hsk := HSK.out
          have hPM : ∀ j, fromR (idleP B) 0 j = true → j < B.D.n → B.D.M j ≠ -1 := fun j hj hjn => by
            unfold fromR at hj
            simp at hj
            exact (idle_value HG.out hjn hj).1
          obtain ⟨hEnd, hLen⟩ := Skip.end' HG.out hsk hPM HGX.out
          have hokT : okKB (withT B T) = true := okKB_of HOK.out hsk.good
          have HEEb : Hid (eEnd B B.nv x = (endOf B.D x, 0)) := by unfold Hid eEnd; rw [HOK.out, HXX.out]; rfl
          have HEEo : Hid (eEnd (withT B T) B.nv x = (endOf B.D x, 0)) := by
            unfold Hid eEnd; rw [hokT]
            show (if okX B.nv B.V B.nv x = true then _ else _) = _
            rw [HXX.out, ← hEnd]; rfl
          have HEWb : Hid (eWalk B B.nv x = (ints (walk B.D x), 0)) := by unfold Hid eWalk; rw [HOK.out, HXX.out]; rfl
          have HEWo : Hid (eWalk (withT B T) B.nv x = (ints (walk { B.D with T := T } x), 0)) := by
            unfold Hid eWalk; rw [hokT]
            show (if okX B.nv B.V B.nv x = true then _ else _) = _
            rw [HXX.out]; rfl
          have HLE : Hid ((ints (walk { B.D with T := T } x)).length ≤ (ints (walk B.D x)).length) := by unfold Hid; rw [ints_len, ints_len]; exact hLen
          obtain ⟨es, hes⟩ : ∃ z, endOf B.D x = z := ⟨_, rfl⟩
          rw [hes] at HEEb HEEo
          obtain ⟨lb, hlb⟩ : ∃ z, ints (walk B.D x) = z := ⟨_, rfl⟩
          obtain ⟨lo', hlo'⟩ : ∃ z, ints (walk { B.D with T := T } x) = z := ⟨_, rfl⟩
          rw [hlb] at HEWb HLE
          rw [hlo'] at HEWo HLE
          have hle := HLE.out
          have hlei : ((lo'.length : Nat) : Int) ≤ ((lb.length : Nat) : Int) := by omega
          have hsz6 : w6.heap.size ≤ we.heap.size := HBO.out.2.2.2.1
          have hhi6 : hi < w6.heap.size := by have := World.block_lt_of_cell? w6 _ x2; exact this
          have hw6' : w.heap.size < w6.heap.size := by omega
          have o0 := HBO.out.cell (.inl hwlo) Q0
          have o1 := HBO.out.cell (.inl hwlo) Q1
          have o2 := HBO.out.cell (.inl hwlo) Q2
          have y0 := HBO.out.cell (.inr (Nat.le_refl _)) x0
          have y1 := HBO.out.cell (.inr (Nat.le_refl _)) x1
          have y2 := HBO.out.cell (.inr (Nat.le_refl _)) x2
          have HBKE : Hid (BookAt N we (.agg #[.slice a1 B.nv z1, .slice a2 B.ns z2, .slice (some ⟨bn, on, none⟩) B.D.n z3]) B) := HBK6.out.mono ((HBO.out.below HLW.out.2).mono hNlo) (Nat.le_refl _) (by have := HBK6.out.1; omega)
          have HBOE : Hid (BookAt we.heap.size we (.agg #[.slice b1 B.nv d1, .slice b2 B.ns d2, .slice (some ⟨g3, 0, none⟩) B.D.n d3]) (withT B T)) := own_book' HOW.out HNE.out (by omega)
          have HXE : Hid (IntsAt we.heap.size we (.slice au B.nv cu) B.nv x) := (HXW.out.mono ((HB6.out.trans (Below.mono (HBO.out.below HLW.out.2) HLWS.out)).mono HNS.out) (by have := HBKE.out.1; omega))
          have HEe : Hid (Below we.heap.size we we) := Below.refl _ _
          have bwe : w.heap.size < we.heap.size := by omega
          have bhe : hi < we.heap.size := by omega
          clear hsk hPM hEnd hLen hokT hes hlb hlo' hc
          go_wp2
          have HBe : Hid (Below we.heap.size we we) := Below.refl _ _
          have Sed := old_of HBe.out.drew; have HBed := Sed.2
          go_region_held3 (fun w' => (∀ b o, b < we.heap.size → w'.cell? ⟨b, o, none⟩ = we.cell? ⟨b, o, none⟩) ∧ Hid (Below we.heap.size we w')) (first | assumption | (refine sKeep ?_; repeat (first | assumption | refine hb_drew ?_ | refine hb_alloc (Nat.le_refl _) ?_ _))) (first
            | (rw [if_pos (by rfl)]; refine wp_clone _ (.tmp 183) (.tmp 184) rfl rfl we.heap.size _ _ B.nv _ x rfl rfl (HXE.out.mono ((HEe.out.trans (Below.mono (Hid.out (by repeat (first | assumption | refine hb_drew ?_ | refine hb_alloc (Nat.le_refl _) ?_ _))) HEe.out.size))) (Nat.le_refl _)) h40n ?_; intro va w33a hrow hba; obtain ⟨gg33, pp33, rfl⟩ := hrow.form; have HXA33 := Lib.hid (hrow.lt h40n); have HA33 : Hid (Below we.heap.size we w33a) := hb_go (Nat.le_refl _) (by repeat (first | assumption | refine hb_drew ?_ | refine hb_alloc (Nat.le_refl _) ?_ _)) hba; clear hrow hba)
            | (go_at_call 19; refine (kEnd_any w33a.heap.size _ _ B B.nv x _ ((HBKE.out.go (HEe.out.trans (HA33.out.mono HEe.out.size))).raise (HBKE.out.go (HEe.out.trans (HA33.out.mono HEe.out.size))).1 (Nat.le_refl _)) HXA33.out).mono ?_; rw [HEEb.out]; rintro e w33 ⟨rfl, hb33⟩; have HW33 : Hid (Below we.heap.size we w33) := hb_go (Nat.le_refl _) HA33 hb33; clear hb33))
          have HE33 : Hid (Below we.heap.size we w33) := Lib.hid (HEe.out.trans (HW33.out.mono HEe.out.size))
          have hs33 : we.heap.size ≤ w33.heap.size := HE33.out.size
          have bw33 : w.heap.size < w33.heap.size := by omega
          have bh33 : hi < w33.heap.size := by omega
          have cc33 := (old_of HW33.out).1
          clear Sed HBed
          go_wp2
          have HB33 : Hid (Below w33.heap.size w33 w33) := Below.refl _ _
          have S33d := old_of HB33.out.drew; have HB33d := S33d.2
          go_region_held3 (fun w' => (∀ b o, b < w33.heap.size → w'.cell? ⟨b, o, none⟩ = w33.cell? ⟨b, o, none⟩) ∧ Hid (Below w33.heap.size w33 w')) (first | assumption | (refine sKeep ?_; repeat (first | assumption | refine hb_drew ?_ | refine hb_alloc (Nat.le_refl _) ?_ _))) (first
            | (rw [if_pos (by rfl)]; refine wp_clone _ (.tmp 191) (.tmp 192) rfl rfl we.heap.size _ _ B.nv _ x rfl rfl (HXE.out.mono ((HE33.out.trans (Below.mono (Hid.out (by repeat (first | assumption | refine hb_drew ?_ | refine hb_alloc (Nat.le_refl _) ?_ _))) HE33.out.size))) (Nat.le_refl _)) h40n ?_; intro va w34a hrow hba; obtain ⟨gg34, pp34, rfl⟩ := hrow.form; have HXA34 := Lib.hid (hrow.lt h40n); have HA34 : Hid (Below w33.heap.size w33 w34a) := hb_go (Nat.le_refl _) (by repeat (first | assumption | refine hb_drew ?_ | refine hb_alloc (Nat.le_refl _) ?_ _)) hba; clear hrow hba)
            | (go_at_call 19; refine (kEnd_any w34a.heap.size _ _ (withT B T) B.nv x _ ((HBOE.out.go (HE33.out.trans (HA34.out.mono HE33.out.size))).raise (HBOE.out.go (HE33.out.trans (HA34.out.mono HE33.out.size))).1 (Nat.le_refl _)) HXA34.out).mono ?_; rw [HEEo.out]; rintro e w34 ⟨rfl, hb34⟩; have HW34 : Hid (Below w33.heap.size w33 w34) := hb_go (Nat.le_refl _) HA34 hb34; clear hb34))
          have HE34 : Hid (Below we.heap.size we w34) := Lib.hid (HE33.out.trans (HW34.out.mono HE33.out.size))
          have hs34 : we.heap.size ≤ w34.heap.size := HE34.out.size
          have bw34 : w.heap.size < w34.heap.size := by omega
          have bh34 : hi < w34.heap.size := by omega
          have cc34 := (old_of HW34.out).1
          clear S33d HB33d
          go_wp2
          have HB34 : Hid (Below w34.heap.size w34 w34) := Below.refl _ _
          have S34d := old_of HB34.out.drew; have HB34d := S34d.2
          go_region_held3 (fun w' => (∀ b o, b < w34.heap.size → w'.cell? ⟨b, o, none⟩ = w34.cell? ⟨b, o, none⟩) ∧ Hid (Below w34.heap.size w34 w')) (first | assumption | (refine sKeep ?_; repeat (first | assumption | refine hb_drew ?_ | refine hb_alloc (Nat.le_refl _) ?_ _))) (first
            | (rw [if_pos (by rfl)]; refine wp_clone _ (.tmp 199) (.tmp 200) rfl rfl we.heap.size _ _ B.nv _ x rfl rfl (HXE.out.mono ((HE34.out.trans (Below.mono (Hid.out (by repeat (first | assumption | refine hb_drew ?_ | refine hb_alloc (Nat.le_refl _) ?_ _))) HE34.out.size))) (Nat.le_refl _)) h40n ?_; intro va w35a hrow hba; obtain ⟨gg35, pp35, rfl⟩ := hrow.form; have HXA35 := Lib.hid (hrow.lt h40n); have HA35 : Hid (Below w34.heap.size w34 w35a) := hb_go (Nat.le_refl _) (by repeat (first | assumption | refine hb_drew ?_ | refine hb_alloc (Nat.le_refl _) ?_ _)) hba; clear hrow hba)
            | (go_at_call 18; refine (kWalk_any w35a.heap.size _ _ B B.nv x _ ((HBKE.out.go (HE34.out.trans (HA35.out.mono HE34.out.size))).raise (HBKE.out.go (HE34.out.trans (HA35.out.mono HE34.out.size))).1 (Nat.le_refl _)) HXA35.out).mono ?_; rw [HEWb.out]; rintro e w35 ⟨v35, rfl, ho35, hb35⟩; obtain ⟨ao35, co35, rfl⟩ := own_form ho35; clear ho35; have HW35 : Hid (Below w34.heap.size w34 w35) := hb_go (Nat.le_refl _) HA35 hb35; clear hb35))
          have HE35 : Hid (Below we.heap.size we w35) := Lib.hid (HE34.out.trans (HW35.out.mono HE34.out.size))
          have hs35 : we.heap.size ≤ w35.heap.size := HE35.out.size
          have bw35 : w.heap.size < w35.heap.size := by omega
          have bh35 : hi < w35.heap.size := by omega
          have cc35 := (old_of HW35.out).1
          clear S34d HB34d
          go_wp2
          have HB35 : Hid (Below w35.heap.size w35 w35) := Below.refl _ _
          have S35d := old_of HB35.out.drew; have HB35d := S35d.2
          go_region_held3 (fun w' => (∀ b o, b < w35.heap.size → w'.cell? ⟨b, o, none⟩ = w35.cell? ⟨b, o, none⟩) ∧ Hid (Below w35.heap.size w35 w')) (first | assumption | (refine sKeep ?_; repeat (first | assumption | refine hb_drew ?_ | refine hb_alloc (Nat.le_refl _) ?_ _))) (first
            | (rw [if_pos (by rfl)]; refine wp_clone _ (.tmp 207) (.tmp 208) rfl rfl we.heap.size _ _ B.nv _ x rfl rfl (HXE.out.mono ((HE35.out.trans (Below.mono (Hid.out (by repeat (first | assumption | refine hb_drew ?_ | refine hb_alloc (Nat.le_refl _) ?_ _))) HE35.out.size))) (Nat.le_refl _)) h40n ?_; intro va w36a hrow hba; obtain ⟨gg36, pp36, rfl⟩ := hrow.form; have HXA36 := Lib.hid (hrow.lt h40n); have HA36 : Hid (Below w35.heap.size w35 w36a) := hb_go (Nat.le_refl _) (by repeat (first | assumption | refine hb_drew ?_ | refine hb_alloc (Nat.le_refl _) ?_ _)) hba; clear hrow hba)
            | (go_at_call 18; refine (kWalk_any w36a.heap.size _ _ (withT B T) B.nv x _ ((HBOE.out.go (HE35.out.trans (HA36.out.mono HE35.out.size))).raise (HBOE.out.go (HE35.out.trans (HA36.out.mono HE35.out.size))).1 (Nat.le_refl _)) HXA36.out).mono ?_; rw [HEWo.out]; rintro e w36 ⟨v36, rfl, ho36, hb36⟩; obtain ⟨ao36, co36, rfl⟩ := own_form ho36; clear ho36; have HW36 : Hid (Below w35.heap.size w35 w36) := hb_go (Nat.le_refl _) HA36 hb36; clear hb36))
          have HE36 : Hid (Below we.heap.size we w36) := Lib.hid (HE35.out.trans (HW36.out.mono HE35.out.size))
          have hs36 : we.heap.size ≤ w36.heap.size := HE36.out.size
          have bw36 : w.heap.size < w36.heap.size := by omega
          have bh36 : hi < w36.heap.size := by omega
          have cc36 := (old_of HW36.out).1
          clear S35d HB35d
          go_wp2_with (go_at_call 17; go_must (refine (works_any _).mono ?_; rintro e wZ ⟨rfl, hbZ⟩; have HBZ := Lib.hid (hbZ.mono hs36); clear hbZ))
          go_ret
          have hwwe : w.heap.size ≤ we.heap.size := by omega
          exact ⟨rfl, (((HB.out.trans (HB6.out.mono HB.out.size)).trans ((HBO.out.below HLW.out.2).mono HLW.out.1)).trans (HE36.out.mono hwwe)).trans (HBZ.out.mono hwwe)⟩
        · obtain ⟨c1, hc1⟩ : ∃ c1, c = c1 + 1 := ⟨c - 1, by omega⟩
          obtain rfl : z = (c1 : Int) := by omega
          subst hc1
          obtain ⟨a, ha, hpa, hra⟩ := rank_ex (idleP B) B.D.n c1 (by rw [← HLC.out]; omega)
          obtain ⟨gI, haI, hgI, hcI⟩ := HIC.out a ha hpa
          subst haI
          rw [hra] at hcI
          have hcl : (c1 : Int) < (lI.length : Int) := by omega
          have ha0 : a ≠ 0 := by intro e; rw [e, idle_not0 HG.out] at hpa; cases hpa
          have ha0i : ¬ ((a : Nat) : Int) ≤ 0 := by omega
          have hani : ¬ (B.D.n : Int) ≤ ((a : Nat) : Int) := by omega
          obtain ⟨hma, hex, v, hval⟩ := idle_value HG.out ha hpa
          obtain ⟨m0, m1, _⟩ := HG.out.D.ask a ha hma
          obtain ⟨mk, hmk⟩ : ∃ mk : Nat, B.D.M a = mk := ⟨(B.D.M a).toNat, by omega⟩
          have hmkn : mk < B.nv := by omega
          have hmkb : ((mk : Int) == -1) = false := by first | (simp; done) | (simp; omega)
          have HHEAD : Hid (idleP B a = true ∧ cnt a (idleP B) = c1 ∧ B.D.M a ≠ -1) := ⟨hpa, hra, hma⟩
          have HEX := Lib.hid hex
          have HVAL : Hid (∀ x, GoodX B.nv B.V B.nv x → a ∈ walk B.D x → (x mk).toNat = v) := fun x h1 h2 => by have := hval x h1 h2; rwa [hmk, Int.toNat_natCast] at this
          have hMc := HNC.out a ha
          rw [hmk] at hMc
          have cM := HBO.out.cell (.inl hbn) hMc
          have cI := HBO.out.cell (.inl hgI) hcI
          have o0 := HBO.out.cell (.inl hwlo) Q0
          have o1 := HBO.out.cell (.inl hwlo) Q1
          have o2 := HBO.out.cell (.inl hwlo) Q2
          have HPREV : Hid (∀ c0, c1 = c0 + 1 → ∃ a', a' < a ∧ wo.cell? ⟨gI, c0, none⟩ = some (.int .i64 (a' : Nat))) := fun c0 hc0 => by
            obtain ⟨a', h1, h2, h3⟩ := rank_ex (idleP B) B.D.n c0 (by rw [← HLC.out]; omega)
            obtain ⟨gI', e, h4, h5⟩ := HIC.out a' h1 h2
            cases e
            rw [h3] at h5
            refine ⟨a', ?_, HBO.out.cell (.inl h4) h5⟩
            rcases Nat.lt_trichotomy a' a with h | h | h
            · exact h
            · subst h; omega
            · have := cnt_lt h hpa; omega
          have HAN : Hid (a < B.D.n) := ha
          have hai : ((a : Nat) : Int) < (B.D.n : Int) := by omega
          clear hcI hMc hex hval hma m0 m1 hpa hra hc0 hz
          go_upto_region 12 with fail
          go_cut [99] (fun b wx => b = .bool false ∧ wx = wo)
          case first =>
            by_cases hc10 : c1 = 0
            · have hi0 : ¬ (0 : Int) < (c1 : Int) := by omega
              have hd0 : decide (0 < c1) = false := by simp; omega
              clear hc10
              go_wp2_with fail
              go_meet
              exact ⟨rfl, rfl⟩
            · obtain ⟨c0, hc0⟩ : ∃ c0, c1 = c0 + 1 := ⟨c1 - 1, by omega⟩
              obtain ⟨a', hlt, cP⟩ := HPREV.out c0 hc0
              have hi0 : (0 : Int) < (c1 : Int) := by omega
              have hd0 : decide (0 < c1) = true := by simp; omega
              have hwc : IntKind.i64.wrap ((c1 : Int) - 1) = (c0 : Int) := by rw [IntWalk.i64_in _ (by omega)]; omega
              have hc0i : (c0 : Int) < (lI.length : Int) := by omega
              have hge : ¬ ((a : Nat) : Int) ≤ ((a' : Nat) : Int) := by omega
              have hgen : ¬ a ≤ a' := by omega
              clear hc10 hc0
              go_wp2_with fail
              go_meet
              exact ⟨rfl, rfl⟩
          case rest =>
            obtain ⟨rfl, hcut⟩ := hcut
            subst hcut
            -- where the idle question leads
            have hTG := HSK.out.good
            have hMT : T = T := rfl
            have hmaT : ({ B.D with T := T } : Nd).M a ≠ -1 := HHEAD.out.2.2
            obtain ⟨zx, hzx, hzm⟩ := HEX.out
            obtain ⟨hzn, hzin⟩ := (allF_mem B zx).1 hzx
            have hvq : v < B.D.q a ∧ ((v : Nat) : Int) < (B.D.q a : Int) := by
              obtain ⟨_, _, _, h4, _⟩ := hTG.ask a ha hmaT
              have hb := (inC_goodX hzin).x mk hmkn
              have e := HVAL.out _ (inC_goodX hzin) hzm
              have h5 : (B.D.q a : Int) = B.V (B.D.M a).toNat := h4
              rw [hmk, Int.toNat_natCast] at h5
              omega
            obtain ⟨hvq, hvqi⟩ := hvq
            have htt : (a : Int) < T a v ∧ T a v < (B.D.n : Int) := by
              obtain ⟨_, _, _, _, h5⟩ := hTG.ask a ha hmaT
              exact h5 v hvq
            obtain ⟨tt, htt'⟩ : ∃ tt : Nat, T a v = tt := ⟨(T a v).toNat, by omega⟩
            have hat : a < tt := by omega
            have httn : tt < B.D.n := by omega
            have HTV : Hid (T a v = (tt : Int)) := htt'
            have HTT2 : Hid (a < tt ∧ tt < B.D.n) := ⟨hat, httn⟩
            have HVF : Hid (∀ f z, (allF B)[f]? = some z → a ∈ walk B.D (atL z) → atL z mk = (v : Int)) := fun f z hz hm => by
              obtain ⟨_, hin⟩ := (allF_mem B z).1 (List.mem_of_getElem? hz)
              have e := HVAL.out _ (inC_goodX hin) hm
              have hb := (inC_goodX hin).x mk hmkn
              omega
            have hn0 : ((tt : Nat) : Int) ≠ 0 := by omega
            have htt0 : (((tt : Nat) : Int) == 0) = false := by simp; omega
            have HBO0 := HBO
            clear hzx hzm hzn hzin htt htt' hat httn hTG hMT hmaT hn0 cI
            go_wp2
            go_loopw [11, 12] (fun t i wr => ∃ (f : Nat) (tz : Int), f ≤ F ∧ i = .int .i64 f ∧ t = .int .i64 tz ∧ Hid (tz = if cameF B a f then (tt : Int) else 0) ∧ Hid (OwnBook wr lo hi (.agg #[.slice b1 B.nv d1, .slice b2 B.ns d2, .slice (some ⟨g3, 0, none⟩) B.D.n d3]) (withT B T)) ∧ Hid (ButOwn lo hi w6 wr)) (fun _ i _ => F - (intOf i).toNat)
            case atStart => exact ⟨0, 0, Nat.zero_le _, rfl, rfl, rfl, HOW, HBO0⟩
            case round =>
            clear o0 o1 o2 cM HOW HBO HBO0
            obtain ⟨f, tz, hf, rfl, rfl, HTZ, HOWr, HBOr⟩ := hrel
            have o0 := HBOr.out.cell (.inl hwlo) Q0
            have o1 := HBOr.out.cell (.inl hwlo) Q1
            have o2 := HBOr.out.cell (.inl hwlo) Q2
            have y0 := HBOr.out.cell (.inr (Nat.le_refl _)) x0
            have y1 := HBOr.out.cell (.inr (Nat.le_refl _)) x1
            have y2 := HBOr.out.cell (.inr (Nat.le_refl _)) x2
            by_cases hfn : f < F
            · have hfi : (f : Int) < (F : Int) := by omega
              have HFN : Hid (f < F) := hfn
              obtain ⟨z, hz⟩ : ∃ z, (allF B)[f]? = some z := ⟨_, List.getElem?_eq_getElem (by rw [HFF.out]; exact hfn)⟩
              obtain ⟨gr, cr, hc1, hgr1, hgr2, hc2, hgx⟩ := HAT.out f z hz
              have cg := HBOr.out.cell (.inr hgF) hc1
              have HRC : Hid (∀ j, j < B.nv → w6.cell? ⟨gr, j, none⟩ = some (.int .i64 (atL z j))) := hc2
              have HGR : Hid (hi ≤ gr) := hgr1
              have HGRC : Hid (w6.cell? ⟨gF, f, none⟩ = some (.slice (some ⟨gr, 0, none⟩) B.nv cr)) := hc1
              have HGZ := Lib.hid hgx
              have HZ := Lib.hid hz
              have hsz6 : w6.heap.size ≤ wr.heap.size := HBOr.out.2.2.2.1
              have HIZ : Hid (IntsAt wr.heap.size wr (.slice (some ⟨gr, 0, none⟩) B.nv cr) B.nv (atL z)) := ⟨_, cr, rfl, by have := HG.out.nv; omega, fun _ => ⟨gr, 0, rfl, by omega, fun j hj => ⟨_, by rw [Nat.zero_add]; exact HBOr.out.cell (.inr hgr1) (hc2 j hj), rfl⟩⟩⟩
              have HBKr : Hid (BookAt N wr (.agg #[.slice a1 B.nv z1, .slice a2 B.ns z2, .slice (some ⟨bn, on, none⟩) B.D.n z3]) B) := HBK6.out.mono ((HBOr.out.below HLW.out.2).mono hNlo) (Nat.le_refl _) (by have := HBK6.out.1; omega)
              have HNr : Hid (NodesAt wr.heap.size wr (.slice (some ⟨bn, on, none⟩) B.D.n z3) B.D) := HBKr.out.nodes.raise HBKr.out.1
              have HWL : Hid ((ints (walk B.D (atL z))).length ≤ 140737488351232) := by unfold Hid; rw [ints_len]; have := walk_len HG.out.D HGZ.out; omega
              have HBr0 : Hid (Below wr.heap.size wr wr) := Below.refl _ _
              have hwr : w.heap.size < wr.heap.size := by have := HLW.out; omega
              have hgFr : gF < wr.heap.size := by omega
              clear hz hc1 hgr1 hgr2 hc2 hgx hfn hf
              have Sr0d := old_of HBr0.out.drew; have HBr0d := Sr0d.2
              cases hcon : (walk B.D (atL z)).contains a with
              | false =>
                have HCN : Hid ((ints (walk B.D (atL z))).contains ((a : Nat) : Int) = false) := by unfold Hid; rw [ints_contains]; exact hcon
                have HCF : Hid (cameF B a (f + 1) = cameF B a f) := cameF_miss HZ.out hcon
                clear hcon
                go_upto_region 18 with fail
                go_region_held3 (fun w' => (∀ b o, b < wr.heap.size → w'.cell? ⟨b, o, none⟩ = wr.cell? ⟨b, o, none⟩) ∧ Hid (Below wr.heap.size wr w')) (assumption) (first
                  | (go_at_call 23; refine (walkOf_any wr.heap.size _ _ B.D B.nv B.V B.ns B.nv (atL z) _ (HNr.out.mono HBr0d.out (Nat.le_refl _)) (HIZ.out.mono HBr0d.out (Nat.le_refl _)) HBr0d.out.size HG.out.D HGZ.out (by have := HG.out.nn; omega)).mono ?_; rintro e w8 ⟨v8, rfl, ho8, hb8⟩; have P8 := Lib.hid ho8; clear ho8; have S8 := old_of (bel HBr0d.out hb8); have HB8 := S8.2; clear hb8)
                  | (go_at_call 24; refine (in_any _ _ _ _ _ _ (P8.out.ints HWL.out)).mono ?_; rw [anyB_list, HCN.out]; rintro e wq ⟨rfl, hwq⟩; rw [hwq]; clear hwq wq))
                clear S8 Sr0d
                have HBO8 := Lib.hid (HBOr.out.go HB8.out)
                have HOW8 := Lib.hid (HOWr.out.grow HB8.out)
                go_wp2
                go_roundw
                case rel => exact ⟨f + 1, tz, by have := HFN.out; omega, by go_num, rfl, by rw [HCF.out]; exact HTZ, HOW8, HBO8⟩
                case measure => simp [intOf]; have := HFN.out; omega
              | true =>
                have HCN : Hid ((ints (walk B.D (atL z))).contains ((a : Nat) : Int) = true) := by unfold Hid; rw [ints_contains]; exact hcon
                have HCF : Hid (cameF B a (f + 1) = true) := cameF_hit HZ.out hcon
                have HVZ : Hid (atL z mk = (v : Int)) := HVF.out f z HZ.out (List.contains_iff_mem.1 hcon)
                obtain ⟨ga, ca, _, _, l3, c3, hrow⟩ := OwnBook.row (B := withT B T) HOWr.out (show 0 < B.nv by omega) (k := a) HAN.out
                obtain ⟨_, _, k3, c4, _, _⟩ := hrow v hvq
                replace c3 : wr.cell? ⟨g3, a * 3 + 2, none⟩ = some (.slice (some ⟨ga, 0, none⟩) (B.D.q a) ca) := c3
                replace c4 : wr.cell? ⟨ga, v, none⟩ = some (.int .i64 (tt : Nat)) := by rw [← HTV.out]; exact c4
                have hMc := HNC.out a HAN.out
                rw [hmk] at hMc
                have cM := HBOr.out.cell (.inl hbn) hMc
                have hRC := HRC.out mk hmkn
                rw [HVZ.out] at hRC
                have cz := HBOr.out.cell (.inr HGR.out) hRC
                have hmki : (mk : Int) < (B.nv : Int) := by omega
                have hbnr : bn < wr.heap.size := by have := HLW.out; omega
                have hgrr : gr < wr.heap.size := by have := World.block_lt_of_cell? w6 _ hRC; have e : gr < w6.heap.size := this; omega
                have hhir : hi < wr.heap.size := by have := World.block_lt_of_cell? w6 _ x2; have e : hi < w6.heap.size := this; omega
                clear hMc hRC hrow
                clear hcon
                go_upto_region 18 with fail
                go_region_held3 (fun w' => (∀ b o, b < wr.heap.size → w'.cell? ⟨b, o, none⟩ = wr.cell? ⟨b, o, none⟩) ∧ Hid (Below wr.heap.size wr w')) (assumption) (first
                  | (go_at_call 23; refine (walkOf_any wr.heap.size _ _ B.D B.nv B.V B.ns B.nv (atL z) _ (HNr.out.mono HBr0d.out (Nat.le_refl _)) (HIZ.out.mono HBr0d.out (Nat.le_refl _)) HBr0d.out.size HG.out.D HGZ.out (by have := HG.out.nn; omega)).mono ?_; rintro e w8 ⟨v8, rfl, ho8, hb8⟩; have P8 := Lib.hid ho8; clear ho8; have S8 := old_of (bel HBr0d.out hb8); have HB8 := S8.2; clear hb8)
                  | (go_at_call 24; refine (in_any _ _ _ _ _ _ (P8.out.ints HWL.out)).mono ?_; rw [anyB_list, HCN.out]; rintro e wq ⟨rfl, hwq⟩; rw [hwq]; clear hwq wq))
                clear S8 Sr0d
                have HBO8 := Lib.hid (HBOr.out.go HB8.out)
                have HOW8 := Lib.hid (HOWr.out.grow HB8.out)
                have c8 := (old_of HB8.out).1
                have HOW8d := Lib.hid (HOW8.out.grow (Below.refl _ _).drew)
                have HBO8d := Lib.hid (HBO8.out.go (Below.refl _ _).drew)
                have HNEW : Hid (((tt : Nat) : Int) = if cameF B a (f + 1) then (tt : Int) else 0) := by unfold Hid; rw [HCF.out]; rfl
                by_cases htz : tz = 0
                · subst htz
                  go_wp2
                  go_region
                  go_wp2
                  go_roundw
                  case rel => exact ⟨f + 1, tt, by have := HFN.out; omega, by go_num, rfl, HNEW, HOW8d, HBO8d⟩
                  case measure => simp [intOf]; have := HFN.out; omega
                · have htz1 : tz = (tt : Int) := by have := HTZ.out; split at this <;> omega
                  subst htz1
                  go_wp2
                  go_region
                  go_wp2
                  go_roundw
                  case rel => exact ⟨f + 1, tt, by have := HFN.out; omega, by go_num, rfl, HNEW, HOW8d, HBO8d⟩
                  case measure => simp [intOf]; have := HFN.out; omega
            · have hfi : ¬ (f : Int) < (F : Int) := by omega
              have hfF : f = F := by omega
              subst hfF
              have htz : tz = (tt : Int) := by
                have h1 := HTZ.out
                have h2 : cameF B a f = true := by rw [← HFF.out]; exact cameF_all HEX.out
                rw [h2] at h1; exact h1
              subst htz
              have HOW1 : Hid (OwnBook wr lo hi (.agg #[.slice b1 B.nv d1, .slice b2 B.ns d2, .slice (some ⟨g3, 0, none⟩) B.D.n d3]) (withT B (midT T a tt 0 0))) := by rw [midT_zero]; exact HOWr
              clear hf o0 o1 o2 y0 y1 y2
              go_wp2
              go_loopw [14] (fun i wr => ∃ k : Nat, k ≤ a ∧ i = .int .i64 k ∧ Hid (OwnBook wr lo hi (.agg #[.slice b1 B.nv d1, .slice b2 B.ns d2, .slice (some ⟨g3, 0, none⟩) B.D.n d3]) (withT B (midT T a tt k 0))) ∧ Hid (ButOwn lo hi w6 wr)) (fun i _ => a - (intOf i).toNat)
              case atStart => exact ⟨0, Nat.zero_le _, rfl, HOW1, HBOr⟩
              case round =>
              clear HOW1 HOWr HBOr
              obtain ⟨k, hk, rfl, HOWk, HBOk⟩ := hrel
              by_cases hka : k < a
              · have hkai : (k : Int) < (a : Int) := by omega
                have HKA := Lib.hid hka
                have hkn : k < B.D.n := by have := HAN.out; omega
                have hkni : (k : Int) < (B.D.n : Int) := by omega
                have HKN := Lib.hid hkn
                clear hka hk hkn
                go_wp2
                go_loopw [15] (fun i wr => ∃ j : Nat, j ≤ B.D.q k ∧ i = .int .i64 j ∧ Hid (OwnBook wr lo hi (.agg #[.slice b1 B.nv d1, .slice b2 B.ns d2, .slice (some ⟨g3, 0, none⟩) B.D.n d3]) (withT B (midT T a tt k j))) ∧ Hid (ButOwn lo hi w6 wr)) (fun i _ => B.D.q k - (intOf i).toNat)
                case atStart => exact ⟨0, Nat.zero_le _, rfl, HOWk, HBOk⟩
                case round =>
                clear HOWk HBOk
                obtain ⟨j, hj, rfl, HOWj, HBOj⟩ := hrel
                have hq40 := HNE.out.q k HKN.out
                have y0 := HBOj.out.cell (.inr (Nat.le_refl _)) x0
                have y1 := HBOj.out.cell (.inr (Nat.le_refl _)) x1
                have y2 := HBOj.out.cell (.inr (Nat.le_refl _)) x2
                obtain ⟨gk, ck, l1, l2, l3, c3, hrow⟩ := OwnBook.row (B := withT B (midT T a tt k j)) HOWj.out (show 0 < B.nv by omega) (k := k) HKN.out
                replace c3 : wr.cell? ⟨g3, k * 3 + 2, none⟩ = some (.slice (some ⟨gk, 0, none⟩) (B.D.q k) ck) := c3
                by_cases hjq : j < B.D.q k
                · have hjqi : (j : Int) < (B.D.q k : Int) := by omega
                  obtain ⟨k1, k2, k3, c4, c5, hput⟩ := hrow j hjq
                  replace c4 : wr.cell? ⟨gk, j, none⟩ = some (.int .i64 (T k j)) := by rw [← midT_self T a tt k j]; exact c4
                  have HPUT : Hid (∀ z : Int, OwnBook (wr.setCell ⟨gk, j, none⟩ (.int .i64 z)) lo hi (.agg #[.slice b1 B.nv d1, .slice b2 B.ns d2, .slice (some ⟨g3, 0, none⟩) B.D.n d3]) (withT B (putT (midT T a tt k j) k j z))) := hput
                  have HK12 : Hid (lo ≤ gk ∧ gk < hi) := ⟨k1, k2⟩
                  have HJQ := Lib.hid hjq
                  clear hrow hput k1 k2 hjq hj l1 l2
                  by_cases hta : T k j = (a : Int)
                  · have htb : (T k j == (a : Int)) = true := by simp [hta]
                    have HTA := Lib.hid hta
                    clear hta
                    go_wp2
                    go_roundw
                    case rel => exact ⟨j + 1, HJQ.out, by go_num, (HPUT.out tt).congr fun i _ jj _ => midT_put HTA.out i jj, HBOj.out.put HK12.out.1 HK12.out.2 _⟩
                    case measure => simp [intOf]; have := HJQ.out; omega
                  · have htb : (T k j == (a : Int)) = false := by simp [hta]
                    have HTA := Lib.hid hta
                    clear hta
                    go_wp2
                    go_roundw
                    case rel => exact ⟨j + 1, HJQ.out, by go_num, HOWj.out.congr fun i _ jj _ => midT_skip HTA.out i jj, HBOj⟩
                    case measure => simp [intOf]; have := HJQ.out; omega
                · have hjqi : ¬ (j : Int) < (B.D.q k : Int) := by omega
                  have hjqe : j = B.D.q k := by omega
                  have HJE := Lib.hid hjqe
                  clear hrow hjqe hj
                  go_wp2
                  go_roundw
                  case rel => exact ⟨k + 1, HKA.out, by go_num, HOWj.out.congr fun i _ jj hjj => midT_next i jj fun e => by rw [HJE.out, ← e]; exact hjj, HBOj⟩
                  case measure => simp [intOf]; have := HKA.out; omega
              · have hkai : ¬ (k : Int) < (a : Int) := by omega
                have hke : k = a := by omega
                subst hke
                have hwc : IntKind.i64.wrap ((c1 : Int) - 1) = (c1 : Int) - 1 := IntWalk.i64_in _ (by omega)
                have HSK2 : Hid (Skip B { B.D with T := midT T k tt k 0 } (fromR (idleP B) c1)) := by
                  have h0 : Skip B (redir { B.D with T := T } k tt) (fromR (idleP B) c1) := Skip.step HG.out HSK.out (by unfold fromR; rw [HHEAD.out.2.1]; simp) ha0 HHEAD.out.2.2 HTT2.out.1 HTT2.out.2 (fun xx hxx hm => by
                    have e := HVAL.out xx hxx hm
                    show (T k (xx (B.D.M k).toNat).toNat).toNat = tt
                    rw [hmk, Int.toNat_natCast, e, HTV.out]; simp) (fun j => by have := fromR_step (p := idleP B) (a := k) (j := j) HHEAD.out.1; rw [HHEAD.out.2.1] at this; exact this)
                  have e : (redir { B.D with T := T } k tt) = { B.D with T := midT T k tt k 0 } := by
                    have := midT_all { B.D with T := T } k tt
                    unfold redir at this ⊢
                    simp only at this ⊢
                    rw [this]
                  rw [e] at h0; exact h0
                go_wp2
                go_roundw
                case rel => exact ⟨c1, (c1 : Int) - 1, midT T k tt k 0, by omega, rfl, rfl, HSK2, HOWk, HBOk⟩
                case measure => first | (simp [intOf]; done) | (simp [intOf]; omega)

end Go.Proofs.Ytnhdipkmgdgeeaa
