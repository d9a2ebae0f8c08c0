/-
  Comes: Comes of the reference.
-/
import Derived.Test.YtbieglmpkljjjaaWorks
namespace Go.Proofs.Ytbieglmpkljjjaa
open Go.RowKit

def comesP (B : KB) (y i : Nat) : Bool := (walk B.D (B.X i)).contains y
def eComes (B : KB) (y : Int) : List Int × Int := if okKB B then (if decide (0 ≤ y) && decide (y < B.D.n) then (sel (comesP B y.toNat) B.ns, 0) else ([], 1)) else ([], 20)

set_option maxRecDepth 100000 in
set_option maxHeartbeats 6400000 in
theorem rComes_any (N : Nat) (v : Value) (B : KB) (y : Int) (w : World) (h : BookAt N w v B) :
    Calls Try.prog 50 #[v, .int .i64 y] w (GivesIE w.heap.size w (eComes B y).1 (eComes B y).2) := by
  obtain ⟨i0, hi, hz0, hz1, hz2⟩ := info_parts Try.infoInt
  have h' := h
  obtain ⟨_, a1, z1, a2, z2, a3, z3, rfl, _⟩ := h'
  obtain ⟨ws, hws, HB, hsz, hblk⟩ := box1 w (.cells #[.slice a1 B.nv z1, .slice a2 B.ns z2, .slice a3 B.D.n z3] 26)
  have q0 := cell_blk hblk 0 rfl
  have q1 := cell_blk hblk 1 rfl
  have q2 := cell_blk hblk 2 rfl
  have HBK := Lib.hid (h.go HB.out)
  have HB0 : Hid (Below ws.heap.size ws ws) := Below.refl _ _
  have HNS : Hid (N ≤ ws.heap.size) := HBK.out.1
  have hlens := h.lens
  obtain ⟨hlv, hls, hln⟩ := hlens
  clear hblk h
  have S0d := old_of HB0.out.drew; have HB0d := S0d.2
  cases hv : okKB B with
  | false =>
    have HA : Hid (∀ r, eAsk B r = 20) := fun r => by unfold eAsk; rw [hv]; rfl
    have HE : Hid (eComes B y = ([], 20)) := by unfold Hid eComes; rw [hv]; rfl
    clear hv
    go_enter Try.func50, Try.ntmps50
    go_wp2
    clear hws
    go_region_held3 (fun w' => (∀ b o, b < ws.heap.size → w'.cell? ⟨b, o, none⟩ = ws.cell? ⟨b, o, none⟩) ∧ Hid (Below ws.heap.size ws w')) (assumption) (first
      | (go_at_call 21; refine (isNodeNo_any N _ B y _ (HBK.out.go HB0d.out)).mono ?_; rintro e w1 ⟨rfl, hb1⟩; have S1 := old_of (bel HB0d.out hb1); have HB1 := S1.2; clear hb1)
      | (go_at_call 94; refine (ask_any N _ B _ _ (HBK.out.go HB1.out)).mono ?_; rintro e w2 ⟨rfl, hb2⟩; rw [HA.out]; have S2 := old_of (bel HB1.out hb2); have HB2 := S2.2; clear hb2))
    have HB2 := S2.2; have c2 := S2.1; clear S2 S0d
    go_wp2
    go_ret2
    exact ⟨.slice none 0 0, by rw [HE.out]; rfl, by rw [HE.out]; exact own_nil _ _, fin HB.out HB2.out⟩
  | true =>
    have HG := Lib.hid (goodB hv)
    have hns8 := (goodB hv).ns
    have HNN : Hid (B.D.n ≤ 1000) := by have := (goodB hv).nn; unfold Hid; omega
    have HND := Lib.hid HBK.out.nodes
    cases hx : (decide (0 ≤ y) && decide (y < B.D.n)) with
    | false =>
      have HXX := Lib.hid hx
      have HA : Hid (eAsk B false = 1) := by unfold Hid eAsk; rw [hv]; rfl
      have HE : Hid (eComes B y = ([], 1)) := by unfold Hid eComes; rw [hv, hx]; rfl
      clear hv hx
      go_enter Try.func50, Try.ntmps50
      go_wp2
      clear hws
      go_region_held3 (fun w' => (∀ b o, b < ws.heap.size → w'.cell? ⟨b, o, none⟩ = ws.cell? ⟨b, o, none⟩) ∧ Hid (Below ws.heap.size ws w')) (assumption) (first
        | (go_at_call 21; refine (isNodeNo_eq N _ B y _ _ (HBK.out.go HB0d.out) HXX.out).mono ?_; rintro e w1 ⟨rfl, hb1⟩; have S1 := old_of (bel HB0d.out hb1); have HB1 := S1.2; clear hb1)
        | (go_at_call 94; refine (ask_any N _ B _ _ (HBK.out.go HB1.out)).mono ?_; rintro e w2 ⟨rfl, hb2⟩; rw [HA.out]; have S2 := old_of (bel HB1.out hb2); have HB2 := S2.2; clear hb2))
      have HB2 := S2.2; have c2 := S2.1; clear S2 S0d
      go_wp2
      go_ret2
      exact ⟨.slice none 0 0, by rw [HE.out]; rfl, by rw [HE.out]; exact own_nil _ _, fin HB.out HB2.out⟩
    | true =>
      have HXX := Lib.hid hx
      have HA : Hid (eAsk B true = 0) := by unfold Hid eAsk; rw [hv]; rfl
      have HE : Hid (eComes B y = (sel (comesP B y.toNat) B.ns, 0)) := by unfold Hid eComes; rw [hv, hx]; rfl
      have hy0 : 0 ≤ y := by simp at hx; omega
      obtain ⟨d, hd⟩ : ∃ d : Nat, y = d := ⟨y.toNat, by omega⟩
      subst hd
      rw [Int.toNat_natCast] at HE
      clear hv hx hy0
      go_enter Try.func50, Try.ntmps50
      go_wp2
      clear hws
      go_region_held3 (fun w' => (∀ b o, b < ws.heap.size → w'.cell? ⟨b, o, none⟩ = ws.cell? ⟨b, o, none⟩) ∧ Hid (Below ws.heap.size ws w')) (assumption) (first
        | (go_at_call 21; refine (isNodeNo_eq N _ B _ _ _ (HBK.out.go HB0d.out) HXX.out).mono ?_; rintro e w1 ⟨rfl, hb1⟩; have S1 := old_of (bel HB0d.out hb1); have HB1 := S1.2; clear hb1)
        | (go_at_call 94; refine (ask_any N _ B _ _ (HBK.out.go HB1.out)).mono ?_; rintro e w2 ⟨rfl, hb2⟩; rw [HA.out]; have S2 := old_of (bel HB1.out hb2); have HB2 := S2.2; clear hb2))
      have HB2 := S2.2; have c2 := S2.1; clear S2 S0d
      go_wp2
      go_loopw [7, 8] (fun t i wr => ∃ k : Nat, k ≤ B.ns ∧ i = .int .i64 k ∧ Hid (OwnI ws.heap.size wr t (sel (comesP B d) k)) ∧ Hid (Below ws.heap.size ws wr)) (fun _ i _ => B.ns - (intOf i).toNat)
      case atStart => exact ⟨0, Nat.zero_le _, rfl, own_nil _ _, HB2⟩
      case round =>
        clear c2
        obtain ⟨k, hk, rfl, ho, HB3⟩ := hrel
        have c3 := (old_of HB3.out).1
        have hsz3 := Nat.lt_of_lt_of_le hsz HB3.out.size
        have HBr : Hid (Below wr.heap.size wr wr) := Below.refl _ _
        by_cases hkn : k < B.ns
        · obtain ⟨b, off, rfl, hbN, hr⟩ := (HBK.out.go HB3.out).sorts.cells (by omega)
          obtain ⟨ai, ci, hcell, hints⟩ := hr k hkn
          have HI := Lib.hid hints
          have HXK := Lib.hid (HG.out.X k hkn)
          have HN2 : Hid (N ≤ wr.heap.size) := (HBK.out.go HB3.out).1
          have HND2 := Lib.hid (HND.out.go HNS.out HB3.out)
          have hbw : b < wr.heap.size := Nat.lt_of_lt_of_le hbN HN2.out
          have hsl := sel_len (comesP B d) k
          have HWL : Hid ((ints (walk B.D (B.X k))).length ≤ 140737488351232) := by
            have e1 : (walk B.D (B.X k)).length ≤ B.D.n := walk_len HG.out.D HXK.out
            have := HNN.out
            unfold Hid; rw [ints_len]; omega
          have Srd := old_of HBr.out.drew; have HBrd := Srd.2
          clear hr hints
          cases hp : comesP B d k with
          | true =>
            have HP : Hid (sel (comesP B d) (k + 1) = sel (comesP B d) k ++ [(k : Int)]) := sel_hit hp
            have HPC := Lib.hid hp
            clear hp
            generalize sel (comesP B d) k = l at *
            go_wp2
            go_region_held3 (fun w' => (∀ b o, b < wr.heap.size → w'.cell? ⟨b, o, none⟩ = wr.cell? ⟨b, o, none⟩) ∧ Hid (Below wr.heap.size wr w')) (assumption) (first
              | (go_at_call 23; refine (walkOf_any N _ _ B.D B.nv B.V B.ns _ _ _ (HND2.out.go HN2.out HBrd.out) (HI.out.go HN2.out HBrd.out) (Nat.le_trans HN2.out HBrd.out.size) HG.out.D HXK.out HNN.out).mono ?_; rintro e w4 ⟨v4, rfl, ho4, hb4⟩; have HO4 := Lib.hid ho4; clear ho4; have S4 := old_of (bel HBrd.out hb4); have HB4 := S4.2; clear hb4)
              | (go_at_call 24; refine (in_any _ _ _ _ _ _ (HO4.out.ints HWL.out)).mono ?_; rw [anyB_list, ints_contains, show (walk B.D (B.X k)).contains d = true from HPC.out]; rintro e wq ⟨rfl, hwq⟩; rw [hwq]; clear hwq wq))
            have HB4 := S4.2
            have HB5 := Lib.hid (bel HB3.out HB4.out)
            have hown4 := own_below ho.out HB4.out
            have hs4 := HB5.out.size
            clear S4 Srd c3
            go_wp2_with (at_builtin; refine wpList_append_own _ rfl _ _ 22 rfl ws.heap.size 3 i0 (.int .i64 0) 1 8 Try.underlying22 hi hz0 hz1 hz2 rfl (by decide) _ _ _ rfl (hown4.alloc _) ⟨w4.heap.size, 0, none⟩ 1 1 [.int .i64 k] rfl rfl (cell_one_new _ _ _) (by simp [Value.oneCell']) (by unfold maxLen; omega) (by omega) (by simp; omega) ?_; intro v' w5 hown5 hgrow _)
            go_roundw
            case rel => exact ⟨k + 1, by omega, by go_num, by rw [HP.out]; unfold Hid OwnI; rw [List.length_append, List.map_append]; exact hown5, (HB5.out.alloc hs4 _).grown hgrow (by simp; omega) (fun j e => (hown4.lt j e).1)⟩
            case measure => simp [intOf]; omega
          | false =>
            have HP : Hid (sel (comesP B d) (k + 1) = sel (comesP B d) k) := sel_miss hp
            have HPC := Lib.hid hp
            clear hp
            generalize sel (comesP B d) k = l at *
            go_wp2
            go_region_held3 (fun w' => (∀ b o, b < wr.heap.size → w'.cell? ⟨b, o, none⟩ = wr.cell? ⟨b, o, none⟩) ∧ Hid (Below wr.heap.size wr w')) (assumption) (first
              | (go_at_call 23; refine (walkOf_any N _ _ B.D B.nv B.V B.ns _ _ _ (HND2.out.go HN2.out HBrd.out) (HI.out.go HN2.out HBrd.out) (Nat.le_trans HN2.out HBrd.out.size) HG.out.D HXK.out HNN.out).mono ?_; rintro e w4 ⟨v4, rfl, ho4, hb4⟩; have HO4 := Lib.hid ho4; clear ho4; have S4 := old_of (bel HBrd.out hb4); have HB4 := S4.2; clear hb4)
              | (go_at_call 24; refine (in_any _ _ _ _ _ _ (HO4.out.ints HWL.out)).mono ?_; rw [anyB_list, ints_contains, show (walk B.D (B.X k)).contains d = false from HPC.out]; rintro e wq ⟨rfl, hwq⟩; rw [hwq]; clear hwq wq))
            have HB4 := S4.2
            have HB5 := Lib.hid (bel HB3.out HB4.out)
            have HO5 := Lib.hid (own_below ho.out HB4.out)
            clear S4 Srd c3
            go_wp2
            go_roundw
            case rel => exact ⟨k + 1, by omega, by go_num, by rw [HP.out]; exact HO5.out, HB5⟩
            case measure => simp [intOf]; omega
        · have Hk : Hid (sel (comesP B d) k = sel (comesP B d) B.ns) := by unfold Hid; rw [show k = B.ns by omega]
          go_wp2
          go_ret2
          refine ⟨_, ?_, (show OwnI _ _ _ (eComes B d).1 by rw [HE.out, ← Hk.out]; exact own_mono ho.out HB.out.size), fin HB.out HB3.out⟩
          rw [HE.out]; rfl

end Go.Proofs.Ytbieglmpkljjjaa

namespace Go.Proofs.Ytbieglmpkljjjaa
open Go.RowKit Go.Shelf

attribute [local go_sem] Oper.semAt_some

set_option maxRecDepth 100000 in
set_option maxHeartbeats 4000000 in
theorem questions_any (N : Nat) (v u : Value) (B : KB) (n : Nat) (x : Nat → Int) (w : World) (h : BookAt N w v B) (hu : IntsAt w.heap.size w u n x) (hG : GoodB B) (hX : GoodX B.nv B.V n x) :
    Calls Try.prog 109 #[v, u] w fun e W' => e = .returned (.int .i64 ((walk B.D x).length - 1 : Int)) ∧ Below w.heap.size w W' := by
  obtain ⟨au, cu, rfl, _, _⟩ := id hu
  obtain ⟨hN, a1, z1, a2, z2, a3, z3, rfl, _⟩ := id h
  have HB := Lib.hid h
  have HU := Lib.hid hu
  have HG := Lib.hid hG
  have HX := Lib.hid hX
  clear h hu hG hX
  refine (callsIn_wide (n := 3)).1 ?_
  refine callsIn_of_wp_marks Try.func109 rfl trivial ?_ rfl
  simp only [Try.ntmps109, List.size_toArray, List.length_cons, List.length_nil, Nat.reduceAdd, Nat.reduceSub, Array.replicate_succ, Array.replicate_zero, List.push_toArray, List.append_toArray, List.nil_append, List.cons_append]
  gi_wp2_with (refine ⟨trivial, ?_⟩; gi_at_call 70; refine (callsIn_wide.2 (kwalk_any _ _ _ _ _ _ _)).mono ?_; rintro e w' ⟨rfl, rfl⟩)
  obtain ⟨ws, hws, HBs, hsz, k0, k1, k2, k3⟩ := allocs4 w (.cells #[.slice a1 B.nv z1, .slice a2 B.ns z2, .slice a3 B.D.n z3] 26) (.cells #[.int .i64 (-1)] 3) (.cells #[.slice a1 B.nv z1, .slice a2 B.ns z2, .slice a3 B.D.n z3] 26) (.cells #[.slice au n cu] 22)
  rw [hws]
  clear hws
  have HBK := Lib.hid (HB.out.go HBs.out)
  have HUS := Lib.hid (HU.out.go (Nat.le_refl _) HBs.out)
  have hND := HBK.out.nodes
  obtain ⟨bn, on, rfl, hbn, hrn⟩ := hND.cells HG.out.D.n1
  have hseq := walk1_seq 2 (by omega) (w.heap.size + 2) (w.heap.size + 3) N B.D B.nv B.V B.ns n x (fun k => k < ws.heap.size ∧ k ≠ w.heap.size + 1) (Kept fun k => k < ws.heap.size ∧ k ≠ w.heap.size + 1) (fun _ _ h => h) ws (.slice a1 B.nv z1) (.slice a2 B.ns z2) _ z3 au cu
    (cell_blk k2 2 rfl) (cell_blk k3 0 rfl) hND (fun h0 => by obtain ⟨bu, ou, e, h1, h2⟩ := HUS.out.cells h0; exact ⟨bu, ou, e, ⟨by omega, by omega⟩, h2⟩)
    (fun k hk => ⟨by omega, by omega⟩) ⟨by omega, by omega⟩ ⟨by omega, by omega⟩ (fun k hk => hk.1) HG.out.D HX.out
  have HRN := Lib.hid hrn
  have HSEQ := Lib.hid hseq
  have K0 := Lib.hid k0
  have K1 := Lib.hid k1
  clear hND hrn hseq k0 k1 k2 k3
  refine rangeL (w := ws) rfl (by omega) (gf := 107) (lb := #[.pointer (some ⟨w.heap.size + 1 + 1, 0, none⟩), .pointer (some ⟨w.heap.size + 1 + 1 + 1, 0, none⟩)]) rfl trivial (enters_of Try.func107 (by kernel_rfl) rfl) HSEQ.out
    (fun h k => Kept.trans h k) (fun W l o o' hl _ _ k hk => World.putObj_heap_other (by omega)) (Below.refl _ _) (fun _ => rfl) new_cells
    (BoxI ws (w.heap.size + 1) (w.heap.size + 1) 3 (fun pre => #[.int .i64 ((pre.length : Int) - 1)])) (fun _ _ _ => False)
    (fun s => BoxI.rec' (by omega) (by omega) s) (fun _ _ _ _ _ _ h _ _ _ => h) (fun _ _ _ _ _ h _ _ _ => h)
    (fun W s A C hW hs hk => BoxI.new hs (by have := hs.size; omega) hk) (fun _ _ _ _ _ _ h _ => h) (fun s A o hs => BoxI.new hs (by have := hs.size; omega) (World.grownBy_alloc _ _ _)) ⟨by simpa using K1.out, Below.refl _ _⟩ (fun W => Kept.refl _ W)
    (fun k => { tmps := #[.agg #[.slice a1 B.nv z1, .slice a2 B.ns z2, .slice (some ⟨bn, on, none⟩) B.D.n z3], .slice au n cu, .pointer (some ⟨w.heap.size, 0, none⟩), undef, .int .i64 0, .pointer (some ⟨w.heap.size + 1, 0, none⟩), .agg #[.slice a1 B.nv z1, .slice a2 B.ns z2, .slice (some ⟨bn, on, none⟩) B.D.n z3], .slice au n cu, .func (.func 107) #[] #[.pointer (some ⟨w.heap.size + 1 + 1, 0, none⟩), .pointer (some ⟨w.heap.size + 1 + 1 + 1, 0, none⟩)], .int .i64 (k : Int), undef, undef, undef], defers := [] }) ?assign ?body ?done ?stop
  case assign =>
    intro l x W K hK
    gi_wp2
    simpa using hK
  case body =>
    intro l pre k W hl hrec hs hk hpl
    have hc := hs.cell 0 rfl
    have hf := hs.free 0
    have HS := Lib.hid hs
    have hnn := HG.out.nn
    have hpn : pre.length < B.D.n := hpl
    have HP : Hid ((((pre ++ [k]).length : Nat) : Int) - 1 = (pre.length : Int)) := by unfold Hid; rw [List.length_append, List.length_singleton]; omega
    clear hs
    gi_wp2
    exact ⟨(KeepsOthers.setCell _ _ _).from _, fun j hj => Below.heap_setCell _ _ _ _ hj.2, HS.out.store (Nat.le_refl _) 0 _ (by rw [HP.out]; rfl)⟩
  case done =>
    rintro D ys W hD rfl hs hK
    have hc := hs.cell 0 rfl
    gi_wp2
    refine ⟨by simp, .inl ⟨_, _, rfl, run_takeDeferred hK, ?_⟩⟩
    exact ⟨_, results_tmp rfl _ _ _, rfl, (HBs.out.trans (hs.2.mono (by omega))).trans (belowK_b (w := w) (Nat.le_refl _) W D _ _ (by omega) hK rfl rfl)⟩
  case stop =>
    rintro D c pre W hD _ h _
    exact h.elim

end Go.Proofs.Ytbieglmpkljjjaa
