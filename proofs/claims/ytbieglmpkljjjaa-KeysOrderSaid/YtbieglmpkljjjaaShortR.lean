/-
  ShortR: short of the reference.
-/
import Derived.Test.YtbieglmpkljjjaaShort0
import Derived.Test.YtbieglmpkljjjaaLBox
import Derived.Test.YtbieglmpkljjjaaFew
namespace Go.Proofs.Ytbieglmpkljjjaa
open Go.RowKit

theorem own_rows {w4 W : World} {base : Nat} {v : Value} {vals : List Value} {L : Nat → Nat} {X : Nat → Nat → Int} (HO : W.ownsRow base 22 1 v vals.length vals)
    (HR : ∀ j u, vals[j]? = some u → IntsAt w4.heap.size w4 u (L j) (X j)) (hB : Below w4.heap.size w4 W) (hn : vals.length ≤ 140737488351232) : RowsAt W.heap.size W v vals.length L X := by
  obtain ⟨h1, ⟨rfl, h2⟩ | ⟨g, cap, cur, rfl, h3, h4, h5, h6, h7, h8⟩⟩ := HO
  · exact ⟨none, 0, by rw [h2], hn, fun h0 => by omega⟩
  · refine ⟨_, cap, rfl, hn, fun _ => ⟨g, 0, rfl, (Array.getElem?_eq_some_iff.1 h4).1, fun i hi => ⟨vals[i], ?_, (HR _ _ (List.getElem?_eq_getElem hi)).mono hB hB.size⟩⟩⟩
    have hh := World.ownsRow.cells (w := W) (base := base) (e := 22) (size := 1) (v := .slice (some ⟨g, 0, none⟩) vals.length cap) (n := vals.length) (xs := vals) ⟨h1, .inr ⟨g, cap, cur, rfl, h3, h4, h5, h6, h7, h8⟩⟩ rfl i vals[i] (List.getElem?_eq_getElem hi)
    rw [addrAdd] at hh
    exact hh

/-- a list of fruits -/
def ZsAt (N : Nat) (w : World) (v : Value) (n : Nat) (zs : List (List Int)) : Prop := RowsAt N w v zs.length (fun _ => n) (fun i => atL (zs.getD i []))
theorem orI_bits : ∀ s : Fin 32, ∀ i : Fin 5, bits BinOp.or IntKind.i64 (s.val : Int) (IntKind.i64.wrap (2 ^ i.val)) = (put1 s.val i.val : Nat) := by decide +kernel
theorem put1_lt32 : ∀ s : Fin 32, ∀ i : Fin 5, put1 s.val i.val < 32 := by decide +kernel

theorem cubeF_ne {B : KB} (hG : GoodB B) {c : Nat → Int} (h : CubeOk B c) : cubeF B c ≠ [] := by
  intro e
  have hin := zeroC_in (c := c) (V := B.V) (k := B.nv) (fun i hi => by have := (hG.V i hi).1; omega) h.val
  have hat : ∀ i, i < B.nv → atL (fromF B.nv (zeroC c)) i = zeroC c i := fun i hi => by simp [atL, fromF, hi]
  have hm : fromF B.nv (zeroC c) ∈ cubeF B c := by
    refine cubeF_mem.2 ⟨(allF_mem B _).2 ⟨fromF_len _ _, fun i hi => ?_⟩, fun i hi => ?_⟩
    · rw [hat i hi]
      exact ⟨(hin i hi).1, (hin i hi).2.1, fun h' => absurd rfl h'⟩
    · rw [hat i hi]
      rcases h.val i hi with h1 | ⟨h1, h2⟩
      · exact .inl h1
      · right; unfold zeroC; omega
  rw [e] at hm
  cases hm
theorem cubeF_len {B : KB} (hG : GoodB B) (c : Nat → Int) : (cubeF B c).length ≤ 243 := by
  have h1 := frl_le B.V B.nv (fun i hi => (hG.V i hi).2) B.nv [] (by simp)
  have h2 : (allF B).length ≤ 243 := Nat.le_trans h1 (Nat.pow_le_pow_right (n := 3) (by omega) hG.nv)
  exact Nat.le_trans (List.length_filter_le _ _) h2
theorem cubeF_good {B : KB} {c : Nat → Int} {z : List Int} (h : z ∈ cubeF B c) : z.length = B.nv ∧ GoodX B.nv B.V B.nv (atL z) := by
  obtain ⟨h1, h2⟩ := (allF_mem B z).1 (cubeF_mem.1 h).1
  exact ⟨h1, inC_goodX h2⟩

/-- what short says -/
def SaysRS (B : KB) (f : Nat) : Prop := ∀ (c : Nat → Int) (N M a : Nat) (v u : Value) (w : World), CubeOk B c → freeC B c ≤ f → BookAt N w v B → M ≤ w.heap.size → ZsAt M w u B.nv (cubeF B c) → a < 32 → (∀ i, i < B.nv → a.testBit i = !decide (c i = -1)) →
    Calls Try.prog 95 #[v, u, .int .i64 a] w fun e w' => e = .returned (.int .i64 (costC B f c)) ∧ Below w.heap.size w w'

def firstS (B : KB) (zs : List (List Int)) (z0 : List Int) (k : Nat) : Bool := (zs.take k).all fun z => decide (endZ B z = endZ B z0)
theorem firstS_zero (B : KB) (zs : List (List Int)) (z0 : List Int) : firstS B zs z0 0 = true := by simp [firstS]
theorem firstS_succ {B : KB} {zs : List (List Int)} {z0 z : List Int} {k : Nat} (h : zs[k]? = some z) : firstS B zs z0 (k + 1) = (firstS B zs z0 k && decide (endZ B z = endZ B z0)) := by
  unfold firstS
  rw [List.take_add_one, h, List.all_append]
  simp
theorem firstS_all {B : KB} {zs : List (List Int)} {z0 : List Int} (h : zs[0]? = some z0) : firstS B zs z0 zs.length = sameZ B zs := by
  unfold firstS sameZ
  rw [List.take_length]
  cases zs with
  | nil => cases h
  | cons a l => injection h with h; subst h; rfl
/-- those of the first j fruits that have a value of a mark -/
def idxF (zs : List (List Int)) (m : Nat) (v : Int) (j : Nat) : List Nat := (List.range j).filter fun i => decide (atL (zs.getD i []) m = v)
theorem idxF_hit {zs : List (List Int)} {m : Nat} {v : Int} {j : Nat} (h : atL (zs.getD j []) m = v) : idxF zs m v (j + 1) = idxF zs m v j ++ [j] := by
  unfold idxF
  rw [List.range_succ, List.filter_append]
  simp only [List.getD] at h
  simp [h]
theorem idxF_miss {zs : List (List Int)} {m : Nat} {v : Int} {j : Nat} (h : ¬ atL (zs.getD j []) m = v) : idxF zs m v (j + 1) = idxF zs m v j := by
  unfold idxF
  rw [List.range_succ, List.filter_append]
  simp only [List.getD] at h
  simp [h]
theorem idxF_len (zs : List (List Int)) (m : Nat) (v : Int) (j : Nat) : (idxF zs m v j).length ≤ j := by
  unfold idxF
  have := List.length_filter_le (fun i => decide (atL (zs.getD i []) m = v)) (List.range j)
  rw [List.length_range] at this
  exact this
theorem idxF_lt {zs : List (List Int)} {m : Nat} {v : Int} {j i : Nat} (h : i ∈ idxF zs m v j) : i < j := by
  unfold idxF at h
  exact List.mem_range.1 (List.mem_filter.1 h).1
theorem range_getD {zs : List (List Int)} : (List.range zs.length).map (fun i => zs.getD i []) = zs := by
  refine List.ext_getElem (by simp) fun i h1 h2 => ?_
  simp [List.getD, h2]
theorem idxF_all (zs : List (List Int)) (m : Nat) (v : Int) : (idxF zs m v zs.length).map (fun i => zs.getD i []) = zs.filter fun z => decide (atL z m = v) := by
  unfold idxF
  have h := List.filter_map (p := fun z : List Int => decide (atL z m = v)) (f := fun i : Nat => zs.getD i []) (l := List.range zs.length)
  rw [range_getD] at h
  rw [h]
  rfl

end Go.Proofs.Ytbieglmpkljjjaa

namespace Go.Proofs.Ytbieglmpkljjjaa
open Go.RowKit

set_option maxHeartbeats 8000000 in
set_option maxRecDepth 100000 in
theorem rshort_step (B : KB) (hG : GoodB B) (f : Nat) (hrec : ∀ g, f = g + 1 → SaysRS B g) : SaysRS B f := by
  intro c N M a v u w hc hfr h hM hz ha hbits
  obtain ⟨i1, hi1, hz1, hz2, hz3⟩ := info_parts Try.infoInts
  have hne := cubeF_ne hG hc
  have hlen := cubeF_len hG c
  have hgood : Hid (∀ z, z ∈ cubeF B c → z.length = B.nv ∧ GoodX B.nv B.V B.nv (atL z)) := fun z hz => cubeF_good hz
  obtain ⟨zs, hzs⟩ : ∃ zs, cubeF B c = zs := ⟨_, rfl⟩
  have HZS := Lib.hid hzs
  rw [hzs] at hz hne hlen hgood
  obtain ⟨n, hn⟩ : ∃ n, zs.length = n := ⟨_, rfl⟩
  have HN := Lib.hid hn
  have hn0 : 0 < n := by rw [← hn]; exact List.length_pos_iff.2 hne
  rw [hn] at hlen
  obtain ⟨au, cu, rfl, _, _⟩ := id hz
  have h' := h
  obtain ⟨_, a1, z1, a2, z2, a3, z3, rfl, _⟩ := h'
  obtain ⟨ws, hws, HB, hsz, hblk⟩ := box1 w (.cells #[.slice a1 B.nv z1, .slice a2 B.ns z2, .slice a3 B.D.n z3] 26)
  have q0 := cell_blk hblk 0 rfl
  have q1 := cell_blk hblk 1 rfl
  have q2 := cell_blk hblk 2 rfl
  have HBK := Lib.hid (h.go HB.out)
  have HB0 : Hid (Below ws.heap.size ws ws) := Below.refl _ _
  have HNS : Hid (N ≤ ws.heap.size) := HBK.out.1
  have hlens := h.lens
  obtain ⟨hlv, hls, hln⟩ := hlens
  clear hblk h
  have hMs : M ≤ ws.heap.size := Nat.le_trans hM HB.out.size
  obtain ⟨bu, ou, rfl, hbu, hcu⟩ := (RowsAt.mono hz (HB.out.mono hM) (Nat.le_refl _)).cells (by rw [hn]; exact hn0)
  rw [hn]
  have HR : Hid (∀ (i : Nat) (z : List Int), zs[i]? = some z → ∃ ai ci, ws.cell? ⟨bu, ou + i, none⟩ = some (.slice ai B.nv ci) ∧ GoodX B.nv B.V B.nv (atL z) ∧ ∀ wk : World, Below ws.heap.size ws wk → IntsAt ws.heap.size wk (.slice ai B.nv ci) B.nv (atL z)) := fun i z hz => by
    have hi := (List.getElem?_eq_some_iff.1 hz).1
    obtain ⟨ai, ci, h1, h2⟩ := hcu i hi
    have e : zs.getD i [] = z := by simp [List.getD, hz]
    rw [e] at h2
    exact ⟨ai, ci, h1, (hgood.out z (List.mem_of_getElem? hz)).2, fun wk hb => h2.mono (hb.mono hMs) hMs⟩
  have hbus : bu < ws.heap.size := Nat.lt_of_lt_of_le hbu hMs
  have HNK : Hid (∀ wk : World, Below ws.heap.size ws wk → NodesAt ws.heap.size wk (.slice a3 B.D.n z3) B.D) := fun wk hb => (HBK.out.nodes.mono (hb.mono HNS.out) HNS.out)
  have HG := Lib.hid hG
  have HC := Lib.hid hc
  have HREC := Lib.hid hrec
  have HBITS := Lib.hid hbits
  have hnn := hG.nn
  have hnv5 := hG.nv
  have hnv1 := hG.nv1
  obtain ⟨z0, hz0⟩ : ∃ z, zs[0]? = some z := ⟨_, List.getElem?_eq_getElem (by rw [hn]; exact hn0)⟩
  obtain ⟨a0, c0, hc0, hg0, hk0⟩ := HR.out 0 z0 hz0
  have hc0' : ws.cell? ⟨bu, ou, none⟩ = some (.slice a0 B.nv c0) := hc0
  have HG0 := Lib.hid hg0
  have HK0 := Lib.hid hk0
  have HZ0 := Lib.hid hz0
  have hn0i : (0 : Int) < (n : Int) := by omega
  obtain ⟨e0, he0⟩ : ∃ e, endZ B z0 = e := ⟨_, rfl⟩
  have HE0 : Hid (endOf B.D (atL z0) = e0) := he0
  clear hG hc hrec hbits hzs hne hcu hz hn hc0 hg0 hk0 hz0
  obtain ⟨b1, o1, rfl, hb1, hv1⟩ := HBK.out.vals.cells (by omega)
  have HV1 := Lib.hid hv1
  have hw1 : IntKind.i64.wrap ((B.nv : Int) + 1) = (B.nv : Int) + 1 := IntWalk.i64_in _ (by omega)
  have hb1s : b1 < ws.heap.size := Nat.lt_of_lt_of_le hb1 HNS.out
  clear hv1
  go_enter Try.func95, Try.ntmps95
  go_wp2
  (try rw [hws])
  clear hws
  go_loopw [7, 8] (fun s i wr => ∃ k : Nat, k ≤ n ∧ i = .int .i64 k ∧ s = .bool (firstS B zs z0 k) ∧ Hid (Below ws.heap.size ws wr)) (fun _ i _ => n - (intOf i).toNat)
  case atStart => exact ⟨0, Nat.zero_le _, rfl, by rw [firstS_zero], HB0⟩
  case round =>
  obtain ⟨k, hk, rfl, rfl, HBr⟩ := hrel
  by_cases hkn : k < n
  · have hki : (k : Int) < (n : Int) := by omega
    obtain ⟨z, hz⟩ : ∃ z, zs[k]? = some z := ⟨_, List.getElem?_eq_getElem (by rw [HN.out]; exact hkn)⟩
    obtain ⟨ak, ck, hck, hgk, hkk⟩ := HR.out k z hz
    have HGK := Lib.hid hgk
    have HKK := Lib.hid hkk
    have HKN := Lib.hid hkn
    have HS := Lib.hid (firstS_succ (B := B) (z0 := z0) hz)
    obtain ⟨e1, he1⟩ : ∃ e, endZ B z = e := ⟨_, rfl⟩
    have HE1 : Hid (endOf B.D (atL z) = e1) := he1
    rw [he0, he1] at HS
    clear hgk hkk hkn hz he1 hk
    cases hsb : firstS B zs z0 k with
    | false =>
      rw [hsb] at HS
      have HS1 : Hid (firstS B zs z0 (k + 1) = false) := HS.out
      clear HS hsb
      have HBrd := Lib.hid HBr.out.drew
      go_wp2
      go_region
      go_wp2
      go_roundw
      case rel => first | exact ⟨k + 1, HKN.out, by go_num, by rw [HS1.out], HBrd⟩ | exact ⟨k + 1, HKN.out, by go_num, by rw [HS1.out]⟩
      case measure => simp [intOf]; have := HKN.out; omega
    | true =>
      rw [hsb] at HS
      have HS1 : Hid (firstS B zs z0 (k + 1) = (e1 == e0)) := by unfold Hid; rw [HS.out, Bool.true_and, Bool.eq_iff_iff]; simp
      clear HS hsb
      have HIK : Hid (∀ wk : World, Below wr.heap.size wr wk → IntsAt wr.heap.size wk (.slice ak B.nv ck) B.nv (atL z) ∧ IntsAt wr.heap.size wk (.slice a0 B.nv c0) B.nv (atL z0) ∧ NodesAt wr.heap.size wk (.slice a3 B.D.n z3) B.D) := fun wk hb =>
        ⟨((HKK.out wr HBr.out).mono (hb.mono HBr.out.size) HBr.out.size), ((HK0.out wr HBr.out).mono (hb.mono HBr.out.size) HBr.out.size), ((HNK.out wr HBr.out).mono (hb.mono HBr.out.size) HBr.out.size)⟩
      have cr := (old_of HBr.out).1
      have hckr := (cr _ _ hbus).trans hck
      have hc0r := (cr _ _ hbus).trans hc0'
      have q2r := (cr _ 2 hsz).trans q2
      have hwr : w.heap.size < wr.heap.size := Nat.lt_of_lt_of_le hsz HBr.out.size
      have hbr : bu < wr.heap.size := Nat.lt_of_lt_of_le hbus HBr.out.size
      have HBy : Hid (Below wr.heap.size wr wr) := Below.refl _ _
      clear cr
      have Syd := old_of HBy.out.drew; have HByd := Syd.2
      go_upto_region 5 with fail
      refine wp_region_held_drew (S := (fun w' => (∀ b o, b < wr.heap.size → w'.cell? ⟨b, o, none⟩ = wr.cell? ⟨b, o, none⟩) ∧ Hid (Below wr.heap.size wr w'))) (by kernel_rfl) Syd (fun hHeld => ?_)
      (refine wpAnyH_take (i := 0) (v := ?_) rfl (by kernel_rfl) (by kernel_rfl) (by kernel_rfl) (fun _ _ _ h => h) (Or.inl ⟨by rfl, ?_⟩) (by assumption) ?_; rotate_left; (focus (intro w hSw; (try dsimp only at hSw); go_simp; (try with_reducible rfl))); (try simp only [List.getElem_toArray, List.getElem_cons_zero, List.getElem_cons_succ, Act.put, List.setIfInBounds_toArray, List.set_cons_zero, List.set_cons_succ])); (refine wpAnyH_take (i := 1) (v := ?_) rfl (by kernel_rfl) (by kernel_rfl) (by kernel_rfl) (fun _ _ _ h => h) (Or.inl ⟨by rfl, ?_⟩) (by assumption) ?_; rotate_left; (focus (intro w hSw; (try dsimp only at hSw); go_simp; (try with_reducible rfl))); (try simp only [List.getElem_toArray, List.getElem_cons_zero, List.getElem_cons_succ, Act.put, List.setIfInBounds_toArray, List.set_cons_zero, List.set_cons_succ])); (refine wpAnyH_take (i := 2) (v := ?_) rfl (by kernel_rfl) (by kernel_rfl) (by kernel_rfl) (fun _ _ _ h => h) (Or.inl ⟨by rfl, ?_⟩) (by assumption) ?_; rotate_left; (focus (intro w hSw; (try dsimp only at hSw); go_simp; (try with_reducible rfl))); (try simp only [List.getElem_toArray, List.getElem_cons_zero, List.getElem_cons_succ, Act.put, List.setIfInBounds_toArray, List.set_cons_zero, List.set_cons_succ])); (refine wpAnyH_take (i := 3) (v := ?_) rfl (by kernel_rfl) (by kernel_rfl) (by kernel_rfl) (fun _ _ _ h => h) (Or.inl ⟨by rfl, ?_⟩) (by assumption) ?_; rotate_left; (focus (intro w hSw; (try dsimp only at hSw); go_simp; (try with_reducible rfl))); (try simp only [List.getElem_toArray, List.getElem_cons_zero, List.getElem_cons_succ, Act.put, List.setIfInBounds_toArray, List.set_cons_zero, List.set_cons_succ])); (refine wpAnyH_take (i := 4) (v := ?_) rfl (by kernel_rfl) (by kernel_rfl) (by kernel_rfl) (fun _ _ _ h => h) (Or.inl ⟨by rfl, ?_⟩) (by assumption) ?_; rotate_left; (focus (intro w hSw; (try dsimp only at hSw); go_simp; (try with_reducible rfl))); (try simp only [List.getElem_toArray, List.getElem_cons_zero, List.getElem_cons_succ, Act.put, List.setIfInBounds_toArray, List.set_cons_zero, List.set_cons_succ])); (refine wpAnyH_take (i := 5) (v := ?_) rfl (by kernel_rfl) (by kernel_rfl) (by kernel_rfl) (fun _ _ _ h => h) (Or.inl ⟨by rfl, ?_⟩) (by assumption) ?_; rotate_left; (focus (intro w hSw; (try dsimp only at hSw); go_simp; (try with_reducible rfl))); (try simp only [List.getElem_toArray, List.getElem_cons_zero, List.getElem_cons_succ, Act.put, List.setIfInBounds_toArray, List.set_cons_zero, List.set_cons_succ])); (refine wpAnyH_take (i := 6) (v := ?_) rfl (by kernel_rfl) (by kernel_rfl) (by kernel_rfl) (fun _ _ _ h => h) (Or.inl ⟨by rfl, ?_⟩) (by assumption) ?_; rotate_left; (focus (intro w hSw; (try dsimp only at hSw); go_simp; (try with_reducible rfl))); (try simp only [List.getElem_toArray, List.getElem_cons_zero, List.getElem_cons_succ, Act.put, List.setIfInBounds_toArray, List.set_cons_zero, List.set_cons_succ])); (refine wpAnyH_take (i := 7) (v := ?_) rfl (by kernel_rfl) (by kernel_rfl) (by kernel_rfl) (fun _ _ _ h => h) (Or.inl ⟨by rfl, ?_⟩) (by assumption) ?_; rotate_left; (focus (intro w hSw; (try dsimp only at hSw); go_simp; (try with_reducible rfl))); (try simp only [List.getElem_toArray, List.getElem_cons_zero, List.getElem_cons_succ, Act.put, List.setIfInBounds_toArray, List.set_cons_zero, List.set_cons_succ]))
      (refine wpAnyH_take (i := 9) (v := ?_) rfl (by kernel_rfl) (by kernel_rfl) (by kernel_rfl) (fun _ _ _ h => h) (Or.inl ⟨by rfl, ?_⟩) (by assumption) ?_; rotate_left; (focus (intro w hSw; (try dsimp only at hSw); go_simp; (try with_reducible rfl))); (try simp only [List.getElem_toArray, List.getElem_cons_zero, List.getElem_cons_succ, Act.put, List.setIfInBounds_toArray, List.set_cons_zero, List.set_cons_succ])); (refine wpAnyH_take (i := 10) (v := ?_) rfl (by kernel_rfl) (by kernel_rfl) (by kernel_rfl) (fun _ _ _ h => h) (Or.inl ⟨by rfl, ?_⟩) (by assumption) ?_; rotate_left; (focus (intro w hSw; (try dsimp only at hSw); go_simp; (try with_reducible rfl))); (try simp only [List.getElem_toArray, List.getElem_cons_zero, List.getElem_cons_succ, Act.put, List.setIfInBounds_toArray, List.set_cons_zero, List.set_cons_succ])); (refine wpAnyH_take (i := 11) (v := ?_) rfl (by kernel_rfl) (by kernel_rfl) (by kernel_rfl) (fun _ _ _ h => h) (Or.inl ⟨by rfl, ?_⟩) (by assumption) ?_; rotate_left; (focus (intro w hSw; (try dsimp only at hSw); go_simp; (try with_reducible rfl))); (try simp only [List.getElem_toArray, List.getElem_cons_zero, List.getElem_cons_succ, Act.put, List.setIfInBounds_toArray, List.set_cons_zero, List.set_cons_succ])); (refine wpAnyH_take (i := 12) (v := ?_) rfl (by kernel_rfl) (by kernel_rfl) (by kernel_rfl) (fun _ _ _ h => h) (Or.inl ⟨by rfl, ?_⟩) (by assumption) ?_; rotate_left; (focus (intro w hSw; (try dsimp only at hSw); go_simp; (try with_reducible rfl))); (try simp only [List.getElem_toArray, List.getElem_cons_zero, List.getElem_cons_succ, Act.put, List.setIfInBounds_toArray, List.set_cons_zero, List.set_cons_succ])); (refine wpAnyH_take (i := 13) (v := ?_) rfl (by kernel_rfl) (by kernel_rfl) (by kernel_rfl) (fun _ _ _ h => h) (Or.inl ⟨by rfl, ?_⟩) (by assumption) ?_; rotate_left; (focus (intro w hSw; (try dsimp only at hSw); go_simp; (try with_reducible rfl))); (try simp only [List.getElem_toArray, List.getElem_cons_zero, List.getElem_cons_succ, Act.put, List.setIfInBounds_toArray, List.set_cons_zero, List.set_cons_succ]))
      refine wpAnyH_ready (rs := [8]) (by kernel_rfl) (by simp) ?_; refine AllReadyH.cons rfl (fun K hK => ?_) AllReadyH.nil; go_simp
      go_at_call 25
      refine (endOf_any wr.heap.size _ _ B.D B.nv B.V B.ns B.nv (atL z) _ (HIK.out _ HByd.out).2.2 (HIK.out _ HByd.out).1 HByd.out.size HG.out.D HGK.out (by omega)).mono ?_; rw [HE1.out]; rintro e w6 ⟨rfl, hb6⟩; have S6 := old_of (bel HByd.out hb6); have HB6 := S6.2; clear hb6
      refine hK.out _ _ S6 (fun hHeld => ?_); clear hK K; (try simp only [List.getElem_toArray, List.getElem_cons_zero, List.getElem_cons_succ, Act.put, List.setIfInBounds_toArray, List.set_cons_zero, List.set_cons_succ])
      refine wpAnyH_ready (rs := [14]) (by kernel_rfl) (by simp) ?_; refine AllReadyH.cons rfl (fun K hK => ?_) AllReadyH.nil; go_simp
      go_at_call 25
      refine (endOf_any wr.heap.size _ _ B.D B.nv B.V B.ns B.nv (atL z0) _ (HIK.out _ HB6.out).2.2 (HIK.out _ HB6.out).2.1 HB6.out.size HG.out.D HG0.out (by omega)).mono ?_; rw [HE0.out]; rintro e w7 ⟨rfl, hb7⟩; have S7 := old_of (bel HB6.out hb7); have HB7 := S7.2; clear hb7
      refine hK.out _ _ S7 (fun hHeld => ?_); clear hK K; (try simp only [List.getElem_toArray, List.getElem_cons_zero, List.getElem_cons_succ, Act.put, List.setIfInBounds_toArray, List.set_cons_zero, List.set_cons_succ])
      (refine wpAnyH_take (i := 15) (v := ?_) rfl (by kernel_rfl) (by kernel_rfl) (by kernel_rfl) (fun _ _ _ h => h) (Or.inl ⟨by rfl, ?_⟩) (by assumption) ?_; rotate_left; (focus (intro w hSw; (try dsimp only at hSw); go_simp; (try with_reducible rfl))); (try simp only [List.getElem_toArray, List.getElem_cons_zero, List.getElem_cons_succ, Act.put, List.setIfInBounds_toArray, List.set_cons_zero, List.set_cons_succ])); (refine wpAnyH_take (i := 16) (v := ?_) rfl (by kernel_rfl) (by kernel_rfl) (by kernel_rfl) (fun _ _ _ h => h) (Or.inl ⟨by rfl, ?_⟩) (by assumption) ?_; rotate_left; (focus (intro w hSw; (try dsimp only at hSw); go_simp; (try with_reducible rfl))); (try simp only [List.getElem_toArray, List.getElem_cons_zero, List.getElem_cons_succ, Act.put, List.setIfInBounds_toArray, List.set_cons_zero, List.set_cons_succ])); (refine wpAnyH_take (i := 17) (v := ?_) rfl (by kernel_rfl) (by kernel_rfl) (by kernel_rfl) (fun _ _ _ h => h) (Or.inl ⟨by rfl, ?_⟩) (by assumption) ?_; rotate_left; (focus (intro w hSw; (try dsimp only at hSw); go_simp; (try with_reducible rfl))); (try simp only [List.getElem_toArray, List.getElem_cons_zero, List.getElem_cons_succ, Act.put, List.setIfInBounds_toArray, List.set_cons_zero, List.set_cons_succ]))
      refine wpAnyH_done (by kernel_rfl) ?_ _; clear hHeld
      clear S6 S7 Syd
      have HBn : Hid (Below ws.heap.size ws w7) := Lib.hid (bel HBr.out HB7.out)
      go_wp2
      go_roundw
      case rel => first | exact ⟨k + 1, HKN.out, by go_num, by rw [HS1.out], HBn⟩ | exact ⟨k + 1, HKN.out, by go_num, by rw [HS1.out]⟩
      case measure => simp [intOf]; have := HKN.out; omega
  · have hki : ¬ (k : Int) < (n : Int) := by omega
    have hke : k = n := by omega
    subst hke
    have hall : firstS B zs z0 k = sameZ B zs := by rw [← HN.out]; exact firstS_all HZ0.out
    rw [hall]
    cases hsm : sameZ B zs with
    | true =>
      have HCC : Hid (costC B f c = 0) := by
        unfold Hid
        cases f with
        | zero => rfl
        | succ g => simp only [costC]; rw [HZS.out, hsm, if_pos rfl]
      clear hsm hall
      go_wp2
      go_ret
      exact ⟨by rw [HCC.out]; rfl, fin HB.out HBr.out⟩
    | false =>
      obtain ⟨g, rfl⟩ : ∃ g, f = g + 1 := by
        cases f with
        | zero => exact absurd (same_full (B := B) (c := c) (by omega)) (by rw [HZS.out, hsm]; simp)
        | succ g => exact ⟨g, rfl⟩
      have HCC : Hid (costC B (g + 1) c = bestM B (costC B g) c B.nv) := by unfold Hid; simp only [costC]; rw [HZS.out, hsm, if_neg (by simp)]
      have HRC := Lib.hid (HREC.out g rfl)
      clear hsm hall
      obtain ⟨K, hK⟩ : ∃ K, costC B g = K := ⟨_, rfl⟩
      have HKE := Lib.hid hK
      rw [hK] at HCC
      have cr := (old_of HBr.out).1
      clear hK
      go_wp2
      go_loopw [9, 10] (fun t i wr => ∃ m : Nat, m ≤ B.nv ∧ i = .int .i64 m ∧ t = .int .i64 (bestM B K c m) ∧ Hid (Below ws.heap.size ws wr)) (fun _ i _ => B.nv - (intOf i).toNat)
      case atStart => exact ⟨0, Nat.zero_le _, rfl, rfl, HBr⟩
      case round =>
      clear HBr cr
      obtain ⟨m, hm, rfl, rfl, HBm⟩ := hrel
      have cm := (old_of HBm.out).1
      by_cases hmn : m < B.nv
      · have hmi : (m : Int) < (B.nv : Int) := by omega
        have hbit := has_bitsI ⟨a, by omega⟩ ⟨m, by omega⟩
        simp only at hbit
        rw [HBITS.out m hmn] at hbit
        have hmin : min m 64 = m := by omega
        have hm0 : ¬ (m : Int) < 0 := by omega
        have HMN := Lib.hid hmn
        by_cases hcm : c m = -1
        · have hbit0 : (bits BinOp.and IntKind.i64 ((a : Int) / 2 ^ m) 1 == 1) = false := by rw [hbit]; simp [hcm]
          have HCM := Lib.hid hcm
          obtain ⟨b0, hb0⟩ : ∃ z, bestM B K c m = z := ⟨_, rfl⟩
          have HBEST : Hid (bestM B K c (m + 1) = min b0 (costM B K c m)) := by unfold Hid; simp only [bestM]; rw [if_pos hcm, hb0]
          rw [hb0]
          obtain ⟨q, hq⟩ : ∃ q, (B.V m).toNat = q := ⟨_, rfl⟩
          have hV := HG.out.V m hmn
          have hVq : B.V m = (q : Int) := by omega
          have HVQ := Lib.hid hVq
          have hvc := HV1.out m hmn
          rw [hVq] at hvc
          have hq3 : q ≤ 3 := by omega
          clear hbit hcm hb0 hq hV hVq hmn hm
          go_wp2
          go_loopw [11, 12] (fun t i wr => ∃ v : Nat, v ≤ q ∧ i = .int .i64 v ∧ t = .int .i64 (worstTo (fun v : Nat => K (upd c m (v : Int))) v) ∧ Hid (Below ws.heap.size ws wr)) (fun _ i _ => q - (intOf i).toNat)
          case atStart => exact ⟨0, Nat.zero_le _, rfl, rfl, HBm⟩
          case round =>
          clear HBm cm
          obtain ⟨v, hv, rfl, rfl, HBv⟩ := hrel
          have cv := (old_of HBv.out).1
          by_cases hvq : v < q
          · have hvi : (v : Int) < (q : Int) := by omega
            have HVQ2 := Lib.hid hvq
            have HCV : Hid (CubeOk B (upd c m (v : Int))) := HC.out.part HMN.out (by rw [HVQ.out]; exact hvi)
            have HFV : Hid (freeC B (upd c m (v : Int)) ≤ g) := by have := freeC_part (B := B) (v := v) HMN.out HCM.out; unfold Hid; omega
            obtain ⟨W0, hW0⟩ : ∃ z, worstTo (fun v : Nat => K (upd c m (v : Int))) v = z := ⟨_, rfl⟩
            obtain ⟨kx, hkx⟩ : ∃ z, K (upd c m (v : Int)) = z := ⟨_, rfl⟩
            obtain ⟨W1, hW1⟩ : ∃ z, worstTo (fun v : Nat => K (upd c m (v : Int))) (v + 1) = z := ⟨_, rfl⟩
            have HW1 := Lib.hid hW1
            have HKX : Hid (costC B g (upd c m (v : Int)) = kx) := by unfold Hid; rw [HKE.out]; exact hkx
            have hW01 : W1 = max W0 (kx + 1) := by rw [← hW1, ← hW0, ← hkx]; rfl
            have hkb : 0 ≤ kx ∧ kx ≤ 5 := by
              have h1 := costC_bd g (upd c m (v : Int)) HFV.out
              have h2 := freeC_le B (upd c m (v : Int))
              rw [HKX.out] at h1
              omega
            have hwk : IntKind.i64.wrap (1 + kx) = 1 + kx := IntWalk.i64_in _ (by omega)
            have hmaxr : ∀ (a : Array TypeId) (b : TypeId) (W : World), (Builtin.max_ a b #[.int .i64 W0, .int .i64 (1 + kx)]).run Try.prog W = .ok (.int .i64 W1) W := fun a b W => by
              rw [run_max_int2]
              congr 2
              rw [hW01]
              split <;> omega
            rw [hW0]
            obtain ⟨Rv, hRv⟩ : ∃ R : Nat → Value, R = fun j => (ws.cell? ⟨bu, ou + j, none⟩).getD (.slice none 0 0) := ⟨_, rfl⟩
            have HRV : Hid (∀ j val, ws.cell? ⟨bu, ou + j, none⟩ = some val → Rv j = val) := fun j val h => by rw [hRv]; simp only [h, Option.getD_some]
            obtain ⟨w3, hw3⟩ : ∃ w3, w3 = wr := ⟨_, rfl⟩
            subst hw3
            have HB33 : Hid (Below w3.heap.size w3 w3) := Below.refl _ _
            have hs3 := HBv.out.size
            clear hvq hv hW0 hkx hW1 hW01 hRv
            go_wp2
            go_loopw [13, 14] (fun t i wr => ∃ j : Nat, j ≤ k ∧ i = .int .i64 j ∧ Hid (wr.ownsRow w3.heap.size 22 1 t (idxF zs m (v : Int) j).length ((idxF zs m (v : Int) j).map Rv)) ∧ Hid (Below w3.heap.size w3 wr)) (fun _ i _ => k - (intOf i).toNat)
            case atStart => exact ⟨0, Nat.zero_le _, rfl, World.ownsRow_nil _ _ _ _, HB33⟩
            case round =>
            clear cv
            obtain ⟨j, hj, rfl, HOj, HBj⟩ := hrel
            have HBw := Lib.hid (bel HBv.out HBj.out)
            have cw := (old_of HBw.out).1
            by_cases hjk : j < k
            · have hji : (j : Int) < (k : Int) := by omega
              obtain ⟨z, hz⟩ : ∃ z, zs[j]? = some z := ⟨_, List.getElem?_eq_getElem (by rw [HN.out]; exact hjk)⟩
              obtain ⟨aj, cj, hcj, _, hkj⟩ := HR.out j z hz
              obtain ⟨bj, oj, rfl, hbj, hcc⟩ := (hkj wr HBw.out).cells (by have := HMN.out; omega)
              have hzm := hcc m HMN.out
              have hRj := HRV.out j _ hcj
              have hzd : zs.getD j [] = z := by simp [List.getD, hz]
              have HJK := Lib.hid hjk
              have hlen := idxF_len zs m (v : Int) j
              by_cases hzv : atL z m = (v : Int)
              · have HIX := Lib.hid (idxF_hit (zs := zs) (m := m) (v := (v : Int)) (j := j) (by rw [hzd]; exact hzv))
                have hzb : (atL z m == (v : Int)) = true := by simp [hzv]
                have HRJ := Lib.hid hRj
                have hown := HOj.out
                obtain ⟨li, hli⟩ : ∃ l, idxF zs m (v : Int) j = l := ⟨_, rfl⟩
                rw [hli] at HIX hown hlen
                clear hkj hcc hz hzv hRj hzd hjk hj hli HOj hbj
                go_wp2_with (at_builtin; go_must (refine wpList_append_own _ rfl _ _ 23 rfl w3.heap.size 22 i1 (.slice none 0 0) 1 24 Try.underlying23 hi1 hz1 hz2 hz3 rfl (by decide) _ _ _ rfl (hown.alloc _) ⟨wr.heap.size, 0, none⟩ 1 1 [.slice (some ⟨bj, oj, none⟩) B.nv cj] rfl rfl (cell_one_new _ _ _) (by simp [Value.oneCell']) (by unfold maxLen; omega) (by omega) (by simp; have := HBj.out.size; omega) ?_; intro v' w5 hown5 hgrow _))
                have HO5 : Hid (w5.ownsRow w3.heap.size 22 1 v' (idxF zs m (v : Int) (j + 1)).length ((idxF zs m (v : Int) (j + 1)).map Rv)) := by
                  rw [HIX.out]; unfold Hid; rw [List.length_append, List.map_append]
                  simp only [List.map_cons, List.map_nil, List.length_singleton]
                  rw [HRJ.out]; exact hown5
                have HB5 : Hid (Below w3.heap.size w3 w5) := Lib.hid (Below.grown (Below.alloc HBj.out (Nat.le_trans (Nat.le_refl _) HBj.out.size) _) hgrow (by have := HBj.out.size; simp; omega) (fun i e => (hown.lt i e).1))
                go_roundw
                case rel => first | exact ⟨j + 1, HJK.out, by go_num, HO5, HB5⟩ | exact ⟨j + 1, HJK.out, by go_num⟩
                case measure => simp [intOf]; have := HJK.out; omega
              · have HIX := Lib.hid (idxF_miss (zs := zs) (m := m) (v := (v : Int)) (j := j) (by rw [hzd]; exact hzv))
                have hzb : (atL z m == (v : Int)) = false := by simp [hzv]
                have HO5 : Hid (wr.ownsRow w3.heap.size 22 1 u13 (idxF zs m (v : Int) (j + 1)).length ((idxF zs m (v : Int) (j + 1)).map Rv)) := by rw [HIX.out]; exact HOj
                clear hkj hcc hz hzv hRj hzd hjk hj HOj hbj HIX
                go_wp2
                go_roundw
                case rel => first | exact ⟨j + 1, HJK.out, by go_num, HO5, HBj⟩ | exact ⟨j + 1, HJK.out, by go_num⟩
                case measure => simp [intOf]; have := HJK.out; omega
            · have hji : ¬ (j : Int) < (k : Int) := by omega
              have hje : j = k := by omega
              subst hje
              have hlenI := idxF_len zs m (v : Int) j
              have hOJ := HOj.out
              obtain ⟨aS, cS, rfl⟩ := rows_slice hOJ
              have hfil : (idxF zs m (v : Int) j).map (fun i => zs.getD i []) = cubeF B (upd c m (v : Int)) := by
                rw [← HN.out, idxF_all, ← HZS.out]
                exact cubeF_part HMN.out HCM.out v
              have HZV : Hid (ZsAt wr.heap.size wr (.slice aS (idxF zs m (v : Int) j).length cS) B.nv (cubeF B (upd c m (v : Int)))) := by
                have h1 := own_rows (w4 := ws) (vals := (idxF zs m (v : Int) j).map Rv) (L := fun _ => B.nv) (X := fun i => atL (((idxF zs m (v : Int) j).map (fun i => zs.getD i [])).getD i [])) (by rw [List.length_map]; exact hOJ) (fun jj u hu => by
                  rw [List.getElem?_map, Option.map_eq_some_iff] at hu
                  obtain ⟨i, hi, rfl⟩ := hu
                  have hij := idxF_lt (List.mem_of_getElem? hi)
                  obtain ⟨z, hz⟩ : ∃ z, zs[i]? = some z := ⟨_, List.getElem?_eq_getElem (by rw [HN.out]; exact hij)⟩
                  obtain ⟨aj, cj, hcj, _, hkj⟩ := HR.out i z hz
                  rw [HRV.out i _ hcj]
                  have e : ((idxF zs m (v : Int) j).map (fun i => zs.getD i [])).getD jj [] = z := by
                    simp only [List.getD, List.getElem?_map, hi, Option.map_some, Option.getD_some, hz]
                  rw [e]
                  exact hkj ws (Below.refl _ _)) HBw.out (by rw [List.length_map]; omega)
                rw [List.length_map] at h1
                unfold Hid ZsAt
                rw [← hfil, List.length_map]
                exact h1
              obtain ⟨li, hli⟩ : ∃ l, (idxF zs m (v : Int) j).length = l := ⟨_, rfl⟩
              rw [hli] at HZV ⊢
              have hor := orI_bits ⟨a, ha⟩ ⟨m, by have := HMN.out; omega⟩
              have hp32 := put1_lt32 ⟨a, ha⟩ ⟨m, by have := HMN.out; omega⟩
              simp only at hor hp32
              have HBI : Hid (∀ i, i < B.nv → (put1 a m).testBit i = !decide (upd c m (v : Int) i = -1)) := fun i hi => by
                rw [put1_bit, HBITS.out i hi]
                by_cases e : i = m
                · subst e
                  have e1 : upd c i (v : Int) i = (v : Int) := upd_same _ _ _
                  rw [e1]
                  have : ¬ ((v : Int) = -1) := by omega
                  simp [this]
                · have e1 : upd c m (v : Int) i = c i := upd_other _ _ e
                  rw [e1]
                  have : ¬ (m = i) := fun h => e h.symm
                  simp [this]
              obtain ⟨a2, ha2⟩ : ∃ z, put1 a m = z := ⟨_, rfl⟩
              rw [ha2] at hor hp32 HBI
              have HP32 := Lib.hid hp32
              have HZD : Hid (ZsAt wr.heap.size wr.drew (.slice aS li cS) B.nv (cubeF B (upd c m (v : Int)))) := RowsAt.mono HZV.out (Below.refl _ _).drew (Nat.le_refl _)
              clear hlenI hOJ hfil hli ha2 hp32 HOj hji hj
              have Swd := old_of HBw.out.drew; have HBwd := Swd.2
              go_upto_region 23 with fail
              refine wp_region_held_drew (S := (fun w' => (∀ b o, b < ws.heap.size → w'.cell? ⟨b, o, none⟩ = ws.cell? ⟨b, o, none⟩) ∧ Hid (Below ws.heap.size ws w'))) (by kernel_rfl) Swd (fun hHeld => ?_)
              (refine wpAnyH_take (i := 0) (v := ?_) rfl (by kernel_rfl) (by kernel_rfl) (by kernel_rfl) (fun _ _ _ h => h) (Or.inl ⟨by rfl, ?_⟩) (by assumption) ?_; rotate_left; (focus (intro w hSw; (try dsimp only at hSw); go_simp; (try with_reducible rfl))); (try simp only [List.getElem_toArray, List.getElem_cons_zero, List.getElem_cons_succ, Act.put, List.setIfInBounds_toArray, List.set_cons_zero, List.set_cons_succ])); (refine wpAnyH_take (i := 1) (v := ?_) rfl (by kernel_rfl) (by kernel_rfl) (by kernel_rfl) (fun _ _ _ h => h) (Or.inl ⟨by rfl, ?_⟩) (by assumption) ?_; rotate_left; (focus (intro w hSw; (try dsimp only at hSw); go_simp; (try with_reducible rfl))); (try simp only [List.getElem_toArray, List.getElem_cons_zero, List.getElem_cons_succ, Act.put, List.setIfInBounds_toArray, List.set_cons_zero, List.set_cons_succ])); (refine wpAnyH_take (i := 2) (v := ?_) rfl (by kernel_rfl) (by kernel_rfl) (by kernel_rfl) (fun _ _ _ h => h) (Or.inl ⟨by rfl, ?_⟩) (by assumption) ?_; rotate_left; (focus (intro w hSw; (try dsimp only at hSw); go_simp; (try with_reducible rfl))); (try simp only [List.getElem_toArray, List.getElem_cons_zero, List.getElem_cons_succ, Act.put, List.setIfInBounds_toArray, List.set_cons_zero, List.set_cons_succ])); (refine wpAnyH_take (i := 3) (v := ?_) rfl (by kernel_rfl) (by kernel_rfl) (by kernel_rfl) (fun _ _ _ h => h) (Or.inl ⟨by rfl, ?_⟩) (by assumption) ?_; rotate_left; (focus (intro w hSw; (try dsimp only at hSw); go_simp; (try with_reducible rfl))); (try simp only [List.getElem_toArray, List.getElem_cons_zero, List.getElem_cons_succ, Act.put, List.setIfInBounds_toArray, List.set_cons_zero, List.set_cons_succ])); (refine wpAnyH_take (i := 4) (v := ?_) rfl (by kernel_rfl) (by kernel_rfl) (by kernel_rfl) (fun _ _ _ h => h) (Or.inl ⟨by rfl, ?_⟩) (by assumption) ?_; rotate_left; (focus (intro w hSw; (try dsimp only at hSw); go_simp; (try with_reducible rfl))); (try simp only [List.getElem_toArray, List.getElem_cons_zero, List.getElem_cons_succ, Act.put, List.setIfInBounds_toArray, List.set_cons_zero, List.set_cons_succ])); (refine wpAnyH_take (i := 5) (v := ?_) rfl (by kernel_rfl) (by kernel_rfl) (by kernel_rfl) (fun _ _ _ h => h) (Or.inl ⟨by rfl, ?_⟩) (by assumption) ?_; rotate_left; (focus (intro w hSw; (try dsimp only at hSw); go_simp; (try with_reducible rfl))); (try simp only [List.getElem_toArray, List.getElem_cons_zero, List.getElem_cons_succ, Act.put, List.setIfInBounds_toArray, List.set_cons_zero, List.set_cons_succ])); (refine wpAnyH_take (i := 6) (v := ?_) rfl (by kernel_rfl) (by kernel_rfl) (by kernel_rfl) (fun _ _ _ h => h) (Or.inl ⟨by rfl, ?_⟩) (by assumption) ?_; rotate_left; (focus (intro w hSw; (try dsimp only at hSw); go_simp; (try with_reducible rfl))); (try simp only [List.getElem_toArray, List.getElem_cons_zero, List.getElem_cons_succ, Act.put, List.setIfInBounds_toArray, List.set_cons_zero, List.set_cons_succ]))
              refine wpAnyH_ready (rs := [7]) (by kernel_rfl) (by simp) ?_; refine AllReadyH.cons rfl (fun K hK => ?_) AllReadyH.nil; go_simp
              go_at_call 95
              refine (HRC.out (upd c m (v : Int)) N wr.heap.size a2 _ _ _ HCV.out HFV.out (HBK.out.go HBwd.out) (Nat.le_refl _) HZD.out HP32.out HBI.out).mono ?_
              rw [HKX.out]
              rintro e w6 ⟨rfl, hb6⟩
              have S6 := old_of (bel HBwd.out hb6); have HB6 := S6.2; clear hb6
              refine hK.out _ _ S6 (fun hHeld => ?_); clear hK K; (try simp only [List.getElem_toArray, List.getElem_cons_zero, List.getElem_cons_succ, Act.put, List.setIfInBounds_toArray, List.set_cons_zero, List.set_cons_succ])
              (refine wpAnyH_take (i := 8) (v := ?_) rfl (by kernel_rfl) (by kernel_rfl) (by kernel_rfl) (fun _ _ _ h => h) (Or.inl ⟨by rfl, ?_⟩) (by assumption) ?_; rotate_left; (focus (intro w hSw; (try dsimp only at hSw); go_simp; (try with_reducible rfl))); (try simp only [List.getElem_toArray, List.getElem_cons_zero, List.getElem_cons_succ, Act.put, List.setIfInBounds_toArray, List.set_cons_zero, List.set_cons_succ])); (refine wpAnyH_take (i := 9) (v := ?_) rfl (by kernel_rfl) (by kernel_rfl) (by kernel_rfl) (fun _ _ _ h => h) (Or.inl ⟨by rfl, ?_⟩) (by assumption) ?_; rotate_left; (focus (intro w hSw; (try dsimp only at hSw); go_simp; (try with_reducible rfl))); (try simp only [List.getElem_toArray, List.getElem_cons_zero, List.getElem_cons_succ, Act.put, List.setIfInBounds_toArray, List.set_cons_zero, List.set_cons_succ])); (refine wpAnyH_take (i := 10) (v := ?_) rfl (by kernel_rfl) (by kernel_rfl) (by kernel_rfl) (fun _ _ _ h => h) (Or.inl ⟨by rfl, ?_⟩) (by assumption) ?_; rotate_left; (focus (intro w hSw; (try dsimp only at hSw); go_simp; (try with_reducible rfl))); (try simp only [List.getElem_toArray, List.getElem_cons_zero, List.getElem_cons_succ, Act.put, List.setIfInBounds_toArray, List.set_cons_zero, List.set_cons_succ]))
              refine wpAnyH_done (by kernel_rfl) ?_ _; clear hHeld
              clear S6 Swd
              go_wp2
              go_roundw
              case rel => first | exact ⟨v + 1, HVQ2.out, by go_num, by rw [HW1.out], HB6⟩ | exact ⟨v + 1, HVQ2.out, by go_num, by rw [HW1.out]⟩
              case measure => simp [intOf]; have := HVQ2.out; omega
          · have hvi : ¬ (v : Int) < (q : Int) := by omega
            have hve : v = q := by omega
            subst hve
            have hcost : worstTo (fun v : Nat => K (upd c m (v : Int))) v = costM B K c m := by unfold costM; rw [HVQ.out]; simp
            rw [hcost]
            obtain ⟨cmv, hcmv⟩ : ∃ z, costM B K c m = z := ⟨_, rfl⟩
            rw [hcmv] at HBEST ⊢
            obtain ⟨b2, hb2⟩ : ∃ z, bestM B K c (m + 1) = z := ⟨_, rfl⟩
            have HB2 := Lib.hid hb2
            rw [hb2] at HBEST
            have hminr : ∀ (a : Array TypeId) (b : TypeId) (W : World), (Builtin.min_ a b #[.int .i64 b0, .int .i64 cmv]).run Try.prog W = .ok (.int .i64 b2) W := fun a b W => by
              rw [run_min_int2]
              congr 2
              rw [HBEST.out]
              split <;> omega
            clear hcost hcmv hb2 hv
            go_wp2
            go_roundw
            case rel => first | exact ⟨m + 1, HMN.out, by go_num, by rw [HB2.out], HBv⟩ | exact ⟨m + 1, HMN.out, by go_num, by rw [HB2.out]⟩
            case measure => simp [intOf]; have := HMN.out; omega
        · have hbit1 : (bits BinOp.and IntKind.i64 ((a : Int) / 2 ^ m) 1 == 1) = true := by rw [hbit]; simp [hcm]
          have HBEST : Hid (bestM B K c (m + 1) = bestM B K c m) := by unfold Hid; simp only [bestM]; rw [if_neg hcm]
          clear hbit hcm hmn hm
          go_wp2
          go_roundw
          case rel => first | exact ⟨m + 1, HMN.out, by go_num, by rw [HBEST.out], HBm⟩ | exact ⟨m + 1, HMN.out, by go_num, by rw [HBEST.out]⟩
          case measure => simp [intOf]; have := HMN.out; omega
      · have hmi : ¬ (m : Int) < (B.nv : Int) := by omega
        have hme : m = B.nv := by omega
        subst hme
        go_wp2
        go_ret
        exact ⟨by rw [HCC.out]; rfl, fin HB.out HBm.out⟩

end Go.Proofs.Ytbieglmpkljjjaa

namespace Go.Proofs.Ytbieglmpkljjjaa
open Go.RowKit

theorem rshort_all (B : KB) (hG : GoodB B) : ∀ f, SaysRS B f
  | 0 => rshort_step B hG 0 fun g e => by omega
  | f + 1 => rshort_step B hG (f + 1) fun g e => by
    obtain rfl : f = g := by omega
    exact rshort_all B hG f

/-- what Short answers -/
def eShort (B : KB) : Int × Int := if okKB B then (costK5 B anyC, 0) else (0, 20)
theorem anyC_ok (B : KB) : CubeOk B anyC := ⟨fun _ _ => .inl rfl, fun _ _ => rfl⟩
theorem cubeF_any (B : KB) : cubeF B anyC = allF B := by
  unfold cubeF
  rw [List.filter_eq_self]
  intro z _
  unfold inCb
  rw [allB_true]
  intro i _
  rfl
theorem fr_zs {base lo : Nat} {w : World} {v : Value} {n : Nat} {zs : List (List Int)} (h : FrRows base lo w v zs) (hn : ∀ z, z ∈ zs → z.length = n) (hl : zs.length ≤ 1000) (hn5 : n ≤ 1000) : ZsAt w.heap.size w v n zs := by
  obtain ⟨rows, h1, h2⟩ := h
  have hrl : rows.length = zs.length := by
    have := h1.1
    simpa using this
  unfold ZsAt
  rw [← hrl] at h1 ⊢
  refine own_rows (w4 := w) h1 (fun j u hu => ?_) (Below.refl _ _) (by omega)
  have hj : j < zs.length := by rw [← hrl]; exact (List.getElem?_eq_some_iff.1 hu).1
  obtain ⟨r, hr, hv, _⟩ := h2 j zs[j] (List.getElem?_eq_getElem hj)
  rw [hu] at hr
  obtain rfl := Option.some.inj hr
  have hz := hn zs[j] (List.getElem_mem hj)
  have h3 := hv.ints (by omega)
  rw [hz] at h3
  have e : zs.getD j [] = zs[j] := by simp [List.getD, hj]
  rw [e]
  exact h3

set_option maxRecDepth 100000 in
set_option maxHeartbeats 1600000 in
theorem rShort_any (N : Nat) (v : Value) (B : KB) (w : World) (h : BookAt N w v B) :
    Calls Try.prog 55 #[v] w fun e w' => e = .returned (.tuple #[.int .i64 (eShort B).1, .int .i64 (eShort B).2]) ∧ Below w.heap.size w w' := by
  have h' := h
  obtain ⟨_, a1, z1, a2, z2, a3, z3, rfl, _⟩ := h'
  obtain ⟨ws, hws, HB, hsz, hblk⟩ := box1 w (.cells #[.slice a1 B.nv z1, .slice a2 B.ns z2, .slice a3 B.D.n z3] 26)
  have q0 := cell_blk hblk 0 rfl
  have q1 := cell_blk hblk 1 rfl
  have q2 := cell_blk hblk 2 rfl
  have HBK := Lib.hid (h.go HB.out)
  have HB0 : Hid (Below ws.heap.size ws ws) := Below.refl _ _
  have HNS : Hid (N ≤ ws.heap.size) := HBK.out.1
  have hlens := h.lens
  obtain ⟨hlv, hls, hln⟩ := hlens
  clear hblk h
  cases hv : okKB B with
  | false =>
    have HA : Hid (chk B = 20) := chk_no hv
    have HE : Hid (eShort B = (0, 20)) := by unfold Hid eShort; rw [hv]; rfl
    clear hv
    go_enter Try.func55, Try.ntmps55
    go_wp2_with (go_at_call 47; go_must (refine (rCheck_any N _ B _ (HBK.out.go HB0.out)).mono ?_; rintro e w1 ⟨rfl, hb1⟩; rw [HA.out]; (try clear c0); have HB1 := Lib.hid (bel HB0.out hb1); have c1 := (old_of HB1.out).1; clear hb1))
    go_ret2
    exact ⟨by rw [HE.out]; rfl, fin HB.out HB1.out⟩
  | true =>
    have HG := Lib.hid (goodB hv)
    have HA : Hid (chk B = 0) := chk_yes hv
    have HE : Hid (eShort B = (costC B 5 anyC, 0)) := by unfold Hid eShort; rw [hv]; rfl
    clear hv
    go_enter Try.func55, Try.ntmps55
    go_upto_region 4 with (go_at_call 47; go_must (refine (rCheck_any N _ B _ (HBK.out.go HB0.out)).mono ?_; rintro e w1 ⟨rfl, hb1⟩; rw [HA.out]; (try clear c0); have HB1 := Lib.hid (bel HB0.out hb1); have c1 := (old_of HB1.out).1; clear hb1))
    clear hws
    have S1d := old_of HB1.out.drew; have HB1d := S1d.2
    refine wp_region_held_drew (S := (fun w' => (∀ b o, b < ws.heap.size → w'.cell? ⟨b, o, none⟩ = ws.cell? ⟨b, o, none⟩) ∧ Hid (Below ws.heap.size ws w'))) (by kernel_rfl) S1d (fun hHeld => ?_)
    (refine wpAnyH_take (i := 0) (v := ?_) rfl (by kernel_rfl) (by kernel_rfl) (by kernel_rfl) (fun _ _ _ h => h) (Or.inl ⟨by rfl, ?_⟩) (by assumption) ?_; rotate_left; (focus (intro w hSw; (try dsimp only at hSw); go_simp; (try with_reducible rfl))); (try simp only [List.getElem_toArray, List.getElem_cons_zero, List.getElem_cons_succ, Act.put, List.setIfInBounds_toArray, List.set_cons_zero, List.set_cons_succ])); (refine wpAnyH_take (i := 1) (v := ?_) rfl (by kernel_rfl) (by kernel_rfl) (by kernel_rfl) (fun _ _ _ h => h) (Or.inl ⟨by rfl, ?_⟩) (by assumption) ?_; rotate_left; (focus (intro w hSw; (try dsimp only at hSw); go_simp; (try with_reducible rfl))); (try simp only [List.getElem_toArray, List.getElem_cons_zero, List.getElem_cons_succ, Act.put, List.setIfInBounds_toArray, List.set_cons_zero, List.set_cons_succ]))
    refine wpAnyH_ready (rs := [2]) (by kernel_rfl) (by simp) ?_; refine AllReadyH.cons rfl (fun K hK => ?_) AllReadyH.nil; go_simp
    go_at_call 29
    refine (rFruits_any N _ B HG.out _ (HBK.out.go HB1d.out)).mono ?_
    rintro e w2 ⟨vF, rfl, hrows, hb2⟩
    have HZ : Hid (ZsAt w2.heap.size w2 vF B.nv (cubeF B anyC)) := by
      rw [cubeF_any]
      exact fr_zs hrows (fun z hz => ((allF_mem B z).1 hz).1) (by have := cubeF_len HG.out anyC; rw [cubeF_any] at this; omega) (by have := HG.out.nv; omega)
    clear hrows
    have S2 := old_of (bel HB1d.out hb2); have HB2 := S2.2; clear hb2
    refine hK.out _ _ S2 (fun hHeld => ?_); clear hK K; (try simp only [List.getElem_toArray, List.getElem_cons_zero, List.getElem_cons_succ, Act.put, List.setIfInBounds_toArray, List.set_cons_zero, List.set_cons_succ])
    refine wpAnyH_ready (rs := [3]) (by kernel_rfl) (by simp) ?_; refine AllReadyH.cons rfl (fun K hK => ?_) AllReadyH.nil; go_simp
    go_at_call 95
    refine (rshort_all B HG.out 5 anyC N w2.heap.size 0 _ _ _ (anyC_ok B) (Nat.le_trans (freeC_le B anyC) HG.out.nv) (HBK.out.go HB2.out) (Nat.le_refl _) HZ.out (by omega) (fun i hi => by simp [anyC])).mono ?_
    rintro e w3 ⟨rfl, hb3⟩
    have S3 := old_of (bel HB2.out hb3); have HB3 := S3.2; clear hb3
    refine hK.out _ _ S3 (fun hHeld => ?_); clear hK K; (try simp only [List.getElem_toArray, List.getElem_cons_zero, List.getElem_cons_succ, Act.put, List.setIfInBounds_toArray, List.set_cons_zero, List.set_cons_succ])
    (refine wpAnyH_take (i := 4) (v := ?_) rfl (by kernel_rfl) (by kernel_rfl) (by kernel_rfl) (fun _ _ _ h => h) (Or.inl ⟨by rfl, ?_⟩) (by assumption) ?_; rotate_left; (focus (intro w hSw; (try dsimp only at hSw); go_simp; (try with_reducible rfl))); (try simp only [List.getElem_toArray, List.getElem_cons_zero, List.getElem_cons_succ, Act.put, List.setIfInBounds_toArray, List.set_cons_zero, List.set_cons_succ])); (refine wpAnyH_take (i := 5) (v := ?_) rfl (by kernel_rfl) (by kernel_rfl) (by kernel_rfl) (fun _ _ _ h => h) (Or.inl ⟨by rfl, ?_⟩) (by assumption) ?_; rotate_left; (focus (intro w hSw; (try dsimp only at hSw); go_simp; (try with_reducible rfl))); (try simp only [List.getElem_toArray, List.getElem_cons_zero, List.getElem_cons_succ, Act.put, List.setIfInBounds_toArray, List.set_cons_zero, List.set_cons_succ]))
    refine wpAnyH_done (by kernel_rfl) ?_ _; clear hHeld
    clear S2 S3 S1d
    go_wp2
    go_ret2
    exact ⟨by rw [HE.out]; rfl, fin HB.out HB3.out⟩

end Go.Proofs.Ytbieglmpkljjjaa
